/-
  Sheets: texts that are too long; what Parse answers.
-/
import Derived.Test.YtpgpeafmlijfkaaGreatDoorSp2
namespace Go.Proofs.YtpgpeafmlijfkaaGreatDoor
set_option maxRecDepth 100000
set_option linter.unusedVariables false
set_option linter.unusedSimpArgs false

theorem bt_take (L : List UInt8) (k i : Nat) (h : i < k) : bt (L.take k) i = bt L i := by
  unfold bt
  rw [List.getD_eq_getElem?_getD, List.getD_eq_getElem?_getD, List.getElem?_take_of_lt h]
theorem ch_take (L : List UInt8) (k i : Nat) (h : i < k) : ch (L.take k) i = ch L i := by unfold ch; rw [bt_take L k i h]
theorem plc_take (L : List UInt8) (k : Nat) : ∀ i, i ≤ k → plc (L.take k) i = plc L i
  | 0, _ => rfl
  | i + 1, h => by rw [plc, plc, plc_take L k i (by omega), ch_take L k i (by omega)]

/-- what comes first is taken first -/
theorem feed_take (L : List UInt8) (k : Nat) (hk : k ≤ L.length) : ∀ (n i : Nat) (s : Rs), k - i ≤ n → i ≤ k →
    feed L s i = (if (feed (L.take k) s i).er = 0 then feed L (feed (L.take k) s i) k else feed (L.take k) s i) := by
  intro n
  induction n with
  | zero =>
    intro i s hn hi
    have he : i = k := by omega
    subst he
    rw [feed_end (L.take i) s i (by simp; omega)]
    by_cases h : s.er = 0
    · rw [if_pos h]
    · rw [if_neg h, feed_er L s i h]
  | succ n ih =>
    intro i s hn hi
    rcases Nat.lt_or_ge i k with hlt | hge
    · by_cases h : s.er = 0
      · have e1 : feed L s i = feed L (s.take (bt L i)) (i + 1) := feed_go L s i (by omega) h
        have e2 : feed (L.take k) s i = feed (L.take k) (s.take (bt L i)) (i + 1) := by
          rw [feed_go (L.take k) s i (by simp; omega) h, bt_take L k i hlt]
        rw [e1, e2]
        exact ih (i + 1) _ (by omega) (by omega)
      · rw [feed_er (L.take k) s i h, feed_er L s i h, if_neg h]
    · have he : i = k := by omega
      subst he
      rw [feed_end (L.take i) s i (by simp; omega)]
      by_cases h : s.er = 0
      · rw [if_pos h]
      · rw [if_neg h, feed_er L s i h]

/-- the Reader to which nothing has come, begun -/
def s0 : Rs := { md := 1, sz := 0, hp := (1, 0), op := (0, 0), ep := (0, 0), rw := 0, wd := 0, cur := [], cs := [], td := [], er := 0, fp := (0, 0) }
theorem s0_st (L : List UInt8) : s0 = st L 1 0 (0, 0) (0, 0) ([] : List (List (List UInt8))).length 0 [] [] [] := rfl

/-- what the document reads: rows, how many an LF has ended, the fault's code and place -/
def rdA (L : List UInt8) : List (List (List UInt8)) × Nat × Nat × Nat :=
  if L.length ≤ 262144 then rdD L (L.length + 1) 0 []
  else
    let q := rdD (L.take 262144) ((L.take 262144).length + 1) 0 []
    if shw (L.take 262144) q.2.2.1 q.2.2.2 = true then q else (q.1.take q.2.1, q.2.1, 20, 262144)

/-- the bytes that Parse feeds -/
def cut (L : List UInt8) : List UInt8 := L.take (min L.length 262145)
def fdP (L : List UInt8) : Rs := feed (cut L) s0 0
def clP (s : Rs) : Rs := if s.er = 0 then Rs.next { s with td := [] } none else s

theorem next_td (s : Rs) : ((Rs.next { s with td := [] } none).er = (s.next none).er ∧ (Rs.next { s with td := [] } none).fp = (s.next none).fp) ∧ (s.next none).td = s.td ++ (Rs.next { s with td := [] } none).td := by
  by_cases hg : 0 < s.rw ∧ s.cs.length + 1 ≠ s.wd
  all_goals
    unfold Rs.next
    by_cases h1 : s.md = 1
    · simp [h1, Rs.beginRow]
    by_cases h2 : s.md = 2
    · simp [h2, Rs.beginCell, Rs.plain, Rs.endCell, Rs.cel, Rs.endRow, hg, Rs.fail]
    by_cases h3 : s.md = 3
    · simp [h3, Rs.plain, Rs.endCell, Rs.cel, Rs.endRow, hg, Rs.fail]
    by_cases h4 : s.md = 4
    · simp [h4, Rs.quoted, Rs.fail]
    by_cases h5 : s.md = 5
    · simp [h5, Rs.behindQuote, Rs.endCell, Rs.cel, Rs.endRow, hg, Rs.fail]
    · simp [h1, h2, h3, h4, h5, Rs.behindReturn, Rs.fail]

/-- what Parse answers is what the document reads -/
theorem parse_one (L : List UInt8) :
    ((rdA L).2.2.1 = 0 ∧ (fdP L).er = 0 ∧ (clP (fdP L)).er = 0 ∧ (fdP L).td ++ (clP (fdP L)).td = (rdA L).1)
    ∨ ((rdA L).2.2.1 ≠ 0 ∧ ((rdA L).2.2.1 ≤ 8 ∨ (rdA L).2.2.1 = 20) ∧ (clP (fdP L)).er = (rdA L).2.2.1 ∧ (clP (fdP L)).fp = plc L (rdA L).2.2.2 ∧ (rdA L).2.2.2 ≤ L.length) := by
  have key : ∀ N : List UInt8, N.length ≤ 262144 → Reads2 N (feed N s0 0) (rdD N (N.length + 1) 0 []) := by
    intro N hN
    exact read_feed N hN (N.length + 1) 0 (0, 0) (0, 0) 0 [] (by omega) (Nat.zero_le _) (by simp)
  rcases Nat.lt_or_ge 262144 L.length with hl | hl
  · have hq : rdA L = (if shw (L.take 262144) (rdD (L.take 262144) ((L.take 262144).length + 1) 0 []).2.2.1 (rdD (L.take 262144) ((L.take 262144).length + 1) 0 []).2.2.2 = true then rdD (L.take 262144) ((L.take 262144).length + 1) 0 [] else ((rdD (L.take 262144) ((L.take 262144).length + 1) 0 []).1.take (rdD (L.take 262144) ((L.take 262144).length + 1) 0 []).2.1, (rdD (L.take 262144) ((L.take 262144).length + 1) 0 []).2.1, 20, 262144)) := by
      rw [rdA, if_neg (by omega)]
    have hN : (L.take 262144).length = 262144 := by simp; omega
    obtain ⟨k1, k2, k3⟩ := key (L.take 262144) (by omega)
    have hM : cut L = L.take 262145 := by unfold cut; congr 1; omega
    have hMl : (cut L).length = 262145 := by rw [hM]; simp; omega
    have hMt : (cut L).take 262144 = L.take 262144 := by rw [hM, List.take_take]; congr 1
    have hf := feed_take (cut L) 262144 (by omega) 262144 0 s0 (by omega) (by omega)
    rw [hMt] at hf
    refine .inr ?_
    rcases k3 with ⟨h1, ⟨h2, h3, h4⟩, h5, h6⟩ | ⟨h1, h2, h3, h4, h5, h6⟩
    · rw [h1, if_pos rfl] at hq
      have hne : ¬ (feed (L.take 262144) s0 0).er = 0 := by rw [h2]; exact h5
      rw [if_neg hne] at hf
      have hc : clP (fdP L) = feed (L.take 262144) s0 0 := by unfold clP fdP; rw [hf, if_neg hne]
      rw [hq, hc]
      refine ⟨h5, .inl h6, h2, ?_, by omega⟩
      rw [h3]
      exact plc_take L 262144 _ (by omega)
    · rw [h1, if_neg (by simp)] at hq
      rw [if_pos h2] at hf
      have hg : feed (cut L) (feed (L.take 262144) s0 0) 262144 = feed (cut L) ((feed (L.take 262144) s0 0).fail 20 (feed (L.take 262144) s0 0).hp) 262145 := by
        rw [feed_go (cut L) _ 262144 (by omega) h2, Rs.take, if_pos (by rw [h4]; exact hN)]
      rw [hg, feed_er (cut L) ((feed (L.take 262144) s0 0).fail 20 (feed (L.take 262144) s0 0).hp) 262145 (by simp [Rs.fail])] at hf
      have hc : clP (fdP L) = (feed (L.take 262144) s0 0).fail 20 (feed (L.take 262144) s0 0).hp := by
        unfold clP fdP
        rw [hf, if_neg (by simp [Rs.fail])]
      rw [hq, hc]
      refine ⟨by simp, .inr rfl, rfl, ?_, by simp only; omega⟩
      show (feed (L.take 262144) s0 0).hp = _
      rw [h5, hN]
      exact plc_take L 262144 _ (by omega)
  · have hq : rdA L = rdD L (L.length + 1) 0 [] := by rw [rdA, if_pos hl]
    have hM : cut L = L := by unfold cut; rw [List.take_of_length_le (by omega)]
    obtain ⟨k1, k2, k3⟩ := key L hl
    have hf : fdP L = feed L s0 0 := by unfold fdP; rw [hM]
    rw [hq, hf]
    rcases k3 with ⟨h1, ⟨h2, h3, h4⟩, h5, h6⟩ | ⟨h1, h2, h3, h4, h5, h6⟩
    · have hne : ¬ (feed L s0 0).er = 0 := by rw [h2]; exact h5
      have hc : clP (feed L s0 0) = feed L s0 0 := by unfold clP; rw [if_neg hne]
      rw [hc]
      exact .inr ⟨h5, .inl h6, h2, h3, k2⟩
    · have hc : clP (feed L s0 0) = Rs.next { feed L s0 0 with td := [] } none := by unfold clP; rw [if_pos h2]
      obtain ⟨⟨n1, n2⟩, n3⟩ := next_td (feed L s0 0)
      rw [hc, n1, n2]
      rcases h6 with ⟨h6, h7, h8⟩ | ⟨h6, h6', h7, h8, h9⟩
      · exact .inl ⟨h6, h2, h7, by rw [← n3]; exact h8⟩
      · exact .inr ⟨h6, .inl h6', h7, h8, k2⟩
end Go.Proofs.YtpgpeafmlijfkaaGreatDoor
