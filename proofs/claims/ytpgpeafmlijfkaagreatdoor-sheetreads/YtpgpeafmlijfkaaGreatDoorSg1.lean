/-
  Sheets: a text that is quoted, between others: what the Reader makes of it.
-/
import Derived.Test.YtpgpeafmlijfkaaGreatDoorSp3
namespace Go.Proofs.YtpgpeafmlijfkaaGreatDoor
set_option maxRecDepth 100000
set_option linter.unusedVariables false
set_option linter.unusedSimpArgs false

theorem runL_app (s : Rs) (a b : List UInt8) : runL s (a ++ b) = runL (runL s a) b := by
  induction a generalizing s with
  | nil => rfl
  | cons c r ih =>
    rw [List.cons_append, runL, runL]
    by_cases h : s.er = 0
    · rw [if_pos h, if_pos h, ih]
    · rw [if_neg h, if_neg h, runL_er s b h]
/-- quotes doubled -/
def dbl : List UInt8 → List UInt8
  | [] => []
  | c :: t => if c.toNat = 34 then c :: c :: dbl t else c :: dbl t
theorem dbl_app (a b : List UInt8) : dbl (a ++ b) = dbl a ++ dbl b := by
  induction a with
  | nil => rfl
  | cons c t ih =>
    rw [List.cons_append, dbl, dbl, ih]
    split <;> rfl
theorem dbl_len (a : List UInt8) : (dbl a).length ≤ 2 * a.length := by
  induction a with
  | nil => simp [dbl]
  | cons c t ih =>
    rw [dbl]
    split <;> simp <;> omega
/-- the fault of a quoted cell, behind so many bytes: none, a byte, too long -/
def qo : List UInt8 → Nat → Nat
  | [], _ => 0
  | c :: t, k => if mayB c.toNat = false then 4 else if k = 4096 then 5 else qo t (k + 1)
theorem qo_vals (T : List UInt8) (k : Nat) : qo T k = 0 ∨ qo T k = 4 ∨ qo T k = 5 := by
  induction T generalizing k with
  | nil => exact .inl rfl
  | cons c t ih =>
    rw [qo]
    split
    · exact .inr (.inl rfl)
    · split
      · exact .inr (.inr rfl)
      · exact ih _
theorem qo_bad (T : List UInt8) (k j : Nat) (hj : j < T.length) (h1 : ∀ i (hi : i < j), mayB (T[i]'(by omega)).toNat = true) (h2 : mayB (T[j]).toNat = false) (h3 : k + j ≤ 4096) : qo T k = 4 := by
  induction T generalizing k j with
  | nil => simp at hj
  | cons c t ih =>
    rw [qo]
    cases j with
    | zero =>
      have h2' : mayB c.toNat = false := h2
      rw [if_pos h2']
    | succ j =>
      have h0 : mayB c.toNat = true := h1 0 (by omega)
      rw [if_neg (by rw [h0]; decide), if_neg (by omega)]
      exact ih (k + 1) j (by simpa using hj) (fun i hi => h1 (i + 1) (by omega)) h2 (by omega)
theorem qo_fine (T : List UInt8) (k : Nat) (h1 : ∀ i (hi : i < T.length), mayB (T[i]).toNat = true) (h3 : k + T.length ≤ 4096) : qo T k = 0 := by
  induction T generalizing k with
  | nil => rfl
  | cons c t ih =>
    have h0 : mayB c.toNat = true := h1 0 (by simp)
    simp at h3
    rw [qo, if_neg (by rw [h0]; decide), if_neg (by omega)]
    exact ih (k + 1) (fun i hi => h1 (i + 1) (by simpa using hi)) (by omega)
theorem qo_long (T : List UInt8) (k : Nat) (hk : k ≤ 4096) (h : 4096 < k + T.length) : qo T k ≠ 0 := by
  induction T generalizing k with
  | nil => simp at h; omega
  | cons c t ih =>
    rw [qo]
    split
    · decide
    · split
      · decide
      · simp at h
        exact ih (k + 1) (by omega) (by omega)
theorem qo_take (T : List UInt8) (k : Nat) (hk : k ≤ 4096) (h : qo T k ≠ 0) : qo (T.take (4097 - k)) k = qo T k := by
  induction T generalizing k with
  | nil => simp
  | cons c t ih =>
    have e : (c :: t).take (4097 - k) = c :: t.take (4096 - k) := by rw [show 4097 - k = (4096 - k) + 1 by omega, List.take_succ_cons]
    rw [e, qo, qo]
    by_cases h1 : mayB c.toNat = false
    · rw [if_pos h1, if_pos h1]
    · by_cases h2 : k = 4096
      · rw [if_neg h1, if_neg h1, if_pos h2, if_pos h2]
      · rw [if_neg h1, if_neg h1, if_neg h2, if_neg h2]
        rw [qo, if_neg h1, if_neg h2] at h
        have := ih (k + 1) (by omega) h
        rwa [show 4097 - (k + 1) = 4096 - k by omega] at this

theorem take_ok (s : Rs) (c : UInt8) (h : s.sz ≠ 262144) : s.take c = (s.next (some c)).gone c := by unfold Rs.take; rw [if_neg h]
/-- within quotes -/
theorem dbl_run (T : List UInt8) : ∀ (s : Rs), s.md = 4 → s.er = 0 → s.cur.length ≤ 4096 → s.sz ≤ 100 + 2 * s.cur.length →
    (qo T s.cur.length = 0 ∧ (runL s (dbl T)).md = 4 ∧ (runL s (dbl T)).er = 0 ∧ (runL s (dbl T)).cur = s.cur ++ T ∧ (runL s (dbl T)).cs = s.cs ∧ (runL s (dbl T)).td = s.td ∧ (runL s (dbl T)).rw = s.rw ∧ (runL s (dbl T)).sz ≤ 100 + 2 * (s.cur ++ T).length ∧ (s.cur ++ T).length ≤ 4096)
    ∨ (qo T s.cur.length ≠ 0 ∧ (runL s (dbl T)).er = qo T s.cur.length) := by
  induction T with
  | nil =>
    intro s h1 h2 h3 h4
    exact .inl ⟨rfl, h1, h2, by simp [dbl, runL], rfl, rfl, rfl, by rw [List.append_nil]; exact h4, by rw [List.append_nil]; exact h3⟩
  | cons c t ih =>
    intro s h1 h2 h3 h4
    by_cases hq : c.toNat = 34
    · have hd : dbl (c :: t) = [c, c] ++ dbl t := by rw [dbl, if_pos hq]; rfl
      have hm : mayB c.toNat = true := by rw [hq]; rfl
      have e1 : s.take c = { s with md := 5, sz := s.sz + 1, hp := adv s.hp c.toNat } := by
        rw [take_ok s c (by omega)]
        simp [Rs.next, h1, Rs.quoted, hq, Rs.gone]
      rw [hd, runL_app]
      by_cases hl : s.cur.length = 4096
      · have e2 : (runL s [c, c]).er = 5 := by
          rw [runL, if_pos h2, e1, runL, if_pos h2, take_ok _ c (by simp only; omega), runL]
          simp [Rs.next, Rs.behindQuote, hq, Rs.add, hl, Rs.fail, Rs.gone]
        right
        have hv : qo (c :: t) s.cur.length = 5 := by rw [qo, if_neg (by rw [hm]; decide), if_pos hl]
        rw [hv, runL_er _ _ (by rw [e2]; decide)]
        exact ⟨by decide, e2⟩
      · have e2 : runL s [c, c] = { s with md := 4, sz := s.sz + 2, hp := adv (adv s.hp c.toNat) c.toNat, cur := s.cur ++ [c] } := by
          rw [runL, if_pos h2, e1, runL, if_pos h2, take_ok _ c (by simp only; omega), runL]
          simp [Rs.next, Rs.behindQuote, hq, Rs.add, hl, Rs.gone]
        have hv : qo (c :: t) s.cur.length = qo t (s.cur.length + 1) := by rw [qo, if_neg (by rw [hm]; decide), if_neg hl]
        rw [hv, e2]
        have := ih { s with md := 4, sz := s.sz + 2, hp := adv (adv s.hp c.toNat) c.toNat, cur := s.cur ++ [c] } rfl h2 (by simp; omega) (by simp; omega)
        simp only [List.length_append, List.length_cons, List.length_nil, List.append_assoc, List.cons_append, List.nil_append] at this ⊢
        exact this
    · have hd : dbl (c :: t) = [c] ++ dbl t := by rw [dbl, if_neg hq]; rfl
      rw [hd, runL_app]
      by_cases hm : mayB c.toNat = false
      · have e2 : (runL s [c]).er = 4 := by
          rw [runL, if_pos h2, take_ok _ c (by omega), runL]
          simp [Rs.next, h1, Rs.quoted, hq, hm, Rs.fail, Rs.gone]
        right
        have hv : qo (c :: t) s.cur.length = 4 := by rw [qo, if_pos hm]
        rw [hv, runL_er _ _ (by rw [e2]; decide)]
        exact ⟨by decide, e2⟩
      · by_cases hl : s.cur.length = 4096
        · have e2 : (runL s [c]).er = 5 := by
            rw [runL, if_pos h2, take_ok _ c (by omega), runL]
            simp [Rs.next, h1, Rs.quoted, hq, hm, Rs.add, hl, Rs.fail, Rs.gone]
          right
          have hv : qo (c :: t) s.cur.length = 5 := by rw [qo, if_neg hm, if_pos hl]
          rw [hv, runL_er _ _ (by rw [e2]; decide)]
          exact ⟨by decide, e2⟩
        · have e2 : runL s [c] = { s with sz := s.sz + 1, hp := adv s.hp c.toNat, cur := s.cur ++ [c] } := by
            rw [runL, if_pos h2, take_ok _ c (by omega), runL]
            simp [Rs.next, h1, Rs.quoted, hq, hm, Rs.add, hl, Rs.gone]
          have hv : qo (c :: t) s.cur.length = qo t (s.cur.length + 1) := by rw [qo, if_neg hm, if_neg hl]
          rw [hv, e2]
          have := ih { s with sz := s.sz + 1, hp := adv s.hp c.toNat, cur := s.cur ++ [c] } h1 h2 (by simp; omega) (by simp; omega)
          simp only [List.length_append, List.length_cons, List.length_nil, List.append_assoc, List.cons_append, List.nil_append] at this ⊢
          exact this

/-- behind so many commas -/
def stC (n : Nat) : Rs := { md := if n = 0 then 1 else 2, sz := n, hp := (1, n), op := (0, 0), ep := (0, 0), rw := 0, wd := 0, cur := [], cs := List.replicate n [], td := [], er := 0, fp := (0, 0) }
theorem commas_run : ∀ (n : Nat), n ≤ 60 → runL s0 (List.replicate n 44) = stC n
  | 0, _ => rfl
  | n + 1, h => by
    rw [List.replicate_succ', runL_app, commas_run n (by omega), runL, if_pos (show (stC n).er = 0 from rfl), take_ok _ _ (by simp [stC]; omega), runL]
    have h44 : (44 : UInt8).toNat = 44 := rfl
    by_cases h0 : n = 0
    · subst h0
      rfl
    · have hl : ¬ n + 1 = 64 := by omega
      have hl' : ¬ n = 63 := by omega
      simp [stC, h0, Rs.next, Rs.beginCell, Rs.plain, Rs.endCell, Rs.cel, hl, hl', Rs.gone, adv, List.replicate_succ']
/-- the opening quote -/
theorem quote_run (n : Nat) (h : n ≤ 60) : (runL (stC n) [34]).md = 4 ∧ (runL (stC n) [34]).er = 0 ∧ (runL (stC n) [34]).cur = [] ∧ (runL (stC n) [34]).cs = List.replicate n [] ∧ (runL (stC n) [34]).td = [] ∧ (runL (stC n) [34]).rw = 0 ∧ (runL (stC n) [34]).sz ≤ 100 := by
  have e : runL (stC n) [34] = ((stC n).next (some 34)).gone 34 := by rw [runL, if_pos (show (stC n).er = 0 from rfl), take_ok _ _ (by simp [stC]; omega), runL]
  have h34 : (34 : UInt8).toNat = 34 := rfl
  rw [e]
  by_cases h0 : n = 0
  · subst h0
    exact ⟨rfl, rfl, rfl, rfl, rfl, rfl, by decide⟩
  · simp [stC, h0, Rs.next, Rs.beginCell, Rs.gone]
    omega
/-- the end -/
theorem end_run (s : Rs) (h1 : s.md = 4) (h2 : s.er = 0) (h3 : s.rw = 0) (h4 : s.cs.length ≤ 60) (h5 : s.sz ≤ 10000) :
    (runL s [34, 44, 122, 13, 10]).er = 0 ∧ (runL s [34, 44, 122, 13, 10]).md = 1 ∧ (runL s [34, 44, 122, 13, 10]).td = s.td ++ [s.cs ++ [s.cur] ++ [[122]]] := by
  have a1 : ¬ s.cs.length + 1 = 64 := by omega
  have a2 : ¬ s.cs.length = 63 := by omega
  have e1 : s.take 34 = { s with md := 5, sz := s.sz + 1, hp := adv s.hp 34 } := by
    rw [take_ok s _ (by omega)]
    simp [Rs.next, h1, Rs.quoted, Rs.gone]
  have e2 : Rs.take { s with md := 5, sz := s.sz + 1, hp := adv s.hp 34 } 44 = { s with md := 2, sz := s.sz + 2, hp := adv (adv s.hp 34) 44, cs := s.cs ++ [s.cur], cur := [] } := by
    rw [take_ok _ _ (by simp only; omega)]
    simp [Rs.next, Rs.behindQuote, Rs.endCell, Rs.cel, a1, a2, Rs.gone]
  have e3 : Rs.take { s with md := 2, sz := s.sz + 2, hp := adv (adv s.hp 34) 44, cs := s.cs ++ [s.cur], cur := [] } 122 = { s with md := 3, sz := s.sz + 3, hp := adv (adv (adv s.hp 34) 44) 122, cs := s.cs ++ [s.cur], cur := [122] } := by
    rw [take_ok _ _ (by simp only; omega)]
    have hm : mayB 122 = true := rfl
    simp [Rs.next, Rs.beginCell, Rs.plain, hm, Rs.add, Rs.gone]
  have e4 : Rs.take { s with md := 3, sz := s.sz + 3, hp := adv (adv (adv s.hp 34) 44) 122, cs := s.cs ++ [s.cur], cur := [122] } 13 = { s with md := 6, sz := s.sz + 4, hp := adv (adv (adv (adv s.hp 34) 44) 122) 13, ep := adv (adv (adv s.hp 34) 44) 122, cs := s.cs ++ [s.cur] ++ [[122]], cur := [] } := by
    rw [take_ok _ _ (by simp only; omega)]
    simp [Rs.next, Rs.plain, Rs.endCell, Rs.cel, Rs.gone]
  rw [runL, if_pos h2, e1, runL, if_pos h2, e2, runL, if_pos h2, e3, runL, if_pos h2, e4, runL, if_pos h2, runL, take_ok _ _ (by simp only; omega)]
  simp [Rs.next, Rs.behindReturn, Rs.endRow, h3, h2, Rs.gone]

/-- the sheet of the law -/
def Qs (n : Nat) (T : List UInt8) : List UInt8 := List.replicate n 44 ++ ([34] ++ dbl T) ++ [34, 44, 122, 13, 10]
theorem quoted_is (n : Nat) (T : List UInt8) (hn : n ≤ 60) :
    (qo T 0 = 0 ∧ (rdA (Qs n T)).2.2.1 = 0 ∧ (rdA (Qs n T)).1 = [List.replicate n [] ++ [T] ++ [[122]]]) ∨ (qo T 0 ≠ 0 ∧ (rdA (Qs n T)).2.2.1 = qo T 0) := by
  obtain ⟨q1, q2, q3, q4, q5, q6, q7⟩ := quote_run n hn
  have hf : fdP (Qs n T) = runL s0 (cut (Qs n T)) := by unfold fdP feed; rw [List.drop_zero]
  by_cases h : qo T 0 = 0
  · left
    refine ⟨h, ?_⟩
    rcases dbl_run T _ q1 q2 (by rw [q3]; simp) (by rw [q3]; simpa using q7) with ⟨_, d1, d2, d3, d4, d5, d6, d7, d8⟩ | ⟨d1, _⟩
    · rw [q3, List.nil_append] at d3 d7 d8
      have hc : cut (Qs n T) = Qs n T := by
        unfold cut
        rw [Nat.min_eq_left, List.take_length]
        have := dbl_len T
        simp [Qs]
        omega
      obtain ⟨f1, f2, f3⟩ := end_run _ d1 d2 (d6.trans q6) (by rw [d4, q4]; simpa using hn) (by omega)
      have e : fdP (Qs n T) = runL (runL (runL (stC n) [34]) (dbl T)) [34, 44, 122, 13, 10] := by
        rw [hf, hc]
        unfold Qs
        rw [runL_app, runL_app, commas_run n hn, runL_app]
      rw [← e] at f1 f2 f3
      have hcl : clP (fdP (Qs n T)) = { fdP (Qs n T) with td := [] } := by
        unfold clP
        rw [if_pos f1]
        simp [Rs.next, f2, Rs.beginRow]
      rcases parse_one (Qs n T) with ⟨p1, p2, p3, p4⟩ | ⟨p1, p2, p3, p4, p5⟩
      · refine ⟨p1, ?_⟩
        rw [← p4, hcl, f3, d5, q5, d4, q4, d3]
        simp
      · rw [hcl] at p3
        exact absurd (p3.symm.trans f1) p1
    · rw [q3] at d1
      exact absurd h d1
  · right
    refine ⟨h, ?_⟩
    have ht : qo (T.take 4097) 0 = qo T 0 := qo_take T 0 (by omega) h
    rcases dbl_run (T.take 4097) _ q1 q2 (by rw [q3]; simp) (by rw [q3]; simpa using q7) with ⟨d0, _⟩ | ⟨_, d1⟩
    · rw [q3] at d0
      exact absurd (ht.symm.trans d0) h
    · have hq : qo (T.take 4097) (runL (stC n) [34]).cur.length = qo T 0 := by rw [q3]; exact ht
      rw [hq] at d1
      have hP : Qs n T = (List.replicate n 44 ++ ([34] ++ dbl (T.take 4097))) ++ (dbl (T.drop 4097) ++ [34, 44, 122, 13, 10]) := by
        unfold Qs
        have : dbl T = dbl (T.take 4097) ++ dbl (T.drop 4097) := by rw [← dbl_app, List.take_append_drop]
        rw [this]
        simp
      have hl : (List.replicate n (44 : UInt8) ++ ([34] ++ dbl (T.take 4097))).length ≤ 10000 := by
        have := dbl_len (T.take 4097)
        simp at this ⊢
        omega
      have hc : ∃ X, cut (Qs n T) = (List.replicate n 44 ++ ([34] ++ dbl (T.take 4097))) ++ X := by
        unfold cut
        rw [hP, List.take_append]
        rw [List.take_of_length_le (by simp at hl ⊢; omega)]
        exact ⟨_, rfl⟩
      obtain ⟨X, hX⟩ := hc
      have e : fdP (Qs n T) = runL (runL (stC n) [34]) (dbl (T.take 4097)) := by
        rw [hf, hX, runL_app, runL_app, commas_run n hn, runL_app, runL_er _ X (by rw [d1]; exact h)]
      have her : (fdP (Qs n T)).er = qo T 0 := by rw [e]; exact d1
      have hcl : clP (fdP (Qs n T)) = fdP (Qs n T) := by unfold clP; rw [if_neg (by rw [her]; exact h)]
      rcases parse_one (Qs n T) with ⟨p1, p2, p3, p4⟩ | ⟨p1, p2, p3, p4, p5⟩
      · exact absurd (her.symm.trans p2) h
      · rw [hcl, her] at p3
        exact p3.symm
end Go.Proofs.YtpgpeafmlijfkaaGreatDoor
