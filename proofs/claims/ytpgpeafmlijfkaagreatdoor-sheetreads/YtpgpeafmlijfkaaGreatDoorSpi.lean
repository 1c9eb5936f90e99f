/-
  Sheets, pure: where the first fault stands, and what the bytes ahead of it and behind it make of it.
-/
import Derived.Test.YtpgpeafmlijfkaaGreatDoorSg1
namespace Go.Proofs.YtpgpeafmlijfkaaGreatDoor
set_option maxRecDepth 100000
set_option linter.unusedVariables false
set_option linter.unusedSimpArgs false

/-- the Reader behind the first j bytes -/
def sj (L : List UInt8) (j : Nat) : Rs := runL s0 (L.take j)
theorem take_succ (L : List UInt8) (j : Nat) (h : j < L.length) : L.take (j + 1) = L.take j ++ [bt L j] := by
  unfold bt
  rw [List.take_add_one, List.getD_eq_getElem?_getD, List.getElem?_eq_getElem h]
  rfl
theorem sj_succ (L : List UInt8) (j : Nat) (h : j < L.length) (h0 : (sj L j).er = 0) : sj L (j + 1) = (sj L j).take (bt L j) := by
  unfold sj at h0 ⊢
  rw [take_succ L j h, runL_app, runL, if_pos h0, runL]
theorem sj_stuck (L : List UInt8) (j : Nat) (h0 : (sj L j).er ≠ 0) : sj L (j + 1) = sj L j := by
  rcases Nat.lt_or_ge j L.length with h | h
  · unfold sj at h0 ⊢
    rw [take_succ L j h, runL_app, runL_er _ _ h0]
  · unfold sj
    rw [List.take_of_length_le h, List.take_of_length_le (by omega)]
theorem sj_back (L : List UInt8) (j : Nat) (h0 : (sj L (j + 1)).er = 0) : (sj L j).er = 0 := by
  by_cases h : (sj L j).er = 0
  · exact h
  · rw [sj_stuck L j h] at h0
    exact h0
/-- what holds of a Reader without fault behind j bytes -/
structure Ivn (L : List UInt8) (j : Nat) : Prop where
  sz : (sj L j).sz = j
  hp : (sj L j).hp = plc L j
  md : 1 ≤ (sj L j).md ∧ (sj L j).md ≤ 6
  ep : (sj L j).md = 6 → ∃ k, j = k + 1 ∧ (sj L j).ep = plc L k ∧ (sj L k).md ≠ 6 ∧ (sj L k).er = 0
  op : (sj L j).md = 4 ∨ (sj L j).md = 5 → ∃ o, o < j ∧ (sj L j).op = plc L o ∧ (sj L o).md ≠ 6 ∧ (sj L o).er = 0
theorem add_er (s : Rs) (c : UInt8) : (s.add c).er = s.er ∨ (s.add c).er = 5 := by
  unfold Rs.add
  split
  · exact .inr rfl
  · exact .inl rfl
/-- one byte more, without a fault: the state turns so -/
structure Trn (s t : Rs) : Prop where
  hp : t.hp = s.hp
  sz : t.sz = s.sz
  md : 1 ≤ t.md ∧ t.md ≤ 6
  ep : t.md = 6 → t.ep = s.hp ∧ s.md ≠ 6
  op : t.md = 4 ∨ t.md = 5 → (t.op = s.op ∧ (s.md = 4 ∨ s.md = 5)) ∨ (t.op = s.hp ∧ s.md ≠ 6)
theorem add_trn {s : Rs} (c : UInt8) (u : Rs) (h : (u.add c).er = 0) (h1 : u.hp = s.hp) (h2 : u.sz = s.sz) (h3 : 1 ≤ u.md ∧ u.md ≤ 6) (h4 : u.md ≠ 6) (h5 : u.md = 4 ∨ u.md = 5 → (u.op = s.op ∧ (s.md = 4 ∨ s.md = 5)) ∨ (u.op = s.hp ∧ s.md ≠ 6)) : Trn s (u.add c) := by
  unfold Rs.add at h ⊢
  by_cases hl : u.cur.length = 4096
  · rw [if_pos hl] at h
    exact absurd h (by simp [Rs.fail])
  · rw [if_neg hl]
    exact ⟨h1, h2, h3, fun e => absurd e h4, h5⟩
theorem endCell_trn {s : Rs} (c : UInt8) (u : Rs) (h : (u.endCell (some c)).er = 0) (h1 : u.hp = s.hp) (h2 : u.sz = s.sz) (h6 : s.md ≠ 6) : Trn s (u.endCell (some c)) := by
  unfold Rs.endCell at h ⊢
  simp only [] at h ⊢
  by_cases h13 : c.toNat = 13
  · rw [if_pos h13] at h ⊢
    exact ⟨h1, h2, by simp, fun _ => ⟨h1, h6⟩, fun e => by simp at e⟩
  · rw [if_neg h13] at h ⊢
    by_cases h64 : u.cs.length + 1 = 64
    · rw [if_pos h64] at h
      exact absurd h (by simp [Rs.fail])
    · rw [if_neg h64] at h ⊢
      exact ⟨h1, h2, by simp, fun e => by simp at e, fun e => by simp at e⟩
theorem plain_trn {s : Rs} (c : UInt8) (u : Rs) (h : (u.plain (some c)).er = 0) (h1 : u.hp = s.hp) (h2 : u.sz = s.sz) (hm : u.md = 3) (h6 : s.md ≠ 6) : Trn s (u.plain (some c)) := by
  unfold Rs.plain at h ⊢
  simp only [] at h ⊢
  split at h
  · rename_i a
    rw [if_pos a]
    exact endCell_trn c u h h1 h2 h6
  · rename_i a
    rw [if_neg a]
    split at h
    · exact absurd h (by simp [Rs.fail])
    · rename_i b
      rw [if_neg b]
      split at h
      · exact absurd h (by simp [Rs.fail])
      · rename_i d
        rw [if_neg d]
        split at h
        · exact absurd h (by simp [Rs.fail])
        · rename_i e
          rw [if_neg e]
          exact add_trn c u h h1 h2 (by omega) (by omega) (fun e => by omega)
theorem next_trn (s : Rs) (c : UInt8) (hm : 1 ≤ s.md ∧ s.md ≤ 6) (h : (s.next (some c)).er = 0) : Trn s (s.next (some c)) := by
  have bc : ∀ (m : s.md ≠ 6), (s.beginCell (some c)).er = 0 → Trn s (s.beginCell (some c)) := by
    intro m6 h
    unfold Rs.beginCell at h ⊢
    simp only [] at h ⊢
    split at h
    · rename_i a
      rw [if_pos a]
      exact ⟨rfl, rfl, by simp, fun e => by simp at e, fun _ => .inr ⟨rfl, m6⟩⟩
    · rename_i a
      rw [if_neg a]
      exact plain_trn c _ h rfl rfl rfl m6
  unfold Rs.next at h ⊢
  by_cases m1 : s.md = 1
  · rw [if_pos m1] at h ⊢
    unfold Rs.beginRow at h ⊢
    simp only [] at h ⊢
    split at h
    · exact absurd h (by simp [Rs.fail])
    · rename_i a
      rw [if_neg a]
      exact bc (by omega) h
  · rw [if_neg m1] at h ⊢
    by_cases m2 : s.md = 2
    · rw [if_pos m2] at h ⊢
      exact bc (by omega) h
    · rw [if_neg m2] at h ⊢
      by_cases m3 : s.md = 3
      · rw [if_pos m3] at h ⊢
        exact plain_trn c s h rfl rfl m3 (by omega)
      · rw [if_neg m3] at h ⊢
        by_cases m4 : s.md = 4
        · rw [if_pos m4] at h ⊢
          unfold Rs.quoted at h ⊢
          simp only [] at h ⊢
          split at h
          · rename_i a
            rw [if_pos a]
            exact ⟨rfl, rfl, by simp, fun e => by simp at e, fun _ => .inl ⟨rfl, .inl m4⟩⟩
          · rename_i a
            rw [if_neg a]
            split at h
            · exact absurd h (by simp [Rs.fail])
            · rename_i b
              rw [if_neg b]
              exact add_trn c s h rfl rfl hm (by omega) (fun _ => .inl ⟨rfl, .inl m4⟩)
        · rw [if_neg m4] at h ⊢
          by_cases m5 : s.md = 5
          · rw [if_pos m5] at h ⊢
            unfold Rs.behindQuote at h ⊢
            simp only [] at h ⊢
            split at h
            · rename_i a
              rw [if_pos a]
              exact add_trn c _ h rfl rfl (by simp) (by simp) (fun _ => .inl ⟨rfl, .inr m5⟩)
            · rename_i a
              rw [if_neg a]
              split at h
              · rename_i b
                rw [if_pos b]
                exact endCell_trn c s h rfl rfl (by omega)
              · split at h
                · exact absurd h (by simp [Rs.fail])
                · exact absurd h (by simp [Rs.fail])
          · rw [if_neg m5] at h ⊢
            unfold Rs.behindReturn at h ⊢
            simp only [] at h ⊢
            split at h
            · rename_i a
              rw [if_pos a]
              unfold Rs.endRow at h ⊢
              split at h
              · exact absurd h (by simp [Rs.fail])
              · rename_i b
                rw [if_neg b]
                exact ⟨rfl, rfl, by simp, fun e => by simp at e, fun e => by simp at e⟩
            · exact absurd h (by simp [Rs.fail])
theorem ivn (L : List UInt8) : ∀ j, j ≤ L.length → (sj L j).er = 0 → Ivn L j := by
  intro j
  induction j with
  | zero =>
    intro _ _
    have e : sj L 0 = s0 := by unfold sj; simp [runL]
    refine ⟨by rw [e]; rfl, by rw [e]; rfl, by rw [e]; decide, ?_, ?_⟩
    · rw [e]; intro h; exact absurd h (by decide)
    · rw [e]; intro h; exact absurd h (by decide)
  | succ j ih =>
    intro hj h0
    have hb := sj_back L j h0
    have I := ih (by omega) hb
    have hs := sj_succ L j (by omega) hb
    have hz : (sj L j).sz ≠ 262144 := by
      intro e
      rw [hs, Rs.take, if_pos e] at h0
      exact absurd h0 (by simp [Rs.fail])
    rw [Rs.take, if_neg hz] at hs
    have h1 : ((sj L j).next (some (bt L j))).er = 0 := by rw [hs] at h0; exact h0
    have T := next_trn (sj L j) (bt L j) I.md h1
    refine ⟨?_, ?_, ?_, ?_, ?_⟩
    · rw [hs]
      show ((sj L j).next (some (bt L j))).sz + 1 = j + 1
      rw [T.sz, I.sz]
    · rw [hs, plc_succ, ← I.hp, ← T.hp]
      rfl
    · rw [hs]; exact T.md
    · rw [hs]
      intro h6
      obtain ⟨a, b⟩ := T.ep h6
      exact ⟨j, rfl, by rw [← I.hp]; exact a, b, hb⟩
    · rw [hs]
      intro h45
      rcases T.op h45 with ⟨a, b⟩ | ⟨a, b⟩
      · obtain ⟨o, o1, o2, o3⟩ := I.op b
        exact ⟨o, by omega, by rw [← o2]; exact a, o3⟩
      · exact ⟨j, by omega, by rw [← I.hp]; exact a, b, hb⟩
/-- a fault that a byte shows: its place -/
theorem next_bad (s : Rs) (c : UInt8) (hm : 1 ≤ s.md ∧ s.md ≤ 6) (h0 : s.er = 0) (h : (s.next (some c)).er ≠ 0) :
    ((s.next (some c)).fp = s.hp ∧ s.md ≠ 6 ∧ (s.next (some c)).er ≠ 1 ∧ (s.next (some c)).er ≤ 7) ∨ ((s.next (some c)).fp = s.ep ∧ s.md = 6 ∧ ((s.next (some c)).er = 3 ∨ (s.next (some c)).er = 8)) := by
  have ad : ∀ u : Rs, u.er = 0 → u.hp = s.hp → (u.add c).er ≠ 0 → (u.add c).fp = s.hp ∧ (u.add c).er = 5 := by
    intro u u0 u1 h
    unfold Rs.add at h ⊢
    split at h
    · rename_i a
      rw [if_pos a]
      exact ⟨u1, rfl⟩
    · exact absurd u0 h
  have ec : ∀ u : Rs, u.er = 0 → u.hp = s.hp → (u.endCell (some c)).er ≠ 0 → (u.endCell (some c)).fp = s.hp ∧ (u.endCell (some c)).er = 6 := by
    intro u u0 u1 h
    unfold Rs.endCell at h ⊢
    simp only [] at h ⊢
    split at h
    · exact absurd u0 h
    · rename_i a
      rw [if_neg a]
      split at h
      · rename_i b
        rw [if_pos b]
        exact ⟨u1, rfl⟩
      · exact absurd u0 h
  have pl : ∀ u : Rs, u.er = 0 → u.hp = s.hp → (u.plain (some c)).er ≠ 0 → (u.plain (some c)).fp = s.hp ∧ (u.plain (some c)).er ≠ 1 ∧ (u.plain (some c)).er ≤ 7 := by
    intro u u0 u1 h
    unfold Rs.plain at h ⊢
    simp only [] at h ⊢
    split at h
    · rename_i a
      rw [if_pos a]
      obtain ⟨x, y⟩ := ec u u0 u1 h
      exact ⟨x, by rw [y]; decide, by rw [y]; decide⟩
    · rename_i a
      rw [if_neg a]
      split
      · exact ⟨u1, by simp [Rs.fail], by simp [Rs.fail]⟩
      · rename_i b
        rw [if_neg b] at h
        split
        · exact ⟨u1, by simp [Rs.fail], by simp [Rs.fail]⟩
        · rename_i d
          rw [if_neg d] at h
          split
          · exact ⟨u1, by simp [Rs.fail], by simp [Rs.fail]⟩
          · rename_i e
            rw [if_neg e] at h
            obtain ⟨x, y⟩ := ad u u0 u1 h
            exact ⟨x, by rw [y]; decide, by rw [y]; decide⟩
  have bc : (s.beginCell (some c)).er ≠ 0 → (s.beginCell (some c)).fp = s.hp ∧ (s.beginCell (some c)).er ≠ 1 ∧ (s.beginCell (some c)).er ≤ 7 := by
    intro h
    unfold Rs.beginCell at h ⊢
    simp only [] at h ⊢
    split at h
    · exact absurd h0 h
    · rename_i a
      rw [if_neg a]
      exact pl _ h0 rfl h
  unfold Rs.next at h ⊢
  by_cases m1 : s.md = 1
  · rw [if_pos m1] at h ⊢
    unfold Rs.beginRow at h ⊢
    simp only [] at h ⊢
    split
    · exact .inl ⟨rfl, by omega, by simp [Rs.fail], by simp [Rs.fail]⟩
    · rename_i a
      rw [if_neg a] at h
      obtain ⟨x, y, z⟩ := bc h
      exact .inl ⟨x, by omega, y, z⟩
  · rw [if_neg m1] at h ⊢
    by_cases m2 : s.md = 2
    · rw [if_pos m2] at h ⊢
      obtain ⟨x, y, z⟩ := bc h
      exact .inl ⟨x, by omega, y, z⟩
    · rw [if_neg m2] at h ⊢
      by_cases m3 : s.md = 3
      · rw [if_pos m3] at h ⊢
        obtain ⟨x, y, z⟩ := pl s h0 rfl h
        exact .inl ⟨x, by omega, y, z⟩
      · rw [if_neg m3] at h ⊢
        by_cases m4 : s.md = 4
        · rw [if_pos m4] at h ⊢
          unfold Rs.quoted at h ⊢
          simp only [] at h ⊢
          split at h
          · exact absurd h0 h
          · rename_i a
            rw [if_neg a]
            split
            · exact .inl ⟨rfl, by omega, by simp [Rs.fail], by simp [Rs.fail]⟩
            · rename_i b
              rw [if_neg b] at h
              obtain ⟨x, y⟩ := ad s h0 rfl h
              exact .inl ⟨x, by omega, by rw [y]; decide, by rw [y]; decide⟩
        · rw [if_neg m4] at h ⊢
          by_cases m5 : s.md = 5
          · rw [if_pos m5] at h ⊢
            unfold Rs.behindQuote at h ⊢
            simp only [] at h ⊢
            split
            · rename_i a
              rw [if_pos a] at h
              obtain ⟨x, y⟩ := ad { s with md := 4 } h0 rfl h
              exact .inl ⟨x, by omega, by rw [y]; decide, by rw [y]; decide⟩
            · rename_i a
              rw [if_neg a] at h
              split
              · rename_i b
                rw [if_pos b] at h
                obtain ⟨x, y⟩ := ec s h0 rfl h
                exact .inl ⟨x, by omega, by rw [y]; decide, by rw [y]; decide⟩
              · split
                · exact .inl ⟨rfl, by omega, by simp [Rs.fail], by simp [Rs.fail]⟩
                · exact .inl ⟨rfl, by omega, by simp [Rs.fail], by simp [Rs.fail]⟩
          · rw [if_neg m5] at h ⊢
            have m6 : s.md = 6 := by omega
            unfold Rs.behindReturn at h ⊢
            simp only [] at h ⊢
            split
            · rename_i a
              rw [if_pos a] at h
              unfold Rs.endRow at h ⊢
              split
              · exact .inr ⟨rfl, m6, .inr rfl⟩
              · rename_i b
                rw [if_neg b] at h
                exact absurd h0 h
            · exact .inr ⟨rfl, m6, .inl rfl⟩
/-- the text's end: what it makes of a state -/
theorem next_none (s : Rs) (hm : 1 ≤ s.md ∧ s.md ≤ 6) (h0 : s.er = 0) :
    (s.next none).er = 0 ∨ ((s.next none).er = 1 ∧ s.md = 4 ∧ (s.next none).fp = s.op) ∨ ((s.next none).er = 3 ∧ s.md = 6 ∧ (s.next none).fp = s.ep) ∨ ((s.next none).er = 8 ∧ s.md ≠ 6 ∧ (s.next none).fp = s.hp) := by
  have er : ∀ u : Rs, u.er = 0 → u.hp = s.hp → s.md ≠ 6 → (u.endCell none).er = 0 ∨ ((u.endCell none).er = 1 ∧ s.md = 4 ∧ (u.endCell none).fp = s.op) ∨ ((u.endCell none).er = 3 ∧ s.md = 6 ∧ (u.endCell none).fp = s.ep) ∨ ((u.endCell none).er = 8 ∧ s.md ≠ 6 ∧ (u.endCell none).fp = s.hp) := by
    intro u u0 u1 m
    unfold Rs.endCell Rs.endRow
    simp only []
    split
    · exact .inr (.inr (.inr ⟨rfl, m, u1⟩))
    · exact .inl u0
  unfold Rs.next
  by_cases m1 : s.md = 1
  · rw [if_pos m1]; exact .inl h0
  · rw [if_neg m1]
    by_cases m2 : s.md = 2
    · rw [if_pos m2]
      exact er { s with md := 3 } h0 rfl (by omega)
    · rw [if_neg m2]
      by_cases m3 : s.md = 3
      · rw [if_pos m3]
        exact er s h0 rfl (by omega)
      · rw [if_neg m3]
        by_cases m4 : s.md = 4
        · rw [if_pos m4]
          exact .inr (.inl ⟨rfl, m4, rfl⟩)
        · rw [if_neg m4]
          by_cases m5 : s.md = 5
          · rw [if_pos m5]
            exact er s h0 rfl (by omega)
          · rw [if_neg m5]
            exact .inr (.inr (.inl ⟨rfl, by omega, rfl⟩))
theorem fdP_sj (L : List UInt8) : fdP L = sj L (min L.length 262145) := by
  unfold fdP feed cut sj
  rw [List.drop_zero]
theorem sj_on (L : List UInt8) (k : Nat) (h : (sj L k).er ≠ 0) : ∀ n, k ≤ n → sj L n = sj L k := by
  intro n
  induction n with
  | zero => intro hk; rw [show k = 0 by omega]
  | succ n ih =>
    intro hk
    by_cases e : k = n + 1
    · rw [e]
    · have := ih (by omega)
      rw [sj_stuck L n (by rw [this]; exact h), this]
theorem sj_first (L : List UInt8) : ∀ n, (sj L n).er ≠ 0 → ∃ j, j < n ∧ (sj L j).er = 0 ∧ (sj L (j + 1)).er ≠ 0 ∧ sj L n = sj L (j + 1) := by
  intro n
  induction n with
  | zero =>
    intro h
    exact absurd (show (sj L 0).er = 0 by unfold sj; simp [runL]; rfl) h
  | succ n ih =>
    intro h
    by_cases h0 : (sj L n).er = 0
    · exact ⟨n, by omega, h0, h, rfl⟩
    · obtain ⟨j, a, b, c, d⟩ := ih h0
      exact ⟨j, by omega, b, c, by rw [sj_stuck L n h0, d]⟩
/-- what Parse tells of the first f bytes: a state's end -/
def cE (s : Rs) : Nat := (clP s).er
theorem clP_end (s : Rs) (hm : 1 ≤ s.md ∧ s.md ≤ 6) (h0 : s.er = 0) : ((clP s).er = 0 ∨ (clP s).er = 1 ∨ (clP s).er = 8 ∨ ((clP s).er = 3 ∧ s.md = 6)) := by
  unfold clP
  rw [if_pos h0]
  obtain ⟨⟨e1, _⟩, _⟩ := next_td s
  rw [e1]
  rcases next_none s hm h0 with h | ⟨h, _⟩ | ⟨h, h6, _⟩ | ⟨h, _⟩
  · exact .inl h
  · exact .inr (.inl h)
  · exact .inr (.inr (.inr ⟨h, h6⟩))
  · exact .inr (.inr (.inl h))
theorem fdP_take (L : List UInt8) (f : Nat) (h1 : f ≤ L.length) (h2 : f ≤ 262144) : fdP (L.take f) = sj L f := by
  rw [fdP_sj]
  unfold sj
  have hl : (L.take f).length = f := by simp; omega
  rw [hl, Nat.min_eq_left (by omega), List.take_take, Nat.min_self]
theorem sj_pre (L M : List UInt8) (k : Nat) (h : M.take k = L.take k) : sj M k = sj L k := by unfold sj; rw [h]
theorem fdP_more (L B : List UInt8) (j : Nat) (h1 : j < L.length) (h2 : j ≤ 262144) (h : (sj L (j + 1)).er ≠ 0) : fdP (L.take (j + 1) ++ B) = sj L (j + 1) := by
  have hl : (L.take (j + 1)).length = j + 1 := by simp; omega
  have hp : sj (L.take (j + 1) ++ B) (j + 1) = sj L (j + 1) := sj_pre _ _ _ (by rw [List.take_append_of_le_length (by omega), List.take_take, Nat.min_self])
  rw [fdP_sj, sj_on _ (j + 1) (by rw [hp]; exact h) _ (by simp; omega), hp]
/-- the first fault: its place; what the bytes ahead of it show; what may stand behind it -/
theorem first_fault (L : List UInt8) (h : (clP (fdP L)).er ≠ 0) : ∃ f, f ≤ L.length ∧ f ≤ 262144 ∧ (clP (fdP L)).fp = plc L f
    ∧ ((clP (fdP (L.take f))).er = 0 ∨ (clP (fdP (L.take f))).er = 1 ∨ (clP (fdP (L.take f))).er = 8 ∨ ((clP (fdP L)).er = 20 ∧ (clP (fdP (L.take f))).er = 3))
    ∧ ((clP (fdP L)).er = 1 ∨ (clP (fdP L)).er = 3 ∨ (clP (fdP L)).er = 8 ∨ (f < L.length ∧ (clP (fdP L)).er ≠ 1 ∧ (clP (fdP L)).er ≠ 3 ∧ (clP (fdP L)).er ≠ 8 ∧ ∀ B, (clP (fdP (L.take (f + 1) ++ B))).er = (clP (fdP L)).er ∧ (clP (fdP (L.take (f + 1) ++ B))).fp = plc L f)) := by
  have ahead : ∀ f, f ≤ L.length → f ≤ 262144 → (sj L f).er = 0 → (sj L f).md ≠ 6 → (clP (fdP (L.take f))).er = 0 ∨ (clP (fdP (L.take f))).er = 1 ∨ (clP (fdP (L.take f))).er = 8 := by
    intro f h1 h2 h0 h6
    rw [fdP_take L f h1 h2]
    rcases clP_end (sj L f) (ivn L f h1 h0).md h0 with a | a | a | ⟨_, a⟩
    · exact .inl a
    · exact .inr (.inl a)
    · exact .inr (.inr a)
    · exact absurd a h6
  have low : ∀ {c : Nat} {P Q : Prop}, (c = 0 ∨ c = 1 ∨ c = 8) → (c = 0 ∨ c = 1 ∨ c = 8 ∨ (P ∧ Q)) := by
    intro c P Q h
    rcases h with h | h | h
    · exact .inl h
    · exact .inr (.inl h)
    · exact .inr (.inr (.inl h))
  by_cases hN : (sj L (min L.length 262145)).er = 0
  · -- the text's end
    have hlen : L.length ≤ 262144 := by
      rcases Nat.lt_or_ge 262144 L.length with hl | hl
      · exfalso
        rw [Nat.min_eq_right (by omega)] at hN
        have hb := sj_back L 262144 hN
        have I := ivn L 262144 (by omega) hb
        rw [sj_succ L 262144 hl hb, Rs.take, if_pos I.sz] at hN
        exact absurd hN (by simp [Rs.fail])
      · exact hl
    have hfd : fdP L = sj L L.length := by rw [fdP_sj, Nat.min_eq_left (by omega)]
    rw [Nat.min_eq_left (by omega)] at hN
    have I := ivn L L.length (Nat.le_refl _) hN
    have hcl : (clP (fdP L)).er = ((sj L L.length).next none).er ∧ (clP (fdP L)).fp = ((sj L L.length).next none).fp := by
      rw [hfd]
      unfold clP
      rw [if_pos hN]
      exact (next_td (sj L L.length)).1
    have hne : ((sj L L.length).next none).er ≠ 0 := by rw [← hcl.1]; exact h
    rw [hcl.1, hcl.2]
    rcases next_none (sj L L.length) I.md hN with a | ⟨a, a4, af⟩ | ⟨a, a6, af⟩ | ⟨a, a6, af⟩
    · exact absurd a hne
    · obtain ⟨o, o1, o2, o3, o4⟩ := I.op (.inl a4)
      exact ⟨o, by omega, by omega, by rw [af, o2], low (ahead o (by omega) (by omega) o4 o3), .inl a⟩
    · obtain ⟨k, k1, k2, k3, k4⟩ := I.ep a6
      exact ⟨k, by omega, by omega, by rw [af, k2], low (ahead k (by omega) (by omega) k4 k3), .inr (.inl a)⟩
    · exact ⟨L.length, Nat.le_refl _, hlen, by rw [af, I.hp], low (ahead _ (Nat.le_refl _) hlen hN a6), .inr (.inr (.inl a))⟩
  · -- a byte shows it
    obtain ⟨j, j1, j0, jb, js⟩ := sj_first L _ hN
    have hjl : j < L.length := by have := Nat.min_le_left L.length 262145; omega
    have hj2 : j ≤ 262144 := by have := Nat.min_le_right L.length 262145; omega
    have I := ivn L j (by omega) j0
    have hfd : clP (fdP L) = sj L (j + 1) := by
      rw [fdP_sj, js]
      unfold clP
      rw [if_neg jb]
    have hmore : ∀ B, clP (fdP (L.take (j + 1) ++ B)) = sj L (j + 1) := by
      intro B
      rw [fdP_more L B j hjl hj2 jb]
      unfold clP
      rw [if_neg jb]
    have hs := sj_succ L j hjl j0
    by_cases hz : (sj L j).sz = 262144
    · rw [Rs.take, if_pos hz] at hs
      have e1 : (sj L (j + 1)).er = 20 := by rw [hs]; rfl
      have e2 : (sj L (j + 1)).fp = plc L j := by rw [hs, ← I.hp]; rfl
      refine ⟨j, by omega, hj2, by rw [hfd, e2], ?_, .inr (.inr (.inr ⟨hjl, by rw [hfd, e1]; decide, by rw [hfd, e1]; decide, by rw [hfd, e1]; decide, fun B => by rw [hmore B, hfd]; exact ⟨rfl, e2⟩⟩))⟩
      rw [hfd, e1, fdP_take L j (by omega) hj2]
      rcases clP_end (sj L j) I.md j0 with a | a | a | ⟨a, _⟩
      · exact .inl a
      · exact .inr (.inl a)
      · exact .inr (.inr (.inl a))
      · exact .inr (.inr (.inr ⟨rfl, a⟩))
    · rw [Rs.take, if_neg hz] at hs
      have e0 : (sj L (j + 1)).er = ((sj L j).next (some (bt L j))).er := by rw [hs]; rfl
      have e1 : (sj L (j + 1)).fp = ((sj L j).next (some (bt L j))).fp := by rw [hs]; rfl
      rcases next_bad (sj L j) (bt L j) I.md j0 (by rw [← e0]; exact jb) with ⟨a, a6, a1, a7⟩ | ⟨a, a6, a38⟩
      · have hp : (sj L (j + 1)).fp = plc L j := by rw [e1, a, I.hp]
        refine ⟨j, by omega, hj2, by rw [hfd, hp], low (ahead j (by omega) hj2 j0 a6), ?_⟩
        rw [hfd]
        by_cases h3 : (sj L (j + 1)).er = 3
        · exact .inr (.inl h3)
        · exact .inr (.inr (.inr ⟨hjl, by rw [e0]; exact a1, h3, by rw [e0]; omega, fun B => by rw [hmore B]; exact ⟨rfl, hp⟩⟩))
      · obtain ⟨k, k1, k2, k3, k4⟩ := I.ep a6
        refine ⟨k, by omega, by omega, by rw [hfd, e1, a, k2], low (ahead k (by omega) (by omega) k4 k3), ?_⟩
        rw [hfd, e0]
        rcases a38 with h | h
        · exact .inr (.inl h)
        · exact .inr (.inr (.inl h))
end Go.Proofs.YtpgpeafmlijfkaaGreatDoor
