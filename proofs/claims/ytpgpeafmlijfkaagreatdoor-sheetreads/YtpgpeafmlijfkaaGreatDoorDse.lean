/-
  Sheets, the document's side: shows, Read, Parse.
-/
import Derived.Test.YtpgpeafmlijfkaaGreatDoorDsd
import Derived.Test.YtpgpeafmlijfkaaGreatDoorScc
namespace Go.Proofs.YtpgpeafmlijfkaaGreatDoor
open Go.RowKit
set_option maxRecDepth 100000
set_option linter.unusedVariables false
set_option linter.unusedSimpArgs false

/-! a line's fault lies within the text -/
theorem ql_3 (L : List UInt8) (fr : Nat) : ∀ (n i : Nat), L.length - i ≤ n → (ql L fr i).2.1 = 3 → (ql L fr i).2.2 < L.length := by
  intro n
  induction n with
  | zero =>
    intro i hn h
    rw [ql_eq, if_neg (fun h => by omega)] at h
    exact absurd h (by simp)
  | succ n ih =>
    intro i hn h
    rw [ql_eq] at h ⊢
    by_cases h1 : i < L.length ∧ ch L i ≠ 44 ∧ ch L i ≠ 13
    · rw [if_pos h1] at h ⊢
      by_cases h2 : ch L i = 10
      · rw [if_pos h2]; exact h1.1
      · rw [if_neg h2] at h ⊢
        by_cases h3 : ch L i = 34
        · rw [if_pos h3] at h; exact absurd h (by simp)
        · rw [if_neg h3] at h ⊢
          by_cases h4 : ch L i = 9 ∨ mayB (ch L i) = false
          · rw [if_pos h4] at h; exact absurd h (by simp)
          · rw [if_neg h4] at h ⊢
            by_cases h5 : i - fr = 4096
            · rw [if_pos h5] at h; exact absurd h (by simp)
            · rw [if_neg h5] at h ⊢
              exact ih (i + 1) (by omega) h
    · rw [if_neg h1] at h
      exact absurd h (by simp)
theorem qd_3 (L : List UInt8) (fr : Nat) : ∀ (n i : Nat) (t : List UInt8), L.length - i ≤ n → (qd L fr i t).2.2.1 ≠ 3 := by
  intro n
  induction n with
  | zero =>
    intro i t hn
    rw [qd_eq, if_neg (by omega)]
    simp
  | succ n ih =>
    intro i t hn
    rw [qd_eq]
    by_cases h1 : i < L.length
    · rw [if_pos h1]
      by_cases h2 : ch L i = 34
      · rw [if_pos h2]
        by_cases h3 : L.length ≤ i + 1 ∨ ch L (i + 1) ≠ 34
        · rw [if_pos h3]; simp
        · rw [if_neg h3]
          by_cases h4 : t.length = 4096
          · rw [if_pos h4]; simp
          · rw [if_neg h4]; exact ih _ _ (by omega)
      · rw [if_neg h2]
        by_cases h3 : mayB (ch L i) = false
        · rw [if_pos h3]; simp
        · rw [if_neg h3]
          by_cases h4 : t.length = 4096
          · rw [if_pos h4]; simp
          · rw [if_neg h4]; exact ih _ _ (by omega)
    · rw [if_neg h1]; simp
theorem cel_3 (L : List UInt8) (fr : Nat) (hf : fr ≤ L.length) (h : (cel L fr).2.2.1 = 3) : (cel L fr).2.2.2 < L.length := by
  by_cases h1 : fr < L.length ∧ ch L fr = 34
  · by_cases h2 : (qd L fr (fr + 1) []).2.2.1 ≠ 0 ∨ (qd L fr (fr + 1) []).2.1 = L.length ∨ ch L (qd L fr (fr + 1) []).2.1 = 44 ∨ ch L (qd L fr (fr + 1) []).2.1 = 13
    · rw [cel_qd h1 h2] at h
      exact absurd h (qd_3 L fr _ _ _ (Nat.le_refl _))
    · rw [cel_qn h1 h2] at h ⊢
      have h0 : (qd L fr (fr + 1) []).2.2.1 = 0 := Decidable.not_not.1 (not_or.1 h2).1
      have hne := (not_or.1 (not_or.1 h2).2).1
      have hle := (qd_form L fr _ (fr + 1) [] (Nat.le_refl _) (by omega) (Nat.le_refl _) ⟨by simp, by simp⟩ (by simp [dbl]) h0).2.2.2
      by_cases h3 : ch L (qd L fr (fr + 1) []).2.1 = 10
      · rw [if_pos h3]
        show (qd L fr (fr + 1) []).2.1 < L.length
        omega
      · rw [if_neg h3] at h
        exact absurd h (by simp)
  · rw [cel, if_neg h1] at h ⊢
    simp only [] at h ⊢
    by_cases h2 : (ql L fr fr).2.1 = 0
    · rw [if_pos h2] at h; exact absurd h (by simp)
    · rw [if_neg h2] at h ⊢
      exact ql_3 L fr _ _ (Nat.le_refl _) h
theorem row_3 (L : List UInt8) : ∀ (n i : Nat) (acc : List (List UInt8)), i ≤ L.length → L.length - i < n → (rowD L n i acc).2.2.1 = 3 → (rowD L n i acc).2.2.2 < L.length := by
  intro n
  induction n with
  | zero => intro i acc hi hn; omega
  | succ n ih =>
    intro i acc hi hn h
    by_cases h0 : (cel L i).2.2.1 = 0
    · have hcf := cel_form L i hi h0
      by_cases h1 : (cel L i).2.1 < L.length ∧ ch L (cel L i).2.1 = 44
      · by_cases h2 : acc.length + 1 = 64
        · rw [rowD_many h0 h1 h2] at h; exact absurd h (by simp)
        · rw [rowD_more h0 h1 h2] at h ⊢
          exact ih _ _ (by have := h1.1; omega) (by have := h1.1; have := hcf.2.2.1; omega) h
      · rw [rowD_end h0 h1] at h; exact absurd h (by simp)
    · rw [rowD_bad h0] at h ⊢
      exact cel_3 L i hi h
theorem rd_3 (L : List UInt8) : ∀ (n i : Nat) (acc : List (List (List UInt8))), i ≤ L.length → L.length - i < n → (rdD L n i acc).2.2.1 = 3 → (rdD L n i acc).2.2.2 < L.length := by
  intro n
  induction n with
  | zero => intro i acc hi hn; omega
  | succ n ih =>
    intro i acc hi hn h
    by_cases h1 : i < L.length
    · by_cases h2 : acc.length = 4096
      · rw [rdD_full h1 h2] at h; exact absurd h (by simp)
      · by_cases h3 : (rowD L (L.length + 1) i []).2.2.1 = 0
        · have hcf := rowD_form L (L.length + 1) i [] hi (by omega) (by simp) (by simp) h3
          by_cases h4 : (rowD L (L.length + 1) i []).2.1 < L.length ∧ ((rowD L (L.length + 1) i []).2.1 + 1 = L.length ∨ ch L ((rowD L (L.length + 1) i []).2.1 + 1) ≠ 10)
          · rw [rdD_line h1 h2 h3 h4]; exact h4.1
          · by_cases h5 : 0 < acc.length ∧ (rowD L (L.length + 1) i []).1.length ≠ (acc.headD []).length
            · rw [rdD_rag h1 h2 h3 h4 h5] at h; exact absurd h (by simp)
            · by_cases h6 : (rowD L (L.length + 1) i []).2.1 = L.length
              · rw [rdD_last h1 h2 h3 h4 h5 h6] at h; exact absurd h (by simp)
              · rw [rdD_next h1 h2 h3 h4 h5 h6] at h ⊢
                have := hcf.2.2.2.1
                have := hcf.2.2.2.2.1
                exact ih _ _ (by omega) (by omega) h
        · rw [rdD_bad h1 h2 h3] at h ⊢
          exact row_3 L _ i [] hi (by omega) h
    · rw [rdD_out h1] at h; exact absurd h (by simp)
theorem rd_at (L : List UInt8) (hL : L.length ≤ 262144) : (rdD L (L.length + 1) 0 []).2.1 ≤ (rdD L (L.length + 1) 0 []).1.length ∧ (rdD L (L.length + 1) 0 []).2.2.2 ≤ L.length := by
  have := read_feed L hL (L.length + 1) 0 (0, 0) (0, 0) 0 [] (by omega) (Nat.zero_le _) (by simp)
  exact ⟨this.1, this.2.1⟩

/-! shows -/
set_option maxHeartbeats 4000000 in
theorem dshows_any (s : ByteArray) (c l k f : Nat) (w : World) (h3 : c = 3 → f < s.size) (hf : f ≤ 262144) :
    Calls Tryz.prog 36 #[.string s, fV c l k f] w fun e w' => e = .returned (.bool (shw s.data.toList c f)) ∧ Below w.heap.size w w' := by
  have hds : s.data.toList.length = s.size := by rw [Array.length_toList]; rfl
  have HB := hid (show Below w.heap.size w (w.alloc (.cells #[.int .i64 (c : Int), .int .i64 (l : Int), .int .i64 (k : Int), .int .i64 (f : Int), .int .i64 0] 46)) from (Below.refl _ _).alloc (Nat.le_refl _) _)
  unfold fV
  by_cases c0 : c = 0
  · subst c0
    have HV := hid (show shw s.data.toList 0 f = false by simp [shw])
    rw [HV.out]
    go_enter Tryz.func36, Tryz.ntmps36
    go_wp2
    go_ret
    exact ⟨rfl, HB.out⟩
  · have e0 : ((c : Int) == 0) = false := by rw [beq_eq_false_iff_ne]; omega
    by_cases c1 : c = 1
    · subst c1
      have HV := hid (show shw s.data.toList 1 f = false by simp [shw])
      rw [HV.out]
      clear e0
      go_enter Tryz.func36, Tryz.ntmps36
      go_wp2
      go_ret
      exact ⟨rfl, HB.out⟩
    · have e1 : ((c : Int) == 1) = false := by rw [beq_eq_false_iff_ne]; omega
      by_cases c3 : c = 3
      · subst c3
        have hfl := h3 rfl
        have hF : (f : Int) < (s.size : Int) := by omega
        have hcf : ch s.data.toList f = s[f].toNat := by unfold ch; rw [bt_at s f hfl]
        have hv : shw s.data.toList 3 f = decide (s[f].toNat = 10 ∨ f + 1 < s.size) := by simp [shw, hcf, hds]
        clear e0 e1
        by_cases h10 : s[f].toNat = 10
        · have p10 : (s[f].toNat : Int) = 10 := by omega
          have e10 : ((s[f].toNat : Int) == 10) = true := by rw [beq_iff_eq]; exact p10
          have HV := hid (hv.trans (decide_eq_true (.inl h10)))
          rw [HV.out]
          clear hv hcf h10
          go_enter Tryz.func36, Tryz.ntmps36
          go_wp2
          go_ret
          exact ⟨rfl, HB.out⟩
        · have p10 : ¬ (s[f].toNat : Int) = 10 := by omega
          have e10 : ((s[f].toNat : Int) == 10) = false := by rw [beq_eq_false_iff_ne]; exact p10
          by_cases h1 : f + 1 < s.size
          · have hI : (f : Int) + 1 < (s.size : Int) := by omega
            have dI : decide ((f : Int) + 1 < (s.size : Int)) = true := decide_eq_true hI
            have HV := hid (hv.trans (decide_eq_true (.inr h1)))
            rw [HV.out]
            clear hv hcf h10 h1
            go_enter Tryz.func36, Tryz.ntmps36
            go_wp2
            go_ret
            exact ⟨rfl, HB.out⟩
          · have hI : ¬ (f : Int) + 1 < (s.size : Int) := by omega
            have dI : decide ((f : Int) + 1 < (s.size : Int)) = false := decide_eq_false hI
            have HV := hid (hv.trans (decide_eq_false (fun h => h.elim h10 h1)))
            rw [HV.out]
            clear hv hcf h10 h1
            go_enter Tryz.func36, Tryz.ntmps36
            go_wp2
            go_ret
            exact ⟨rfl, HB.out⟩
      · have e3 : ((c : Int) == 3) = false := by rw [beq_eq_false_iff_ne]; omega
        by_cases c8 : c = 8
        · subst c8
          have hv : shw s.data.toList 8 f = decide (f < s.size) := by simp [shw, hds]
          clear e0 e1 e3
          by_cases h1 : f < s.size
          · have hI : (f : Int) < (s.size : Int) := by omega
            have dI : decide ((f : Int) < (s.size : Int)) = true := decide_eq_true hI
            have HV := hid (hv.trans (decide_eq_true h1))
            rw [HV.out]
            clear hv h1
            go_enter Tryz.func36, Tryz.ntmps36
            go_wp2
            go_ret
            exact ⟨rfl, HB.out⟩
          · have hI : ¬ (f : Int) < (s.size : Int) := by omega
            have dI : decide ((f : Int) < (s.size : Int)) = false := decide_eq_false hI
            have HV := hid (hv.trans (decide_eq_false h1))
            rw [HV.out]
            clear hv h1
            go_enter Tryz.func36, Tryz.ntmps36
            go_wp2
            go_ret
            exact ⟨rfl, HB.out⟩
        · have e8 : ((c : Int) == 8) = false := by rw [beq_eq_false_iff_ne]; omega
          have HV := hid (show shw s.data.toList c f = true by simp [shw, c0, c1, c3, c8])
          rw [HV.out]
          go_enter Tryz.func36, Tryz.ntmps36
          go_wp2
          go_ret
          exact ⟨rfl, HB.out⟩
end Go.Proofs.YtpgpeafmlijfkaaGreatDoor
