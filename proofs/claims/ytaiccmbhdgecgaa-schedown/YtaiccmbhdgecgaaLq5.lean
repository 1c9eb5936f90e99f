/-
  SchedLeast: what follows of Least's answers.
-/
import Derived.Test.YtaiccmbhdgecgaaLq4
namespace Go.Proofs.Ytaiccmbhdgecgaa
open Go.RowKit
set_option maxRecDepth 100000

theorem leE_zero (R : List Int) (P : List Pr) : leE R P = 0 ↔ R.length ≤ 512 ∧ P.length ≤ 256 ∧ inB R 16 = true ∧ P.all pOk = true := by
  unfold leE
  by_cases h : 512 < R.length ∨ 256 < P.length
  · rw [if_pos h]
    constructor
    · intro e; cases e
    · intro e; omega
  · rw [if_neg h]
    cases h1 : inB R 16 <;> cases h2 : P.all pOk <;> simp <;> omega
theorem leL_lst {R : List Int} {P : List Pr} (h : leE R P = 0) : Lst (arP P) R (leL R P) := by
  obtain ⟨_, _, h3, h4⟩ := (leE_zero R P).1 h
  unfold leL
  rw [if_pos h]
  refine le_lst P (fun i hi => ?_) _ R rfl ((inB_iff R 16).1 h3)
  have h5 := List.all_eq_true.1 h4 _ (List.getElem_mem hi)
  unfold pOk at h5
  have h6 := (inB_iff _ _).1 h5
  have a0 := h6 0 (by simp)
  have a1 := h6 1 (by simp)
  exact ⟨a0.1, a0.2, a1.1, a1.2⟩
theorem Swps.mem {ap : Int → Int → Bool} {R S : List Int} (h : Swps ap R S) : ∀ x, x ∈ S → x ∈ R := by
  induction R, S, h using Swps.on with
  | refl => exact fun x hx => hx
  | step R' S' T' h1 _ ih =>
    intro x hx
    have := ih x hx
    obtain ⟨A, C, p, q, rfl, rfl, _⟩ := h1
    simp at this ⊢
    rcases this with h | h | h | h
    · exact .inl h
    · exact .inr (.inr (.inl h))
    · exact .inr (.inl h)
    · exact .inr (.inr (.inr h))
theorem swps_ok {R S : List Int} {P : List Pr} (h : leE R P = 0) (hs : Swps (arP P) R S) : leE S P = 0 ∧ leL S P = leL R P := by
  have h0 := (leE_zero R P).1 h
  have hS : leE S P = 0 := by
    refine (leE_zero S P).2 ⟨by rw [← hs.len]; exact h0.1, h0.2.1, ?_, h0.2.2.2⟩
    refine (inB_iff _ _).2 fun i hi => ?_
    have hm := hs.mem _ (List.getElem_mem hi)
    obtain ⟨q, hq, e⟩ := List.getElem_of_mem hm
    rw [← e]
    exact (inB_iff _ _).1 h0.2.2.1 q hq
  exact ⟨hS, (leL_lst hS).det ((leL_lst h).swps hs)⟩
theorem leL_again {R : List Int} {P : List Pr} (h : leE R P = 0) : leE (leL R P) P = 0 ∧ leL (leL R P) P = leL R P := swps_ok h ((leL_lst h).reach (arP_sym P))
theorem leL_len {R : List Int} {P : List Pr} (h : leE R P = 0) : (leL R P).length = R.length := ((leL_lst h).reach (arP_sym P)).len.symm
theorem leL_none {R : List Int} {P : List Pr} (h : leE R P = 0) : leE R [] = 0 ∧ leL R [] = R := by
  have h0 := (leE_zero R P).1 h
  have hS : leE R [] = 0 := (leE_zero R []).2 ⟨h0.1, by simp, h0.2.2.1, rfl⟩
  refine ⟨hS, ((leL_lst hS).congr (ap' := fun _ _ => false) fun a _ b _ => ?_).none⟩
  simp [arP]
theorem leL_only {R : List Int} {P : List Pr} (h : leE R P = 0) (a b : Int) (hab : arP P a b = false) : onl (leL R P) a b = onl R a b :=
  (((leL_lst h).reach (arP_sym P)).only hab (by rw [arP_sym]; exact hab)).symm
theorem swps_one {R S : List Int} {P : List Pr} (hs : Swps (arP P) R S) (k : Nat) (hk : k + 1 < S.length) (ha : arP P S[k] S[k + 1] = true) : Swps (arP P) R ((S.set k S[k + 1]).set (k + 1) S[k]) := by
  refine hs.trans (.step ⟨S.take k, S.drop (k + 2), S[k], S[k + 1], ?_, ?_, ?_, ha, by rw [arP_sym]; exact ha⟩ (.refl _))
  · have e1 : S.drop k = S[k] :: S.drop (k + 1) := List.drop_eq_getElem_cons (by omega)
    have e2 : S.drop (k + 1) = S[k + 1] :: S.drop (k + 2) := List.drop_eq_getElem_cons hk
    rw [← e2, ← e1, List.take_append_drop]
  · apply List.ext_getElem
    · simp; omega
    · intro i h1 h2
      rw [List.getElem_set, List.getElem_set, List.getElem_append]
      by_cases c : i < k
      · rw [if_neg (by omega), if_neg (by omega), dif_pos (by rw [List.length_take]; omega), List.getElem_take]
      · rw [dif_neg (by rw [List.length_take]; omega)]
        have hl : (S.take k).length = k := by rw [List.length_take]; omega
        by_cases c1 : i = k
        · subst c1
          rw [if_neg (by omega), if_pos rfl]
          simp [hl]
        · by_cases c2 : i = k + 1
          · subst c2
            rw [if_pos rfl]
            simp [hl]
          · rw [if_neg (by omega), if_neg (by omega)]
            obtain ⟨d, rfl⟩ : ∃ d, i = k + 2 + d := ⟨i - (k + 2), by omega⟩
            have : k + 2 + d - (S.take k).length = d + 1 + 1 := by rw [hl]; omega
            simp only [this, List.getElem_cons_succ, List.getElem_drop]
  · intro e
    rw [e, arP_irr] at ha
    cases ha
theorem OI.set {w : World} {base g n cap i : Nat} {R : List Int} (h : OI w base (.slice (some ⟨g, 0, none⟩) n cap) R) (x : Int) : OI (w.setCell ⟨g, i, none⟩ (.int .i64 x)) base (.slice (some ⟨g, 0, none⟩) n cap) (R.set i x) := by
  refine ⟨by rw [ic_len, List.length_set]; exact (Nat.mul_one _).symm, ?_⟩
  rcases h.2 with ⟨h2, _⟩ | ⟨g', cap', cur, hv, hg, hh, hn, hm, hsz, htk⟩
  · cases h2
  · injection hv with e1 e2 e3
    injection e1 with e1
    injection e1 with e1
    subst e1 e3
    refine .inr ⟨g, cap, _, by rw [List.length_set, e2], hg, heap_setCell_same w g i _ _ _ hh, by rw [List.length_set]; exact hn, hm, by rw [Array.size_setIfInBounds]; exact hsz, ?_⟩
    rw [List.length_set, Array.toList_setIfInBounds, List.take_set, htk, ic_set]
theorem OI.own {w : World} {base g n cap : Nat} {R : List Int} (h : OI w base (.slice (some ⟨g, 0, none⟩) n cap) R) (i : Nat) : w.frozen? ⟨g, i, none⟩ = false := by
  rcases h.2 with ⟨h2, _⟩ | ⟨g', cap', cur, hv, hg, hh, hn, hm, hsz, htk⟩
  · cases h2
  · injection hv with e1 e2 e3
    injection e1 with e1
    injection e1 with e1
    subst e1
    exact Lib.frozen_of_heap hh i
end Go.Proofs.Ytaiccmbhdgecgaa
