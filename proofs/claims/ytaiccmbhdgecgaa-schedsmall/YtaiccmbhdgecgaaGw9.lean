/-
  SchedSmall: the first of all mixes that is alike is the least (pure).
-/
import Derived.Test.YtaiccmbhdgecgaaGw7
import Derived.Test.YtaiccmbhdgecgaaGw8
namespace Go.Proofs.Ytaiccmbhdgecgaa
open Go.RowKit
set_option maxRecDepth 100000

theorem fac_le : ∀ n, n ≤ 6 → fac n ≤ 720 := by decide
/-- of few picks there are few mixes: all of them -/
theorem small_all (K : List Nat) (hx : ∀ x ∈ K, x < 16) (h6 : K.length ≤ 6) : GL (iN (C16 K)) 24 = AL K.length (C16 K) ∧ mN (C16 K) ≤ 720 ∧ smR (iN (C16 K)) = true := by
  have hct := ctof16 K hx
  have ht := hct.t
  have hsk : stOk (iN (C16 K)) = true := stOk_mk ((okN_iff _).2 (by rw [C16_len]; decide)) (by rw [ht]; omega)
  have hm : mN (C16 K) ≤ 720 := by
    have h1 := cN_pf (C16 K) (C16 K).length (by show tN2 (C16 K) ≤ 24; rw [ht]; omega)
    have h2 : sN (C16 K) (C16 K).length = K.length := ht
    rw [h2] at h1
    have h3 := fac_le K.length h6
    have h4 := pf_pos (C16 K) (C16 K).length
    have h5 : mN (C16 K) ≤ mN (C16 K) * pf (C16 K) (C16 K).length := Nat.le_mul_of_pos_right _ h4
    have h6 : mN (C16 K) * pf (C16 K) (C16 K).length = fac K.length := h1
    omega
  have hc := cntA_is (C16 K) hsk
  rw [if_pos (by omega)] at hc
  have hs : smR (iN (C16 K)) = true := by
    unfold smR
    rw [hc, decide_eq_true rfl, decide_eq_true (show ((mN (C16 K) : Nat) : Int) ≤ 1048576 by omega)]
    rfl
  refine ⟨?_, hm, hs⟩
  unfold GL
  rw [hs, iN_nats, ht, if_pos (by decide), FL_is _ _ _ _ (by decide)]
  rw [List.filter_eq_self]
  intro x hxm
  obtain ⟨i, hi, rfl⟩ := List.getElem_of_mem hxm
  have hmx := AL_mx K.length (C16 K) ht (by omega) i _ (List.getElem?_eq_getElem hi)
  rw [swc_mx hmx (by rw [C16_len]; decide)]
  have hl := mx_len hmx (by rw [ht]; omega)
  have := cS_le (AL K.length (C16 K))[i] (AL K.length (C16 K))[i].length
  exact decide_eq_true (by omega)
theorem count_onl (K : List Nat) (i : Nat) : (onl (iN K) (i : Int) (i : Int)).length = K.count i := by
  induction K with
  | nil => rfl
  | cons x t ih =>
    show (onl ((x : Int) :: iN t) (i : Int) (i : Int)).length = _
    rw [onl_cons, List.count_cons]
    by_cases e : x = i
    · rw [if_pos (.inl (by omega)), if_pos (by simp [e]), List.length_cons, ih]
    · rw [if_neg (by omega), if_neg (by simpa using e), ih]
      rfl
theorem iN_16 {K : List Nat} (hx : ∀ x ∈ K, x < 16) : ∀ x ∈ iN K, 0 ≤ x ∧ x < 16 := by
  intro x hxm
  unfold iN at hxm
  rw [List.mem_map] at hxm
  obtain ⟨y, hy, rfl⟩ := hxm
  have := hx y hy
  omega
/-- what is known of the picks and their least -/
structure SmL (K : List Nat) (P : List Pr) (M : List Nat) (n : Nat) : Prop where
  hx : ∀ x ∈ K, x < 16
  h6 : K.length ≤ 6
  ok : leE (iN K) P = 0
  lst : leL (iN K) P = iN M
  pos : (AL K.length (C16 K))[n]? = some M
  alk : Alk P (iN M) (iN K)
theorem sml_ex (K : List Nat) (P : List Pr) (hx : ∀ x ∈ K, x < 16) (h6 : K.length ≤ 6) (ok : leE (iN K) P = 0) : ∃ M n, SmL K P M n := by
  have hsw := (leL_lst ok).reach (arP_sym P)
  have hin : inB (leL (iN K) P) 16 = true := by
    rw [inB_iff]
    intro i hi
    exact iN_16 hx _ (hsw.mem _ (List.getElem_mem hi))
  obtain ⟨M, hM, hMx⟩ := nat_list hin
  have hcnt : ∀ i, M.count i = K.count i := by
    intro i
    rw [← count_onl, ← count_onl, ← hM, leL_only ok (i : Int) (i : Int) (arP_irr _ _)]
  have hct := ctof16 K hx
  obtain ⟨n, hn, _⟩ := mx_of M (C16 K) (fun i => by rw [hcnt, hct.1]) (fun x hm => by rw [C16_len]; exact hMx x hm) (by rw [hct.t]; omega)
  exact ⟨M, n, hx, h6, ok, hM, AL_at K.length (C16 K) n M hct.t (by omega) hn, fun a b _ _ _ hab => by rw [← hM]; exact leL_only ok _ _ hab⟩
theorem SmL.first {K : List Nat} {P : List Pr} {M : List Nat} {n k : Nat} {X : List Nat} (h : SmL K P M n) (hX : (AL K.length (C16 K))[k]? = some X) (ha : Alk P (iN X) (iN K)) (hno : ∀ i Y, i < k → (AL K.length (C16 K))[i]? = some Y → ¬ Alk P (iN Y) (iN K)) : X = M := by
  have hct := ctof16 K h.hx
  have h24 : K.length ≤ 24 := by have := h.h6; omega
  have mX := AL_mx K.length (C16 K) hct.t h24 k X hX
  have mM := AL_mx K.length (C16 K) hct.t h24 n M h.pos
  have hnk : ¬ n < k := fun e => hno n M e h.pos h.alk
  have hX16 := iN_16 (K := X) (fun y hy => by have := mx_in mX y hy; rwa [C16_len] at this)
  have hK16 := iN_16 h.hx
  have hs : Swps (arP P) (iN K) (iN X) := alike_swps (arP_sym P) (arP_irr P) (iN X) (iN K) (fun a b hab => (alike_all hX16 hK16 ha a b hab).symm)
  have hl := ((leL_lst h.ok).swps hs).not_above
  rw [h.lst] at hl
  rcases Nat.lt_or_ge k n with e | e
  · have := mx_below X (C16 K) k n M mX mM e
    rw [hl] at this
    cases this
  · obtain rfl : k = n := by omega
    have := h.pos
    rw [hX] at this
    injection this
theorem SmL.lt {K : List Nat} {P : List Pr} {M : List Nat} {n : Nat} (h : SmL K P M n) : n < (AL K.length (C16 K)).length := (List.getElem?_eq_some_iff.1 h.pos).1
end Go.Proofs.Ytaiccmbhdgecgaa
