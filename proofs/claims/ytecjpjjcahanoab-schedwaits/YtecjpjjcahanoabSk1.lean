/-
  Rounds and Mixed are as fair as they say.
-/
import Derived.Test.YtecjpjjcahanoabSm4
import Derived.Test.YtecjpjjcahanoabSd
namespace Go.Proofs.Ytecjpjjcahanoab
open Go.RowKit
set_option maxRecDepth 100000

theorem LA_ge (R : List Int) (n h p : Nat) (hh : h < n) (hp : p < R.length) (e : R[p] = (h : Int)) : ∀ i, p < i → i ≤ R.length → (p : Int) + 1 ≤ (LA R n i)[h]'(by rw [LA_len]; exact hh)
  | 0, hi, _ => by omega
  | i + 1, hi, hl => by
    have hs := LA_next R n i (by omega)
    by_cases hip : i = p
    · subst hip
      have : (LA R n (i + 1))[h]'(by rw [LA_len]; exact hh) = (i : Int) + 1 := by
        simp only [hs, e, Int.toNat_natCast, List.getElem_set_self]
      rw [this]
      exact Int.le_refl _
    · have ih := LA_ge R n h p hh hp e i (by omega) (by omega)
      simp only [hs, List.getElem_set]
      split
      · omega
      · exact ih
theorem fair_of (R : List Int) (n : Nat) (k : Int) (hw : ∀ j, j < R.length → k ≤ (j : Int) + 1 → ∀ h, h < n → ∃ p, ∃ hp : p < R.length, p ≤ j ∧ (j : Int) + 1 - k ≤ (p : Int) ∧ R[p] = (h : Int)) : ∀ j, j < R.length → ¬ badF R n k j := by
  rintro j hj ⟨h1, x, hx, hxk⟩
  obtain ⟨h, hh, rfl⟩ := List.mem_iff_getElem.1 hx
  rw [LA_len] at hh
  obtain ⟨p, hp, hpj, hpk, hpe⟩ := hw j hj (by omega) h hh
  have := LA_ge R n h p hh hp hpe (j + 1) (by omega) (by omega)
  omega
theorem FaA.yes {R : List Int} {n : Nat} {k : Int} (hn : 1 ≤ n ∧ n ≤ 16) (hk : 1 ≤ k) (hl : R.length ≤ 65536) (hin : ∀ i (h : i < R.length), 0 ≤ R[i] ∧ R[i] < (n : Int))
    (hw : ∀ j, j < R.length → k ≤ (j : Int) + 1 → ∀ h, h < n → ∃ p, ∃ hp : p < R.length, p ≤ j ∧ (j : Int) + 1 - k ≤ (p : Int) ∧ R[p] = (h : Int)) : FaA R (n : Int) k true 0 :=
  .inr (.inr ⟨⟨(okN_iff _).2 ⟨by omega, by omega⟩, hk, hl, (inB_iff R _).2 hin⟩, by rw [Int.toNat_natCast]; exact fair_of R n k hw, rfl, rfl⟩)

theorem rd_at (n m i : Nat) (h : i < (rdL n m).length) : (rdL n m)[i] = ((i % n : Nat) : Int) := by simp [rdL]
theorem rounds_fair (n m : Nat) (hn : 1 ≤ n ∧ n ≤ 16) (hm : m ≤ 65536) : FaA (rdL n m) (n : Int) (n : Int) true 0 := by
  refine FaA.yes hn (by omega) (by rw [rdL_len]; exact hm) (fun i h => ?_) fun j hj hk h hh => ?_
  · rw [rd_at]
    have := Nat.mod_lt i (show 0 < n by omega)
    omega
  · rw [rdL_len] at hj
    obtain ⟨s, hs⟩ : ∃ s, j + 1 = s + n := ⟨j + 1 - n, by omega⟩
    have hsm := Nat.mod_lt s (show 0 < n by omega)
    have hlt := Nat.mod_lt (h + n - s % n) (show 0 < n by omega)
    refine ⟨s + (h + n - s % n) % n, by rw [rdL_len]; omega, by omega, by omega, ?_⟩
    rw [rd_at, Nat.add_mod_mod]
    have hd := Nat.div_add_mod s n
    have e : s + (h + n - s % n) = h + n * (s / n + 1) := by rw [Nat.mul_add]; omega
    rw [e, Nat.add_mul_mod_self_left, Nat.mod_eq_of_lt hh]

theorem fA_mem (s : Int) (n h : Nat) (hh : h < n) : ∀ i, h < i → (h : Int) ∈ (fA s n i).2
  | 0, hi => by omega
  | i + 1, hi => by
    unfold fA
    by_cases e : h = i
    · subst e
      rw [if_pos hh]
      simp
    · have := fA_mem s n h hh i (by omega)
      split <;> simp [this]
theorem fA_all (s : Int) (n : Nat) (hn : 1 ≤ n) : ∀ i, ∀ x ∈ (fA s n i).2, 0 ≤ x ∧ x < (n : Int)
  | 0, x, hx => by simp [fA] at hx
  | i + 1, x, hx => by
    unfold fA at hx
    split at hx
    · rcases List.mem_append.1 hx with h | h
      · exact fA_all s n hn i x h
      · simp at h; omega
    · rcases List.mem_append.1 hx with h | h
      · exact fA_all s n hn i x h
      · have := dv_lt (fA s n i).1 n hn
        simp at h; omega
theorem swp_at (L : List Int) (i j k : Nat) (hi : i < L.length) (hj : j < L.length) (hk : k < (swp L i j).length) : (swp L i j)[k] = if k = j then L[i] else if k = i then L[j] else L[k]'(by rw [swp_len] at hk; exact hk) := by
  simp only [swp, List.getElem_set]
  by_cases h1 : k = j
  · subst h1
    simp [List.getD_eq_getElem?_getD, hi]
  · rw [if_neg (fun e => h1 e.symm), if_neg h1]
    by_cases h2 : k = i
    · subst h2
      simp [List.getD_eq_getElem?_getD, hj]
    · rw [if_neg (fun e => h2 e.symm), if_neg h2]
theorem swp_mem (L : List Int) (i j : Nat) (hi : i < L.length) (hj : j < L.length) (x : Int) : x ∈ swp L i j ↔ x ∈ L := by
  constructor
  · intro h
    obtain ⟨k, hk, rfl⟩ := List.mem_iff_getElem.1 h
    rw [swp_at L i j k hi hj hk]
    split
    · exact List.getElem_mem _
    · split <;> exact List.getElem_mem _
  · intro h
    obtain ⟨k, hk, rfl⟩ := List.mem_iff_getElem.1 h
    by_cases h1 : k = i
    · subst h1
      exact List.mem_iff_getElem.2 ⟨j, by rw [swp_len]; exact hj, by rw [swp_at L k j j hi hj]; simp⟩
    · by_cases h2 : k = j
      · subst h2
        refine List.mem_iff_getElem.2 ⟨i, by rw [swp_len]; exact hi, ?_⟩
        rw [swp_at L i k i hi hj, if_neg (fun e => h1 e.symm), if_pos rfl]
      · refine List.mem_iff_getElem.2 ⟨k, by rw [swp_len]; exact hk, ?_⟩
        rw [swp_at L i j k hi hj, if_neg h2, if_neg h1]
theorem fB_mem (s : Int) (n len : Nat) (x : Int) : ∀ t, t < len → (x ∈ (fB s n len t).2 ↔ x ∈ (fA s n len).2)
  | 0, _ => Iff.rfl
  | t + 1, h => by
    have hd := dv_lt (fB s n len t).1 (len - 1 - t + 1) (by omega)
    rw [fB, swp_mem _ _ _ (by rw [fB_len]; omega) (by rw [fB_len]; omega)]
    exact fB_mem s n len x t (by omega)
theorem mxB_has (s : Int) (n len q h : Nat) (hh : h < n) (hl : n ≤ len) : ∃ r, ∃ hr : r < (mxB s n len q).length, (mxB s n len q)[r] = (h : Int) := by
  have : (h : Int) ∈ mxB s n len q := (fB_mem _ n len _ (len - 1) (by omega)).2 (fA_mem _ n h hh len (by omega))
  exact List.mem_iff_getElem.1 this
theorem mxB_all (s : Int) (n len q : Nat) (hn : 1 ≤ n) (hl : n ≤ len) : ∀ x ∈ mxB s n len q, 0 ≤ x ∧ x < (n : Int) := fun x hx =>
  fA_all _ n hn len x ((fB_mem _ n len x (len - 1) (by omega)).1 hx)
theorem mx_at (s : Int) (n len m i : Nat) (h : i < (mxL s n len m).length) : (mxL s n len m)[i] = mxP s n len i := by simp [mxL]
theorem mxP_in (s : Int) (n len i : Nat) (hn : 1 ≤ n) (hl : n ≤ len) : 0 ≤ mxP s n len i ∧ mxP s n len i < (n : Int) := by
  have hlt : i % len < (mxB s n len (i / len)).length := by rw [mxB_len]; exact Nat.mod_lt _ (by omega)
  have e : mxP s n len i = (mxB s n len (i / len))[i % len] := by unfold mxP; rw [List.getD_eq_getElem?_getD, List.getElem?_eq_getElem hlt]; rfl
  rw [e]
  exact mxB_all s n len _ hn hl _ (List.getElem_mem _)
theorem mixed_fair (s : Int) (n len kk m : Nat) (hn : 1 ≤ n ∧ n ≤ 16) (hl : n ≤ len) (hk : (kk + 1) / 2 = len) (hm : m ≤ 65536) : FaA (mxL s n len m) (n : Int) (kk : Int) true 0 := by
  refine FaA.yes hn (by omega) (by rw [mxL_len]; exact hm) (fun i h => ?_) fun j hj hkj h hh => ?_
  · rw [mx_at]
    exact mxP_in s n len i hn.1 hl
  · rw [mxL_len] at hj
    obtain ⟨s0, hs⟩ : ∃ s0, j + 1 = s0 + kk := ⟨j + 1 - kk, by omega⟩
    obtain ⟨q, hq⟩ : ∃ q, (s0 + len - 1) / len = q := ⟨_, rfl⟩
    have h1 : q * len ≤ s0 + len - 1 := by rw [← hq]; exact Nat.div_mul_le_self _ _
    have h2 : s0 ≤ q * len := by
      have h3 := Nat.div_add_mod (s0 + len - 1) len
      have h4 := Nat.mod_lt (s0 + len - 1) (show 0 < len by omega)
      rw [hq, Nat.mul_comm] at h3
      omega
    obtain ⟨r, hr, hre⟩ := mxB_has s n len q h hh hl
    rw [mxB_len] at hr
    refine ⟨q * len + r, by rw [mxL_len]; omega, by omega, by omega, ?_⟩
    have e1 : (q * len + r) / len = q := by rw [Nat.mul_comm, Nat.mul_add_div (by omega), Nat.div_eq_of_lt hr]; rfl
    have e2 : (q * len + r) % len = r := by rw [Nat.mul_comm, Nat.mul_add_mod, Nat.mod_eq_of_lt hr]
    rw [mx_at, mxP, e1, e2, List.getD_eq_getElem?_getD, List.getElem?_eq_getElem (by rw [mxB_len]; exact hr)]
    exact hre
end Go.Proofs.Ytecjpjjcahanoab
