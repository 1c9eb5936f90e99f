/-
  What merged's list is; Open.
-/
import Derived.Test.YtipgmiblphfboaaDoorSh8
namespace Go.Proofs.YtipgmiblphfboaaDoor
open Go.RowKit
set_option maxRecDepth 100000

abbrev Up (S : List Int) : Prop := S.Pairwise (· < ·)
theorem mrg_mem : ∀ (S E : List Int) (A : List (Int × Bool)), mrg S E = some A → ∀ x, x ∈ A ↔ (x.2 = false ∧ x.1 ∈ S) ∨ (x.2 = true ∧ x.1 ∈ E) := by
  intro S E
  induction S, E using mrg_ind with
  | case1 => intro A h x; rw [mrg_00] at h; cases h; simp
  | case2 s S ih =>
    intro A h x
    rw [mrg_s0] at h
    obtain ⟨B, hB, rfl⟩ := Option.map_eq_some_iff.1 h
    have := ih B hB x
    rcases x with ⟨d, b⟩
    cases b <;> simp_all
  | case3 e E ih =>
    intro A h x
    rw [mrg_0e] at h
    obtain ⟨B, hB, rfl⟩ := Option.map_eq_some_iff.1 h
    have := ih B hB x
    rcases x with ⟨d, b⟩
    cases b <;> simp_all
  | case4 s S e E hlt ih =>
    intro A h x
    rw [mrg_lt hlt] at h
    obtain ⟨B, hB, rfl⟩ := Option.map_eq_some_iff.1 h
    have := ih B hB x
    rcases x with ⟨d, b⟩
    cases b <;> simp_all
  | case5 s S e E hlt hgt ih =>
    intro A h x
    rw [mrg_gt hgt] at h
    obtain ⟨B, hB, rfl⟩ := Option.map_eq_some_iff.1 h
    have := ih B hB x
    rcases x with ⟨d, b⟩
    cases b <;> simp_all
  | case6 s S e E h1 h2 =>
    intro A h x
    obtain rfl : s = e := by omega
    rw [mrg_eq] at h
    cases h
theorem mrg_up : ∀ (S E : List Int) (A : List (Int × Bool)), mrg S E = some A → Up S → Up E → A.Pairwise fun x y => x.1 < y.1 := by
  intro S E
  induction S, E using mrg_ind with
  | case1 => intro A h _ _; rw [mrg_00] at h; cases h; simp
  | case2 s S ih =>
    intro A h hS hE
    rw [mrg_s0] at h
    obtain ⟨B, hB, rfl⟩ := Option.map_eq_some_iff.1 h
    have hS := List.pairwise_cons.1 hS
    refine List.pairwise_cons.2 ⟨fun x hx => ?_, ih B hB hS.2 hE⟩
    rcases (mrg_mem _ _ _ hB x).1 hx with ⟨_, h⟩ | ⟨_, h⟩
    · exact hS.1 _ h
    · simp at h
  | case3 e E ih =>
    intro A h hS hE
    rw [mrg_0e] at h
    obtain ⟨B, hB, rfl⟩ := Option.map_eq_some_iff.1 h
    have hE := List.pairwise_cons.1 hE
    refine List.pairwise_cons.2 ⟨fun x hx => ?_, ih B hB hS hE.2⟩
    rcases (mrg_mem _ _ _ hB x).1 hx with ⟨_, h⟩ | ⟨_, h⟩
    · simp at h
    · exact hE.1 _ h
  | case4 s S e E hlt ih =>
    intro A h hS hE
    rw [mrg_lt hlt] at h
    obtain ⟨B, hB, rfl⟩ := Option.map_eq_some_iff.1 h
    have hS := List.pairwise_cons.1 hS
    refine List.pairwise_cons.2 ⟨fun x hx => ?_, ih B hB hS.2 hE⟩
    rcases (mrg_mem _ _ _ hB x).1 hx with ⟨_, h⟩ | ⟨_, h⟩
    · exact hS.1 _ h
    · have hE := List.pairwise_cons.1 hE
      rcases List.mem_cons.1 h with h | h
      · show s < x.1; omega
      · have := hE.1 _ h
        show s < x.1; omega
  | case5 s S e E hlt hgt ih =>
    intro A h hS hE
    rw [mrg_gt hgt] at h
    obtain ⟨B, hB, rfl⟩ := Option.map_eq_some_iff.1 h
    have hE := List.pairwise_cons.1 hE
    refine List.pairwise_cons.2 ⟨fun x hx => ?_, ih B hB hS hE.2⟩
    rcases (mrg_mem _ _ _ hB x).1 hx with ⟨_, h⟩ | ⟨_, h⟩
    · have hS := List.pairwise_cons.1 hS
      rcases List.mem_cons.1 h with h | h
      · show e < x.1; omega
      · have := hS.1 _ h
        show e < x.1; omega
    · exact hE.1 _ h
  | case6 s S e E h1 h2 =>
    intro A h _ _
    obtain rfl : s = e := by omega
    rw [mrg_eq] at h
    cases h
/-- where a list says no, some day stands in both -/
theorem mrg_none : ∀ (S E : List Int), mrg S E = none → ∃ d, d ∈ S ∧ d ∈ E := by
  intro S E
  induction S, E using mrg_ind with
  | case1 => intro h; rw [mrg_00] at h; cases h
  | case2 s S ih =>
    intro h
    rw [mrg_s0, Option.map_eq_none_iff] at h
    obtain ⟨d, h1, h2⟩ := ih h
    exact ⟨d, List.mem_cons_of_mem _ h1, h2⟩
  | case3 e E ih =>
    intro h
    rw [mrg_0e, Option.map_eq_none_iff] at h
    obtain ⟨d, h1, h2⟩ := ih h
    exact ⟨d, h1, List.mem_cons_of_mem _ h2⟩
  | case4 s S e E hlt ih =>
    intro h
    rw [mrg_lt hlt, Option.map_eq_none_iff] at h
    obtain ⟨d, h1, h2⟩ := ih h
    exact ⟨d, List.mem_cons_of_mem _ h1, h2⟩
  | case5 s S e E hlt hgt ih =>
    intro h
    rw [mrg_gt hgt, Option.map_eq_none_iff] at h
    obtain ⟨d, h1, h2⟩ := ih h
    exact ⟨d, h1, List.mem_cons_of_mem _ h2⟩
  | case6 s S e E h1 h2 =>
    intro _
    obtain rfl : s = e := by omega
    exact ⟨s, by simp, by simp⟩
theorem Ris.up {D : List (Int × Int × Int)} (h : Ris D) : Up (D.map nbT) := by
  unfold Up
  rw [List.pairwise_iff_getElem]
  intro i j hi hj hij
  simp only [List.length_map] at hi hj
  simp only [List.getElem_map]
  obtain ⟨k, rfl⟩ : ∃ k, j = i + 1 + k := ⟨j - (i + 1), by omega⟩
  clear hij
  induction k with
  | zero => exact (h (i + 1) (by omega) (by omega)).2 (by omega)
  | succ k ih =>
    have h1 := ih (by omega)
    have h2 := (h (i + 1 + (k + 1)) (by omega) (by omega)).2 (by omega)
    have e : i + 1 + (k + 1) - 1 = i + 1 + k := by omega
    simp only [e] at h2
    omega
theorem Ris.range {D : List (Int × Int × Int)} (h : Ris D) : ∀ n ∈ D.map nbT, 0 ≤ n ∧ n ≤ 3652424 := by
  intro n hn
  obtain ⟨x, hx, rfl⟩ := List.mem_map.1 hn
  obtain ⟨i, hi, rfl⟩ := List.getElem_of_mem hx
  exact nb_range _ _ _ (h i hi hi).1
theorem rlA_some {D E : List (Int × Int × Int)} {A : List (Int × Bool)} (h : rlA D E = some A) : (RO D ∧ RO E) ∧ mrg (D.map nbT) (E.map nbT) = some A := by
  by_cases hr : RO D ∧ RO E
  · rw [rlA_yes hr.1 hr.2] at h
    exact ⟨hr, h⟩
  · rw [rlA_no hr] at h
    cases h
theorem rlA_up {D E : List (Int × Int × Int)} {A : List (Int × Bool)} (h : rlA D E = some A) : Srt 1 A ∧ Srt (-1) A.reverse ∧ ∀ x ∈ A, 0 ≤ x.1 ∧ x.1 ≤ 3652424 := by
  obtain ⟨⟨h1, h2⟩, h3⟩ := rlA_some h
  have hu := mrg_up _ _ _ h3 h1.2.up h2.2.up
  refine ⟨?_, ?_, ?_⟩
  · unfold Srt
    exact hu.imp (fun {x y} h => by omega)
  · unfold Srt
    rw [List.pairwise_reverse]
    exact hu.imp (fun {x y} h => by omega)
  · intro x hx
    rcases (mrg_mem _ _ _ h3 x).1 hx with ⟨_, h⟩ | ⟨_, h⟩
    · exact h1.2.range _ h
    · exact h2.2.range _ h
theorem isOp_rev (wk : Nat → Bool) (A : List (Int × Bool)) (n : Int) : isOp wk A.reverse n = isOp wk A n := by
  unfold isOp
  simp only [List.mem_reverse]
end Go.Proofs.YtipgmiblphfboaaDoor
