/-
  SchedMixed: the law's walk.
-/
import Derived.Test.YtecjpjjcahanoabSm7
import Derived.Test.YtecjpjjcahanoabLawSRo
namespace Go.Proofs.Ytecjpjjcahanoab
open Go.RowKit Go.Shelf
set_option maxRecDepth 100000

/-- what some answers of what Mixed answers -/
theorem some_mixed (s n k : Int) (most : Nat) (hm : most ≤ 65537) : ∃ L : List Int, L.length ≤ 65536 ∧ (okM n k = false → L = []) ∧ (∀ kk m len : Nat, okM n k = true → n = (m : Int) → k = (kk : Int) → (kk + 1) / 2 = len → L = (mxL s m len 65536).take most) ∧
    ∀ w1 e, MxE s n k w1 e → ∃ fn lb, e = .returned (.func (.func fn) #[] lb) ∧ ∀ w2, Below w1.heap.size w1 w2 → Calls Try.prog 22 #[.func (.func fn) #[] lb, .int .i64 (most : Int)] w2 fun e w' => (∃ v, e = .returned v ∧ OI w' w2.heap.size v L) ∧ Below w2.heap.size w2 w' := by
  by_cases hok : okM n k = true
  · obtain ⟨n1, n2, k1, k2⟩ := (okM_iff n k).1 hok
    obtain ⟨m, rfl⟩ : ∃ m : Nat, n = (m : Int) := ⟨n.toNat, by omega⟩
    obtain ⟨kk, rfl⟩ : ∃ kk : Nat, k = (kk : Int) := ⟨k.toNat, by omega⟩
    refine ⟨(mxL s m ((kk + 1) / 2) 65536).take most, by rw [List.length_take, mxL_len]; omega, fun h => by (rw [hok] at h; cases h), fun kk' m' len' _ e1 e2 e3 => ?_, ?_⟩
    · have : m = m' := by omega
      subst this
      have : kk = kk' := by omega
      subst this
      rw [e3]
    · rintro w1 e (⟨_, gs, gk, gn, rfl, h1, h2, h3⟩ | ⟨hno, _⟩)
      · refine ⟨_, _, rfl, fun w2 hb => ?_⟩
        have x1 := h1.later hb
        have x2 := h2.later hb
        have x3 := h3.later hb
        exact some_w 50 _ 2 _ most w2 (enters_of Try.func50 (by kernel_rfl) rfl) (mixed_seq gs gk gn w2.heap.size m ((kk + 1) / 2) kk s w2 (by omega) (by omega) (by omega) (by omega) rfl x1.facts.2.2 x2.facts.2.2 x3.facts.2.2 x1 x2 x3) (by rw [mxL_len]; exact Nat.le_refl _) hm
      · rw [hok] at hno; cases hno
  · refine ⟨[], by simp, fun _ => rfl, fun _ _ _ h => absurd h hok, ?_⟩
    rintro w1 e (⟨h, _⟩ | ⟨_, rfl⟩)
    · exact absurd h hok
    · refine ⟨_, _, rfl, fun w2 hb => ?_⟩
      have := some_w 49 #[] 0 [] most w2 (enters_of Try.func49 (by kernel_rfl) rfl) (nothing_seq w2.heap.size w2) (by simp) hm
      rw [List.take_nil] at this
      exact this

end Go.Proofs.Ytecjpjjcahanoab
