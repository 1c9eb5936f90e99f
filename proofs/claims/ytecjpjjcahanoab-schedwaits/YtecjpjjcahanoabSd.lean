/-
  Fair: the program's and the document's.
-/
import Derived.Test.YtecjpjjcahanoabSc1
namespace Go.Proofs.Ytecjpjjcahanoab
open Go.RowKit
set_option maxRecDepth 100000
attribute [local go_sem ↓] mki_op

/-- behind the last place of each handler among the first picks -/
def LA (R : List Int) (n : Nat) : Nat → List Int
  | 0 => List.replicate n 0
  | i + 1 => (LA R n i).set (R.getD i 0).toNat ((i : Int) + 1)
theorem LA_len (R : List Int) (n : Nat) : ∀ i, (LA R n i).length = n
  | 0 => by simp [LA]
  | i + 1 => by rw [LA, List.length_set, LA_len R n i]
theorem LA_next (R : List Int) (n i : Nat) (h : i < R.length) : LA R n (i + 1) = (LA R n i).set R[i].toNat ((i : Int) + 1) := by
  rw [LA, List.getD_eq_getElem?_getD, List.getElem?_eq_getElem h]; rfl
/-- the k that end at place i lack one -/
def badF (R : List Int) (n : Nat) (k : Int) (i : Nat) : Prop := 0 ≤ (i : Int) + 1 - k ∧ ∃ x ∈ LA R n (i + 1), x ≤ (i : Int) + 1 - k
def okF (R : List Int) (n k : Int) : Prop := okN n = true ∧ 1 ≤ k ∧ R.length ≤ 65536 ∧ inB R n = true
/-- what Fair answers -/
def FaA (R : List Int) (n k : Int) (b : Bool) (p : Int) : Prop :=
  (¬ okF R n k ∧ b = false ∧ p = -1) ∨ (okF R n k ∧ ∃ i, i < R.length ∧ badF R n.toNat k i ∧ (∀ j, j < i → ¬ badF R n.toNat k j) ∧ b = false ∧ p = (i : Int) + 1 - k) ∨ (okF R n k ∧ (∀ j, j < R.length → ¬ badF R n.toNat k j) ∧ b = true ∧ p = 0)
theorem FaA.same {R : List Int} {n k : Int} {b b' : Bool} {p p' : Int} (h : FaA R n k b p) (h' : FaA R n k b' p') : b = b' ∧ p = p' := by
  rcases h with ⟨x, rfl, rfl⟩ | ⟨x, i, hi, hb, hm, rfl, rfl⟩ | ⟨x, hm, rfl, rfl⟩ <;> rcases h' with ⟨x', rfl, rfl⟩ | ⟨x', i', hi', hb', hm', rfl, rfl⟩ | ⟨x', hm', rfl, rfl⟩
  · exact ⟨rfl, rfl⟩
  · exact absurd x' x
  · exact absurd x' x
  · exact absurd x x'
  · have : i = i' := by
      rcases Nat.lt_trichotomy i i' with h | h | h
      · exact absurd hb (hm' i h)
      · exact h
      · exact absurd hb' (hm i' h)
    subst this
    exact ⟨rfl, rfl⟩
  · exact absurd hb (hm' i hi)
  · exact absurd x x'
  · exact absurd hb' (hm i' hi')
  · exact ⟨rfl, rfl⟩
/-- the answer as a call's end -/
def FaE (R : List Int) (n k : Int) (e : Ending) : Prop := ∃ b p, e = .returned (.tuple #[.bool b, .int .i64 p]) ∧ FaA R n k b p

end Go.Proofs.Ytecjpjjcahanoab
