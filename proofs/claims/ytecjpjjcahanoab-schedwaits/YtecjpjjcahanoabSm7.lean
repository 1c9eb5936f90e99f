/-
  The document's Mixed.
-/
import Derived.Test.YtecjpjjcahanoabSm6
import Derived.Laws.Cover1
namespace Go.Proofs.Ytecjpjjcahanoab
open Go.RowKit Go.Shelf
set_option maxRecDepth 100000

theorem mxL_block (s : Int) (n len q : Nat) (hl : 1 ≤ len) : mxL s n len (q * len + len) = mxL s n len (q * len) ++ mxB s n len q := by
  unfold mxL
  rw [List.range_add, List.map_append, List.map_map]
  congr 1
  apply List.ext_getElem
  · simp [mxB_len]
  · intro i h1 h2
    rw [mxB_len] at h2
    have e1 : (q * len + i) / len = q := by rw [Nat.mul_comm, Nat.mul_add_div (by omega), Nat.div_eq_of_lt h2]; rfl
    have e2 : (q * len + i) % len = i := by rw [Nat.mul_comm, Nat.mul_add_mod, Nat.mod_eq_of_lt h2]
    simp [mxP, e1, e2, List.getD_eq_getElem?_getD, mxB_len, h2]
theorem RI.take {w : World} {ao : Option Addr} {c m z : Nat} {R : List Int} (h : RI w (.slice ao m c) R) (hz : z ≤ m) : RI w (.slice ao z c) (R.take z) ∧ m = R.length ∧ m ≤ c := by
  obtain ⟨ao', c', hv, hc, hn, hr⟩ := h
  cases hv
  refine ⟨⟨_, _, by rw [List.length_take, Nat.min_eq_left hz], by rw [List.length_take]; omega, hn, fun i hi => ?_⟩, rfl, hc⟩
  rw [List.length_take] at hi
  obtain ⟨g, off, ha, hcell⟩ := hr i (by omega)
  exact ⟨g, off, ha, by rw [List.getElem_take]; exact hcell⟩
def lenV : Value → Nat
  | .slice _ n _ => n
  | _ => 0

end Go.Proofs.Ytecjpjjcahanoab
