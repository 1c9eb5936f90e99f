/-
  stock: summed: lines with one a code.
-/
import Derived.Test.YtebkagmlhmdckaaGreatCkd
import Derived.Test.YtebkagmlhmdckaaGreatCke
import Derived.Deep.RegionWith
import Derived.Deep.Cut
namespace Go.Proofs.YtebkagmlhmdckaaGreat
open Go.RowKit
set_option maxRecDepth 100000
set_option linter.unusedSimpArgs false

theorem lc_set : ∀ (R : List Ln) (i : Nat) (y : Ln), ((lc R).set (i * 2) (.string y.1)).set (i * 2 + 1) (.int .i64 y.2) = lc (R.set i y)
  | [], i, y => by simp [lc]
  | x :: t, 0, y => rfl
  | x :: t, i + 1, y => by
    have ih := lc_set t i y
    have e : lc (x :: t) = .string x.1 :: .int .i64 x.2 :: lc t := rfl
    have e2 : lc ((x :: t).set (i + 1) y) = .string x.1 :: .int .i64 x.2 :: lc (t.set i y) := rfl
    rw [e, e2, ← ih, show (i + 1) * 2 = i * 2 + 1 + 1 by omega]
    rfl
theorem lc_setq (R : List Ln) (i : Nat) (q : Int) (h : i < R.length) : (lc R).set (i * 2 + 1) (.int .i64 q) = lc (R.set i (R[i].1, q)) := by
  rw [← lc_set]
  have e := (lc_at R i h).1
  have : (lc R).set (i * 2) (.string R[i].1) = lc R := by
    apply List.ext_getElem?
    intro j
    by_cases hj : i * 2 = j
    · subst hj
      rw [List.getElem?_set_self (by rw [lc_len]; omega), e]
    · rw [List.getElem?_set_ne hj]
  rw [this]
theorem row_set {w : World} {g i : Nat} {R : List Ln} (y : Ln) (h : w.heap[g]? = some (.cells (lc R).toArray 45 (0, 0))) : ((w.setCell ⟨g, i * 2, none⟩ (.string y.1)).setCell ⟨g, i * 2 + 1, none⟩ (.int .i64 y.2)).heap[g]? = some (.cells (lc (R.set i y)).toArray 45 (0, 0)) := by
  have := heap_setCell_same _ g (i * 2 + 1) _ _ (.int .i64 y.2) (heap_setCell_same w g (i * 2) _ _ (.string y.1) h)
  rw [this, ← lc_set]
  simp
theorem row_setq {w : World} {g i : Nat} {R : List Ln} (q : Int) (hi : i < R.length) (h : w.heap[g]? = some (.cells (lc R).toArray 45 (0, 0))) : (w.setCell ⟨g, i * 2 + 1, none⟩ (.int .i64 q)).heap[g]? = some (.cells (lc (R.set i (R[i].1, q))).toArray 45 (0, 0)) := by
  have := heap_setCell_same w g (i * 2 + 1) _ _ (.int .i64 q) h
  rw [this, ← lc_setq R i q hi]
  simp
theorem row_cell {w : World} {g i : Nat} {R : List Ln} (hi : i < R.length) (h : w.heap[g]? = some (.cells (lc R).toArray 45 (0, 0))) : w.cell? ⟨g, i * 2, none⟩ = some (.string R[i].1) ∧ w.cell? ⟨g, i * 2 + 1, none⟩ = some (.int .i64 R[i].2) ∧ w.frozen? ⟨g, i * 2, none⟩ = false ∧ w.frozen? ⟨g, i * 2 + 1, none⟩ = false := by
  have e := lc_at R i hi
  exact ⟨by rw [Lib.cell_of_heap h]; simpa using e.1, by rw [Lib.cell_of_heap h]; simpa using e.2, Lib.frozen_of_heap h _, Lib.frozen_of_heap h _⟩
theorem mg_len : ∀ (S A : List Ln), (S.foldl mgS A).length ≤ A.length + S.length
  | [], A => by simp
  | x :: t, A => by
    have h := mg_len t (mgS A x)
    have h2 : (mgS A x).length ≤ A.length + 1 := by
      unfold mgS
      rcases List.eq_nil_or_concat A with rfl | ⟨B, a, rfl⟩
      · simp
      · simp only [List.concat_eq_append, List.getLast?_concat]
        split <;> simp
    simp only [List.foldl_cons, List.length_cons]
    omega
theorem mg_take (S : List Ln) (k : Nat) (h : k < S.length) : (S.take (k + 1)).foldl mgS [] = mgS ((S.take k).foldl mgS []) S[k] := by
  rw [List.take_succ_eq_append_getElem h, List.foldl_append]
  rfl
end Go.Proofs.YtebkagmlhmdckaaGreat
