/-
  codec: Record. Laid by mkrc3.py.
-/
import Derived.Test.YtfhicemfhkhjaabRc2
namespace Go.Proofs.Ytfhicemfhkhjaab
open Go.RowKit
set_option maxRecDepth 100000

/-- the three results of a call that reads a record -/
def RE (w : World) (qb eb pb : Nat) (row : Array Value) (e p : Int) : Prop := w.heap[qb]? = some (.cells row 54 (0, 0)) ∧ w.heap[eb]? = some (.cells #[.int .i64 e] 25 (0, 0)) ∧ w.heap[pb]? = some (.cells #[.int .i64 p] 3 (0, 0)) ∧ qb < eb ∧ eb < pb
theorem RE.later {w w' : World} {qb eb pb : Nat} {row : Array Value} {e p : Int} (h : RE w qb eb pb row e p) (k : Below w.heap.size w w') : RE w' qb eb pb row e p :=
  ⟨(k.block qb (Array.getElem?_eq_some_iff.1 h.1).1).trans h.1, (k.block eb (Array.getElem?_eq_some_iff.1 h.2.1).1).trans h.2.1, (k.block pb (Array.getElem?_eq_some_iff.1 h.2.2.1).1).trans h.2.2.1, h.2.2.2⟩
theorem RE.put {w : World} {qb eb pb : Nat} {b0 b1 b2 b3 b4 b5 b6 : Value} {e p : Int} (h : RE w qb eb pb #[b0, b1, b2, b3, b4, b5, b6] e p) (a0 a1 a2 a3 a4 a5 a6 : Value) (e' p' : Int) : RE (((((((((w.setCell ⟨qb, 0, none⟩ a0).setCell ⟨qb, 1, none⟩ a1).setCell ⟨qb, 2, none⟩ a2).setCell ⟨qb, 3, none⟩ a3).setCell ⟨qb, 4, none⟩ a4).setCell ⟨qb, 5, none⟩ a5).setCell ⟨qb, 6, none⟩ a6).setCell ⟨eb, 0, none⟩ (.int .i64 e')).setCell ⟨pb, 0, none⟩ (.int .i64 p')) qb eb pb #[a0, a1, a2, a3, a4, a5, a6] e' p' := by
  obtain ⟨h1, h2, h3, h4, h5⟩ := h
  have g0 : (w.setCell ⟨qb, 0, none⟩ a0).heap[qb]? = some (.cells #[a0, b1, b2, b3, b4, b5, b6] 54 (0, 0)) := heap_setCell_same _ qb 0 _ _ a0 h1
  have g1 : ((w.setCell ⟨qb, 0, none⟩ a0).setCell ⟨qb, 1, none⟩ a1).heap[qb]? = some (.cells #[a0, a1, b2, b3, b4, b5, b6] 54 (0, 0)) := heap_setCell_same _ qb 1 _ _ a1 g0
  have g2 : (((w.setCell ⟨qb, 0, none⟩ a0).setCell ⟨qb, 1, none⟩ a1).setCell ⟨qb, 2, none⟩ a2).heap[qb]? = some (.cells #[a0, a1, a2, b3, b4, b5, b6] 54 (0, 0)) := heap_setCell_same _ qb 2 _ _ a2 g1
  have g3 : ((((w.setCell ⟨qb, 0, none⟩ a0).setCell ⟨qb, 1, none⟩ a1).setCell ⟨qb, 2, none⟩ a2).setCell ⟨qb, 3, none⟩ a3).heap[qb]? = some (.cells #[a0, a1, a2, a3, b4, b5, b6] 54 (0, 0)) := heap_setCell_same _ qb 3 _ _ a3 g2
  have g4 : (((((w.setCell ⟨qb, 0, none⟩ a0).setCell ⟨qb, 1, none⟩ a1).setCell ⟨qb, 2, none⟩ a2).setCell ⟨qb, 3, none⟩ a3).setCell ⟨qb, 4, none⟩ a4).heap[qb]? = some (.cells #[a0, a1, a2, a3, a4, b5, b6] 54 (0, 0)) := heap_setCell_same _ qb 4 _ _ a4 g3
  have g5 : ((((((w.setCell ⟨qb, 0, none⟩ a0).setCell ⟨qb, 1, none⟩ a1).setCell ⟨qb, 2, none⟩ a2).setCell ⟨qb, 3, none⟩ a3).setCell ⟨qb, 4, none⟩ a4).setCell ⟨qb, 5, none⟩ a5).heap[qb]? = some (.cells #[a0, a1, a2, a3, a4, a5, b6] 54 (0, 0)) := heap_setCell_same _ qb 5 _ _ a5 g4
  have g6 : (((((((w.setCell ⟨qb, 0, none⟩ a0).setCell ⟨qb, 1, none⟩ a1).setCell ⟨qb, 2, none⟩ a2).setCell ⟨qb, 3, none⟩ a3).setCell ⟨qb, 4, none⟩ a4).setCell ⟨qb, 5, none⟩ a5).setCell ⟨qb, 6, none⟩ a6).heap[qb]? = some (.cells #[a0, a1, a2, a3, a4, a5, a6] 54 (0, 0)) := heap_setCell_same _ qb 6 _ _ a6 g5
  refine ⟨?_, ?_, ?_, h4, h5⟩
  · rw [heap_setCell_other _ ⟨pb, 0, none⟩ qb _ (by show qb ≠ pb; omega), heap_setCell_other _ ⟨eb, 0, none⟩ qb _ (by show qb ≠ eb; omega)]
    exact g6
  · rw [heap_setCell_other _ ⟨pb, 0, none⟩ eb _ (by show eb ≠ pb; omega)]
    refine heap_setCell_same _ eb 0 _ _ _ (show _ = some (Obj.cells #[.int .i64 e] 25 (0, 0)) from ?_)
    rw [heap_setCell_other _ ⟨qb, 6, none⟩ eb _ (by show eb ≠ qb; omega), heap_setCell_other _ ⟨qb, 5, none⟩ eb _ (by show eb ≠ qb; omega), heap_setCell_other _ ⟨qb, 4, none⟩ eb _ (by show eb ≠ qb; omega), heap_setCell_other _ ⟨qb, 3, none⟩ eb _ (by show eb ≠ qb; omega), heap_setCell_other _ ⟨qb, 2, none⟩ eb _ (by show eb ≠ qb; omega), heap_setCell_other _ ⟨qb, 1, none⟩ eb _ (by show eb ≠ qb; omega), heap_setCell_other _ ⟨qb, 0, none⟩ eb _ (by show eb ≠ qb; omega)]
    exact h2
  · refine heap_setCell_same _ pb 0 _ _ _ (show _ = some (Obj.cells #[.int .i64 p] 3 (0, 0)) from ?_)
    rw [heap_setCell_other _ ⟨eb, 0, none⟩ pb _ (by show pb ≠ eb; omega), heap_setCell_other _ ⟨qb, 6, none⟩ pb _ (by show pb ≠ qb; omega), heap_setCell_other _ ⟨qb, 5, none⟩ pb _ (by show pb ≠ qb; omega), heap_setCell_other _ ⟨qb, 4, none⟩ pb _ (by show pb ≠ qb; omega), heap_setCell_other _ ⟨qb, 3, none⟩ pb _ (by show pb ≠ qb; omega), heap_setCell_other _ ⟨qb, 2, none⟩ pb _ (by show pb ≠ qb; omega), heap_setCell_other _ ⟨qb, 1, none⟩ pb _ (by show pb ≠ qb; omega), heap_setCell_other _ ⟨qb, 0, none⟩ pb _ (by show pb ≠ qb; omega)]
    exact h3
theorem RE.o3 {w0 w : World} {qb eb pb : Nat} (h : Below w0.heap.size w0 w) (a0 a1 a2 a3 a4 a5 a6 : Value) (e' p' : Int) : O3 qb eb pb w0 (((((((((w.setCell ⟨qb, 0, none⟩ a0).setCell ⟨qb, 1, none⟩ a1).setCell ⟨qb, 2, none⟩ a2).setCell ⟨qb, 3, none⟩ a3).setCell ⟨qb, 4, none⟩ a4).setCell ⟨qb, 5, none⟩ a5).setCell ⟨qb, 6, none⟩ a6).setCell ⟨eb, 0, none⟩ (.int .i64 e')).setCell ⟨pb, 0, none⟩ (.int .i64 p')) := by
  have h0 : O3 qb eb pb w0 w := ⟨h.os, h.tape, h.output, h.size, fun k hk _ _ _ => h.block k hk⟩
  exact ((((((((h0.set qb 0 a0 (Or.inl rfl)).set qb 1 a1 (Or.inl rfl)).set qb 2 a2 (Or.inl rfl)).set qb 3 a3 (Or.inl rfl)).set qb 4 a4 (Or.inl rfl)).set qb 5 a5 (Or.inl rfl)).set qb 6 a6 (Or.inl rfl)).set eb 0 _ (Or.inr (Or.inl rfl))).set pb 0 _ (Or.inr (Or.inr rfl))
end Go.Proofs.Ytfhicemfhkhjaab
