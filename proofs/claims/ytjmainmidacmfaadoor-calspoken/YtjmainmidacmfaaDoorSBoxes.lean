/-
  A span in memory.
-/
import Derived.Test.YtjmainmidacmfaaDoorCspan
namespace Go.Proofs.YtjmainmidacmfaaDoor
open Go.RowKit
set_option maxRecDepth 100000

/-- a span lies in block b -/
def SBox (w : World) (b : Nat) (y m v d h i s : Int) : Prop := w.heap[b]? = some (.cells #[.int .i64 y, .int .i64 m, .int .i64 v, .int .i64 d, .int .i64 h, .int .i64 i, .int .i64 s] 23 (0, 0))

theorem SBox.facts {w : World} {b : Nat} {y m v d h i s : Int} (x : SBox w b y m v d h i s) :
    w.cell? ⟨b, 0, none⟩ = some (.int .i64 y) ∧ w.cell? ⟨b, 1, none⟩ = some (.int .i64 m) ∧ w.cell? ⟨b, 2, none⟩ = some (.int .i64 v) ∧ w.cell? ⟨b, 3, none⟩ = some (.int .i64 d) ∧
    w.cell? ⟨b, 4, none⟩ = some (.int .i64 h) ∧ w.cell? ⟨b, 5, none⟩ = some (.int .i64 i) ∧ w.cell? ⟨b, 6, none⟩ = some (.int .i64 s) ∧ b < w.heap.size :=
  ⟨by rw [Lib.cell_of_heap x]; rfl, by rw [Lib.cell_of_heap x]; rfl, by rw [Lib.cell_of_heap x]; rfl, by rw [Lib.cell_of_heap x]; rfl, by rw [Lib.cell_of_heap x]; rfl, by rw [Lib.cell_of_heap x]; rfl, by rw [Lib.cell_of_heap x]; rfl, (Array.getElem?_eq_some_iff.1 x).1⟩
theorem SBox.later {w w' : World} {b : Nat} {y m v d h i s : Int} (x : SBox w b y m v d h i s) (hb : Below w.heap.size w w') : SBox w' b y m v d h i s := (hb.block b (Array.getElem?_eq_some_iff.1 x).1).trans x
theorem SBox.new (w : World) (y m v d h i s : Int) : SBox (w.alloc (.cells #[.int .i64 y, .int .i64 m, .int .i64 v, .int .i64 d, .int .i64 h, .int .i64 i, .int .i64 s] 23)) w.heap.size y m v d h i s := heap_alloc_new _ _

end Go.Proofs.YtjmainmidacmfaaDoor
