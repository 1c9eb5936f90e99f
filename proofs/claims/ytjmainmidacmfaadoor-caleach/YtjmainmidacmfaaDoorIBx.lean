/-
  A number in a block of its own.
-/
import Derived.Test.YtjmainmidacmfaaDoorCof
import Derived.Deep.RegionHeld
import Derived.Laws.EntriesVeiled
namespace Go.Proofs.YtjmainmidacmfaaDoor
open Go.RowKit
set_option maxRecDepth 100000

theorem alloc_below (w : World) (o : Obj) : Below w.heap.size w (w.alloc o) := (Below.refl _ _).alloc (Nat.le_refl _) _
/-- a number lies in block b -/
def IBox (w : World) (b : Nat) (v : Int) : Prop := w.heap[b]? = some (.cells #[.int .i64 v] 3 (0, 0))
theorem IBox.facts {w : World} {b : Nat} {v : Int} (h : IBox w b v) : w.cell? ⟨b, 0, none⟩ = some (.int .i64 v) ∧ w.frozen? ⟨b, 0, none⟩ = false ∧ b < w.heap.size :=
  ⟨by rw [Lib.cell_of_heap h]; rfl, Lib.frozen_of_heap h 0, (Array.getElem?_eq_some_iff.1 h).1⟩
theorem IBox.later {w w' : World} {b : Nat} {v : Int} (h : IBox w b v) (hb : Below w.heap.size w w') : IBox w' b v := (hb.block b h.facts.2.2).trans h
theorem IBox.put {w : World} {b : Nat} {v : Int} (h : IBox w b v) (v' : Int) : IBox (w.setCell ⟨b, 0, none⟩ (.int .i64 v')) b v' := Lib.heap_setCell_same h _
theorem Below.grew {w w' : World} (h : Below w.heap.size w w') : w.grownBy w' none := ⟨h.os, h.tape, h.output, h.size, fun k hk _ => h.block k hk⟩
end Go.Proofs.YtjmainmidacmfaaDoor
