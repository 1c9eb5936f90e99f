/-
  Dsm: Sheets, the document's side: may, placed. Laid by mkdsm.py.
  Dfw: Sheets, the document's side: its Fault, kept whole.
  Dpg: Sheets, the document's side: at, wrong. Laid by mkdpg.py.
  Dpw: Sheets, the document's side: written. Laid by mkdpw.py.
-/
import Derived.Test.YtmgfdnccmeahjaaGreatDoorYF
import Derived.Deep.WholeRow
import Derived.Test.YtmgfdnccmeahjaaGreatDoorYJ
import Derived.Deep.QuietTactic
import Derived.BigQuiet
import Derived.Test.YtmgfdnccmeahjaaGreatDoorYH
import Derived.Laws.IdiomStrings
import Derived.Laws.BytesString
import Derived.Deep.CutRange
import Derived.Deep.DeepCutAuto
namespace Go.Proofs.YtmgfdnccmeahjaaGreatDoor
open Go.RowKit
set_option maxRecDepth 100000
set_option linter.unusedVariables false
set_option linter.unusedSimpArgs false

/-- the document's Fault in a block -/
def FB (w : World) (b : Nat) (v0 v1 v2 v3 v4 : Value) : Prop := w.heap[b]? = some (.cells #[v0, v1, v2, v3, v4] 62 (0, 0))
section
variable {w : World} {b : Nat} {v0 v1 v2 v3 v4 : Value}
theorem FB.put0 (h : FB w b v0 v1 v2 v3 v4) (u : Value) : FB (w.setCell ⟨b, 0, none⟩ u) b u v1 v2 v3 v4 := Lib.heap_setCell_same h _
theorem FB.put1 (h : FB w b v0 v1 v2 v3 v4) (u : Value) : FB (w.setCell ⟨b, 1, none⟩ u) b v0 u v2 v3 v4 := Lib.heap_setCell_same h _
theorem FB.put2 (h : FB w b v0 v1 v2 v3 v4) (u : Value) : FB (w.setCell ⟨b, 2, none⟩ u) b v0 v1 u v3 v4 := Lib.heap_setCell_same h _
theorem FB.put3 (h : FB w b v0 v1 v2 v3 v4) (u : Value) : FB (w.setCell ⟨b, 3, none⟩ u) b v0 v1 v2 u v4 := Lib.heap_setCell_same h _
theorem FB.put4 (h : FB w b v0 v1 v2 v3 v4) (u : Value) : FB (w.setCell ⟨b, 4, none⟩ u) b v0 v1 v2 v3 u := Lib.heap_setCell_same h _
theorem FB.facts (h : FB w b v0 v1 v2 v3 v4) : w.cell? ⟨b, 0, none⟩ = some v0 ∧ w.cell? ⟨b, 1, none⟩ = some v1 ∧ w.cell? ⟨b, 2, none⟩ = some v2 ∧ w.cell? ⟨b, 3, none⟩ = some v3 ∧ w.cell? ⟨b, 4, none⟩ = some v4 ∧ (∀ j, w.frozen? ⟨b, j, none⟩ = false) ∧ b < w.heap.size :=
  ⟨Lib.cell_of_heap h 0, Lib.cell_of_heap h 1, Lib.cell_of_heap h 2, Lib.cell_of_heap h 3, Lib.cell_of_heap h 4, fun j => Lib.frozen_of_heap h j, (Array.getElem?_eq_some_iff.1 h).1⟩
theorem FB.other (h : FB w b v0 v1 v2 v3 v4) {b2 : Nat} (hne : b ≠ b2) (j : Nat) (u : Value) : FB (w.setCell ⟨b2, j, none⟩ u) b v0 v1 v2 v3 v4 := (Below.heap_setCell _ _ _ _ (by show b ≠ b2; exact hne)).trans h
end
end Go.Proofs.YtmgfdnccmeahjaaGreatDoor

namespace Go.Proofs.YtmgfdnccmeahjaaGreatDoor
open Go.RowKit
set_option maxRecDepth 100000
set_option linter.unusedVariables false
set_option linter.unusedSimpArgs false

def fLd (a : Addr) : Sem Value := loadVar 62 a
theorem fLd_op (a : Addr) : loadVar 62 a = fLd a := rfl
def fSt (a : Addr) (v : Value) : Sem Unit := storeVar 62 a v
theorem fSt_op (a : Addr) (v : Value) : storeVar 62 a v = fSt a v := rfl
/-- a Fault's five cells -/
def fA (c l k i : Nat) : Array Value := #[.int .i64 (c : Int), .int .i64 (l : Int), .int .i64 (k : Int), .int .i64 (i : Int), .int .i64 0]
/-- a Fault in a block -/
def FW (w : World) (b : Nat) (c l k i : Nat) : Prop := w.heap[b]? = some (.cells (fA c l k i) 62 (0, 0))
section
variable {w : World} {b c l k i : Nat}
theorem FW.cell (h : FW w b c l k i) : w.cell? ⟨b, 0, none⟩ = some (.int .i64 (c : Int)) := Lib.cell_of_heap h 0
theorem FW.lt (h : FW w b c l k i) : b < w.heap.size := (Array.getElem?_eq_some_iff.1 h).1
theorem FW.grown {w' : World} {o : Option Nat} (h : FW w b c l k i) (hg : w.grownBy w' o) (ho : o ≠ some b) : FW w' b c l k i := (hg.block b h.lt (fun e => ho e.symm)).trans h
theorem FW.alloc (h : FW w b c l k i) (o : Obj) : FW (w.alloc o) b c l k i := (Lib.alloc_old w o b h.lt).trans h
end
theorem FW.new (w : World) : FW (w.alloc (.cells #[.int .i64 0, .int .i64 0, .int .i64 0, .int .i64 0, .int .i64 0] 62)) w.heap.size 0 0 0 0 := heap_alloc_new w _
end Go.Proofs.YtmgfdnccmeahjaaGreatDoor

namespace Go.Proofs.YtmgfdnccmeahjaaGreatDoor
open Go.RowKit
set_option maxRecDepth 100000
set_option linter.unusedVariables false
set_option linter.unusedSimpArgs false
attribute [local go_sem ↓] fLd_op fSt_op

end Go.Proofs.YtmgfdnccmeahjaaGreatDoor

namespace Go.Proofs.YtmgfdnccmeahjaaGreatDoor
open Go.RowKit
set_option maxRecDepth 100000
set_option linter.unusedVariables false
set_option linter.unusedSimpArgs false

end Go.Proofs.YtmgfdnccmeahjaaGreatDoor
