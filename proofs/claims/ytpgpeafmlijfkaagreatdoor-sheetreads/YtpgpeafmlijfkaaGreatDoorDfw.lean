/-
  Sheets, the document's side: its Fault, kept whole.
-/
import Derived.Test.YtpgpeafmlijfkaaGreatDoorDsm
import Derived.Deep.WholeRow
namespace Go.Proofs.YtpgpeafmlijfkaaGreatDoor
open Go.RowKit
set_option maxRecDepth 100000
set_option linter.unusedVariables false
set_option linter.unusedSimpArgs false

def fLd (a : Addr) : Sem Value := loadVar 46 a
theorem fLd_op (a : Addr) : loadVar 46 a = fLd a := rfl
def fSt (a : Addr) (v : Value) : Sem Unit := storeVar 46 a v
theorem fSt_op (a : Addr) (v : Value) : storeVar 46 a v = fSt a v := rfl
theorem fsize : (Tryz.prog.info? 46).map (·.size) = some 5 := by kernel_rfl
/-- a Fault's five cells -/
def fA (c l k i : Nat) : Array Value := #[.int .i64 (c : Int), .int .i64 (l : Int), .int .i64 (k : Int), .int .i64 (i : Int), .int .i64 0]
/-- a Fault in a block -/
def FW (w : World) (b : Nat) (c l k i : Nat) : Prop := w.heap[b]? = some (.cells (fA c l k i) 46 (0, 0))
section
variable {w : World} {b c l k i : Nat}
theorem run_fLd (h : FW w b c l k i) : (fLd ⟨b, 0, none⟩).run Tryz.prog w = .ok (fV c l k i) w :=
  run_loadVar_row _ _ _ _ (fA c l k i) (0, 0) _ h Tryz.underlying46 rfl fsize
theorem run_fSt (h : FW w b c l k i) (c' l' k' i' : Nat) :
    ∃ W, (fSt ⟨b, 0, none⟩ (fV c' l' k' i')).run Tryz.prog w = .ok () W ∧ FW W b c' l' k' i' ∧ w.grownBy W (some b) := by
  refine ⟨w.setRow b (fA c' l' k' i'), run_storeVar_row w b _ _ (fA c l k i) (fA c' l' k' i') h fsize rfl (by simp [fA]; simp [Value.oneCell']), ?_, ⟨rfl, rfl, rfl, by simp [World.setRow], fun k _ hk => ?_⟩⟩
  · unfold FW at h ⊢
    simp [World.setRow, Array.getElem?_modify, h]
  · have : b ≠ k := fun e => hk (by rw [e])
    simp [World.setRow, Array.getElem?_modify, this]
theorem run_fSt0 (h : FW w b c l k i) :
    ∃ W, (fSt ⟨b, 0, none⟩ (.agg #[.int .i64 0, .int .i64 0, .int .i64 0, .int .i64 0, .int .i64 0])).run Tryz.prog w = .ok () W ∧ FW W b 0 0 0 0 ∧ w.grownBy W (some b) := run_fSt h 0 0 0 0
theorem FW.cell (h : FW w b c l k i) : w.cell? ⟨b, 0, none⟩ = some (.int .i64 (c : Int)) := Lib.cell_of_heap h 0
theorem FW.cell3 (h : FW w b c l k i) : w.cell? ⟨b, 3, none⟩ = some (.int .i64 (i : Int)) := Lib.cell_of_heap h 3
theorem FW.lt (h : FW w b c l k i) : b < w.heap.size := (Array.getElem?_eq_some_iff.1 h).1
theorem FW.big {w' : World} (h : FW w b c l k i) (hb : Below w.heap.size w w') : FW w' b c l k i := (hb.block b h.lt).trans h
theorem FW.grown {w' : World} {o : Option Nat} (h : FW w b c l k i) (hg : w.grownBy w' o) (ho : o ≠ some b) : FW w' b c l k i := (hg.block b h.lt (fun e => ho e.symm)).trans h
theorem FW.alloc (h : FW w b c l k i) (o : Obj) : FW (w.alloc o) b c l k i := (Lib.alloc_old w o b h.lt).trans h
end
theorem FW.new (w : World) : FW (w.alloc (.cells #[.int .i64 0, .int .i64 0, .int .i64 0, .int .i64 0, .int .i64 0] 46)) w.heap.size 0 0 0 0 := heap_alloc_new w _
/-- what a fault is told as -/
def fQ (L : List UInt8) (c f : Nat) : Value := if c = 0 then fV 0 0 0 0 else fV c (plc L f).1 (plc L f).2 f
/-- a Fault's line and column -/
def fP (L : List UInt8) (c f : Nat) : Nat × Nat × Nat := if c = 0 then (0, 0, 0) else ((plc L f).1, (plc L f).2, f)
theorem fQ_is (L : List UInt8) (c f : Nat) : fQ L c f = fV c (fP L c f).1 (fP L c f).2.1 (fP L c f).2.2 := by
  unfold fQ fP
  by_cases h : c = 0
  · rw [if_pos h, if_pos h, h]
  · rw [if_neg h, if_neg h]
end Go.Proofs.YtpgpeafmlijfkaaGreatDoor
