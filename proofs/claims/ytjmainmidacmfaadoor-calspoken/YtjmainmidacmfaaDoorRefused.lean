/-
  The parts of a text asked in turn: refused.
-/
import Derived.Test.YtjmainmidacmfaaDoorDgs
import Derived.Test.YtjmainmidacmfaaDoorShelf
import Derived.Shelf.Abstract
import Derived.Laws.EntriesVeiled
import Derived.Lib.SmallJoins
namespace Go.Proofs.YtjmainmidacmfaaDoor
open Go.RowKit
set_option maxRecDepth 100000

/-- what refused answers, and how many parts were asked -/
def rg (len : Nat) (pos : Nat → Nat) (bo : Nat → Bool) : Nat → Nat → Int × Nat
  | 0, k => (-1, k)
  | r + 1, k => if pos k = len then (-1, k) else if bo k then rg len pos bo r (k + 1) else ((pos k : Int), k + 1)

theorem rg_end {len : Nat} {pos : Nat → Nat} {bo : Nat → Bool} {r k : Nat} (h : pos k = len) : rg len pos bo (r + 1) k = (-1, k) := by
  show (if pos k = len then _ else _) = _; rw [if_pos h]
theorem rg_no {len : Nat} {pos : Nat → Nat} {bo : Nat → Bool} {r k : Nat} (h : pos k ≠ len) (hb : bo k = false) : rg len pos bo (r + 1) k = ((pos k : Int), k + 1) := by
  show (if pos k = len then _ else if bo k then _ else _) = _; rw [if_neg h, hb]; rfl
theorem rg_yes {len : Nat} {pos : Nat → Nat} {bo : Nat → Bool} {r k : Nat} (h : pos k ≠ len) (hb : bo k = true) : rg len pos bo (r + 1) k = rg len pos bo r (k + 1) := by
  show (if pos k = len then _ else if bo k then _ else _) = _; rw [if_neg h, hb]; rfl

theorem sub_extract (t : ByteArray) (a k : Nat) : (t.extract a (a + k)).data.toList = sub t.data.toList a k := by
  unfold sub
  rw [ByteArray.data_extract, Array.toList_extract, List.extract_eq_take_drop]
  congr 1
  omega

theorem run_sub (t : ByteArray) (i j : Nat) (z : Int) (hz : z = (j : Int)) (hij : i ≤ j) (hj : j ≤ t.size) (w : World) :
    (Instr.slice 9 (.string t) (some (.int .i64 (i : Int))) (some (.int .i64 z)) none).run Tryd.prog w = .ok (.string (t.extract i j)) w := by
  subst hz
  simp [Instr.slice, Instr.sliceBounds, Instr.sliceBound, asIntOf, run_underlying Tryd.underlying9, go_sem, hij, hj]

end Go.Proofs.YtjmainmidacmfaaDoor
