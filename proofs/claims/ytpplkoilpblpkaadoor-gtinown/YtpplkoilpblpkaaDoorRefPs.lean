/-
  The document's own PrintShown.
-/
import Derived.Test.YtpplkoilpblpkaaDoorPsh
import Derived.Test.YtpplkoilpblpkaaDoorRefPr
namespace Go.Proofs.YtpplkoilpblpkaaDoor
open Go.RowKit
set_option maxRecDepth 100000

theorem one_of (x : ByteArray) (j : Nat) (h : j < x.size) : (x.extract j (j + 1)).data.toList = [x[j]'h] := by
  rw [Lib.extract_data, show j + 1 - j = 1 by omega]
  have hl : j < x.data.toList.length := by rw [len_list]; exact h
  rw [List.drop_eq_getElem_cons hl, byte_list x j h]
  simp

theorem run_subG (x : ByteArray) (i k : Nat) (z : Int) (hz : z = (k : Int)) (hi : i ≤ k) (hk : k ≤ x.size) (w : World) :
    (Instr.slice 9 (.string x) (some (.int .i64 (i : Int))) (some (.int .i64 z)) none).run Tryd.prog w = .ok (.string (x.extract i k)) w := by
  subst hz
  simp [Instr.slice, Instr.sliceBounds, Instr.sliceBound, asIntOf, run_underlying Tryd.underlying9, go_sem, hi, hk]
theorem run_subE (x : ByteArray) (j : Nat) (w : World) (h : j + 1 ≤ x.size) :
    (Instr.slice 9 (.string x) (some (.int .i64 (j : Int))) (some (.int .i64 ((j : Int) + 1))) none).run Tryd.prog w = .ok (.string (x.extract j (j + 1))) w :=
  run_subG x j (j + 1) _ (by omega) (by omega) h w

end Go.Proofs.YtpplkoilpblpkaaDoor
