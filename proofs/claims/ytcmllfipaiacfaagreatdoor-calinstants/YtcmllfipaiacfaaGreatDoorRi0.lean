/-
  The document's ParseInstant, what it is asked. Laid by mkri1.py.
-/
import Derived.Test.YtcmllfipaiacfaaGreatDoorCz1
import Derived.Test.YtcmllfipaiacfaaGreatDoorRday
namespace Go.Proofs.YtcmllfipaiacfaaGreatDoor
open Go.RowKit
set_option maxRecDepth 100000
set_option linter.unusedSimpArgs false
set_option linter.unusedVariables false

theorem ext_all (t : ByteArray) : t.extract 0 t.size = t := bax (by rw [ext_list]; exact List.take_of_length_le (by rw [List.length_drop, Array.length_toList]; exact Nat.le_refl _))
def RPd (D : ByteArray) (v : Value) : Prop := ∀ w, Calls Tryz.prog 24 #[.string D] w fun e w' => e = .returned v ∧ Below w.heap.size w w'
def RdB (f : Nat) (args : Array Value) (v : Int × Int × Bool) : Prop := ∀ w, Calls Tryz.prog f args w fun e w' => e = .returned (tupB v) ∧ Below w.heap.size w w'
def RIn (t : ByteArray) (v : Int × Int × Int) : Prop := ∀ w, Calls Tryz.prog 8 #[.string t] w fun e w' => e = .returned (tup v) ∧ Below w.heap.size w w'
theorem rin_long (t : ByteArray) (h : 64 < t.size) : RIn t (0, 1, 0) := by
  intro w
  have h' : (64 : Int) < (t.size : Int) := by omega
  unfold tup
  go_enter Tryz.func8, Tryz.ntmps8
  go_wp2
  go_ret3
  exact ⟨rfl, Below.refl _ _⟩
end Go.Proofs.YtcmllfipaiacfaaGreatDoor
