/-
  Operations of a disk in memory.
-/
import Derived.Test.YtjaopckdhohpbaaDoorBytes
import Derived.Deep.MidRow
import Derived.Laws.StructEq
namespace Go.Proofs.YtjaopckdhohpbaaDoor
open Go.RowKit
set_option maxRecDepth 100000

theorem hid {p : Prop} (h : p) : Hid p := h
abbrev Opn := Int × List UInt8
/-- an operation's cells -/
def opc (o : Opn) : List Value := .int .i64 o.1 :: bc o.2
def zer : List UInt8 := List.replicate 128 0
def flO : Opn := (-1, zer)
theorem opc_len {o : Opn} (h : o.2.length = 128) : (opc o).length = 129 := by simp [opc, bc_length, h]
theorem opc_one (o : Opn) : ∀ u ∈ opc o, u.oneCell' = true := by
  intro u hu
  rcases List.mem_cons.1 hu with rfl | hu
  · rfl
  · exact bc_one _ u hu

theorem op_fields : Tryd.prog.underlying 75 = some (.struct (Tryd.prog.fieldsOf 75)) := by kernel_rfl
theorem op_stood : Tryd.prog.stoodInHeld 75 = false := by kernel_rfl
theorem op_two : ∃ f0 f1 : Field, (Tryd.prog.fieldsOf 75).toList = [f0, f1] ∧ f0.name = "sector" ∧ f0.type = 3 ∧ f0.offset = 0 := ⟨_, _, rfl, rfl, rfl, rfl⟩
theorem eq_flush (w : World) : (Op.equalIn 10000 75 (.agg (opc flO).toArray) (.agg (opc flO).toArray)).run Tryd.prog w = .ok true w := by kernel_rfl
theorem eq_write (o : Opn) (h : o.1 ≠ -1) (w : World) : (Op.equalIn 10000 75 (.agg (opc o).toArray) (.agg (opc flO).toArray)).run Tryd.prog w = .ok false w := by
  rw [run_equalIn_struct w 9999 _ _ _ op_fields op_stood]
  obtain ⟨f0, f1, h2, hn, ht, ho⟩ := op_two
  rw [h2, Op.eqFields, if_pos (by rw [hn]; decide), ht, ho]
  have hp : ∀ (x : Int) (l : List Value), (part 3 (Value.int .i64 x :: l).toArray 0).run Tryd.prog w = .ok (.int .i64 x) w := fun x l => by
    simp [part, Tryd.isAgg3, go_sem]
  unfold opc
  simp only [Sem.run_bind, hp, Result.andThen_ok]
  rw [run_equalIn_int w 9998 _ _ _ _ _ Tryd.underlying3]
  have : (o.1 == flO.1) = false := beq_eq_false_iff_ne.2 h
  simp [this]
end Go.Proofs.YtjaopckdhohpbaaDoor
