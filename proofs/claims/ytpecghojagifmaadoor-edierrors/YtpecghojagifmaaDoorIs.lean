/-
  errors.Is, where both are of errors.New's make.
-/
import Derived.Test.YtpecghojagifmaaDoorRows
import Derived.WalkKit
import Derived.ProofKit
import Derived.LaidEql
import Derived.Stop.Asserts
import Derived.RowKitTokens
import Derived.Below
import Derived.Handy
namespace Go.Proofs.YtpecghojagifmaaDoor
open Go.RowKit Go.Extern.Stop Go.Stop Go.Extern
set_option maxRecDepth 100000

theorem hid {p : Prop} (h : p) : Hid p := h
theorem isTypeOf (v : Value) (w : World) : (callFunc 8 #[.iface 66 v]).run Tryd.prog w = .ok (.value (.iface 38 (.agg #[.pointer (some ⟨14, 66, none⟩)]))) w := by kernel_rfl
theorem isComparable (w : World) : (callFunc 42 #[.agg #[.pointer (some ⟨14, 66, none⟩)]]).run Tryd.prog w = .ok (.value (.bool true)) w := by kernel_rfl
theorem isComp : (Tryd.prog.info? 66).map (·.comparable) = some true := by kernel_rfl
theorem isSize : (Tryd.prog.info? 90).map (·.size) = some 1 := by kernel_rfl
theorem noIsE (v : Value) (xT : TypeId) (w : World) : (Instr.typeAssert (.iface 66 v) xT 40 true).run Tryd.prog w = .ok (.tuple #[.nilIface, .bool false]) w := run_typeAssert_lacksB Tryd.underlying40 (by kernel_rfl) (by kernel_rfl) v xT w
theorem noUnwrapE (v : Value) (xT : TypeId) (w : World) : (Instr.typeAssert (.iface 66 v) xT 43 true).run Tryd.prog w = .ok (.tuple #[.nilIface, .bool false]) w := run_typeAssert_lacksB Tryd.underlying43 (by kernel_rfl) (by kernel_rfl) v xT w
theorem noUnwrapsE (v : Value) (xT : TypeId) (w : World) : (Instr.typeAssert (.iface 66 v) xT 44 true).run Tryd.prog w = .ok (.tuple #[.nilIface, .bool false]) w := run_typeAssert_lacksB Tryd.underlying44 (by kernel_rfl) (by kernel_rfl) v xT w

/-- errors.is(x, x, true) -/
theorem is0_same (a : Addr) (w : World) :
    Calls Tryd.prog 9 #[.iface 66 (.pointer (some a)), .iface 66 (.pointer (some a)), .bool true] w fun e w' => e = .returned (.bool true) ∧ w' = w := by
  obtain ⟨i, hi, hcmp⟩ := Option.map_eq_some_iff.1 isComp
  obtain ⟨j, hj, hjs⟩ := Option.map_eq_some_iff.1 isSize
  have heq := run_eql_iface_ptr_same (P := Tryd.prog) w a Tryd.underlying23 Tryd.underlying66 hi hcmp hj
  go_enter Tryd.func9, Tryd.ntmps9
  go_wp2
  refine wp_loop_rounds 1 ?_
  rw [rounds_succ]
  go_wp2
  go_ret
  exact ⟨rfl, rfl⟩

theorem is0_other (a b : Addr) (ca cb : Array Value) (ta tb : TypeId) (w : World) (hne : a ≠ b) (ha : w.heap[a.block]? = some (.cells ca ta (0, 0))) (hb : w.heap[b.block]? = some (.cells cb tb (0, 0))) :
    Calls Tryd.prog 9 #[.iface 66 (.pointer (some a)), .iface 66 (.pointer (some b)), .bool true] w fun e w' => e = .returned (.bool false) ∧ w' = w := by
  obtain ⟨i, hi, hcmp⟩ := Option.map_eq_some_iff.1 isComp
  obtain ⟨j, hj, hjs⟩ := Option.map_eq_some_iff.1 isSize
  have nE := noIsE
  have uE := noUnwrapE
  have vE := noUnwrapsE
  have heq := run_eql_iface_ptr_other (P := Tryd.prog) w Tryd.underlying23 Tryd.underlying66 hi hcmp hj (by rw [hjs]; decide) hne ha hb
  go_enter Tryd.func9, Tryd.ntmps9
  go_wp2
  refine wp_loop_rounds 1 ?_
  rw [rounds_succ]
  go_wp2
  go_ret
  exact ⟨rfl, rfl⟩

theorem is_of (x : Value) (p : Addr) (r : Bool) (w : World) (tx : TypeId)
    (h : Calls Tryd.prog 9 #[.iface tx x, .iface 66 (.pointer (some p)), .bool true] w fun e w' => e = .returned (.bool r) ∧ w' = w) :
    Calls Tryd.prog 5 #[.iface tx x, .iface 66 (.pointer (some p))] w fun e w' => e = .returned (.bool r) ∧ w' = w := by
  have tT := isTypeOf
  have cT := isComparable
  have H := hid h
  clear h
  go_enter Tryd.func5, Tryd.ntmps5
  go_wp2_with fail
  refine H.out.mono ?_
  rintro e w1 ⟨rfl, rfl⟩
  go_wp2
  go_ret
  exact ⟨rfl, rfl⟩
theorem is_same (a : Addr) (w : World) :
    Calls Tryd.prog 5 #[.iface 66 (.pointer (some a)), .iface 66 (.pointer (some a))] w fun e w' => e = .returned (.bool true) ∧ w' = w := is_of _ a true w _ (is0_same a w)
theorem is_other (a b : Addr) (ca cb : Array Value) (ta tb : TypeId) (w : World) (hne : a ≠ b) (ha : w.heap[a.block]? = some (.cells ca ta (0, 0))) (hb : w.heap[b.block]? = some (.cells cb tb (0, 0))) :
    Calls Tryd.prog 5 #[.iface 66 (.pointer (some a)), .iface 66 (.pointer (some b))] w fun e w' => e = .returned (.bool false) ∧ w' = w := is_of _ b false w _ (is0_other a b ca cb ta tb w hne ha hb)
end Go.Proofs.YtpecghojagifmaaDoor
