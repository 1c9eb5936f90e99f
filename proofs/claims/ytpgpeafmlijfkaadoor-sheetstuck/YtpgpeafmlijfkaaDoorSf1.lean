/-
  Sheets: errors.Is of a Fault.
-/
import Derived.Test.YtpgpeafmlijfkaaDoorSq4
import Derived.LaidEql
import Derived.Stop.Asserts
import Derived.RowKitTokens
namespace Go.Proofs.YtpgpeafmlijfkaaDoor
open Go.RowKit Go.Extern.Stop Go.Stop Go.Extern
set_option maxRecDepth 100000
set_option linter.unusedVariables false
set_option linter.unusedSimpArgs false

theorem isTypeOf (v : Value) (w : World) : (callFunc 17 #[.iface 99 v]).run Tryd.prog w = .ok (.value (.iface 67 (.agg #[.pointer (some ⟨24, 99, none⟩)]))) w := by kernel_rfl
theorem isComparable (w : World) : (callFunc 82 #[.agg #[.pointer (some ⟨24, 99, none⟩)]]).run Tryd.prog w = .ok (.value (.bool true)) w := by kernel_rfl
theorem isComp : (Tryd.prog.info? 99).map (·.comparable) = some true := by kernel_rfl
theorem isSize : (Tryd.prog.info? 137).map (·.size) = some 1 := by kernel_rfl
theorem noIsE (v : Value) (xT : TypeId) (w : World) : (Instr.typeAssert (.iface 99 v) xT 69 true).run Tryd.prog w = .ok (.tuple #[.nilIface, .bool false]) w := run_typeAssert_lacksB Tryd.underlying69 (by kernel_rfl) (by kernel_rfl) v xT w
theorem noUnwrapE (v : Value) (xT : TypeId) (w : World) : (Instr.typeAssert (.iface 99 v) xT 72 true).run Tryd.prog w = .ok (.tuple #[.nilIface, .bool false]) w := run_typeAssert_lacksB Tryd.underlying72 (by kernel_rfl) (by kernel_rfl) v xT w
theorem noUnwrapsE (v : Value) (xT : TypeId) (w : World) : (Instr.typeAssert (.iface 99 v) xT 74 true).run Tryd.prog w = .ok (.tuple #[.nilIface, .bool false]) w := run_typeAssert_lacksB Tryd.underlying74 (by kernel_rfl) (by kernel_rfl) v xT w
theorem noIsF (v : Value) (xT : TypeId) (w : World) : (Instr.typeAssert (.iface 54 v) xT 69 true).run Tryd.prog w = .ok (.tuple #[.nilIface, .bool false]) w := run_typeAssert_lacksB Tryd.underlying69 (by kernel_rfl) (by kernel_rfl) v xT w
theorem hasUnwrapF (v : Value) (xT : TypeId) (w : World) : (Instr.typeAssert (.iface 54 v) xT 72 true).run Tryd.prog w = .ok (.tuple #[.iface 54 v, .bool true]) w := run_typeAssert_hasB Tryd.underlying72 (by kernel_rfl) v xT w
theorem faultVs (vx vy : Value) (w : World) : (binOp .eql 27 (.iface 54 vx) (.iface 99 vy)).run Tryd.prog w = .ok (.bool false) w := run_eql_iface_types _ _ vx vy Tryd.underlying27 (by decide) w

set_option maxHeartbeats 1000000 in
theorem unwrap_any (f : Nat) (x y : Value) (t : TypeId) (v : Value) (w : World) (h : w.heap[f]? = some (.cells #[x, y, .iface t v] 51 (0, 0))) :
    Calls Tryd.prog 64 #[.pointer (some ⟨f, 0, none⟩)] w fun e w' => e = .returned (.iface t v) ∧ w' = w := by
  have c2 : w.cell? ⟨f, 2, none⟩ = some (.iface t v) := by rw [Lib.cell_of_heap h]; rfl
  clear h
  go_enter Tryd.func64, Tryd.ntmps64
  go_wp2
  go_ret
  exact ⟨rfl, rfl⟩

set_option maxHeartbeats 2000000 in
theorem is0_fault_same (f : Nat) (a : Addr) (x y : Value) (w : World) (h : w.heap[f]? = some (.cells #[x, y, .iface 99 (.pointer (some a))] 51 (0, 0))) :
    Calls Tryd.prog 18 #[.iface 54 (.pointer (some ⟨f, 0, none⟩)), .iface 99 (.pointer (some a)), .bool true] w fun e w' => e = .returned (.bool true) ∧ w' = w := by
  obtain ⟨i, hi, hcmp⟩ := Option.map_eq_some_iff.1 isComp
  obtain ⟨j, hj, hjs⟩ := Option.map_eq_some_iff.1 isSize
  have heq := run_eql_iface_ptr_same (P := Tryd.prog) w a Tryd.underlying27 Tryd.underlying99 hi hcmp hj
  have nF := noIsF
  have uF := hasUnwrapF
  have qF := faultVs
  have HU := hid (unwrap_any f x y _ _ w h)
  clear h
  go_enter Tryd.func18, Tryd.ntmps18
  go_wp2
  refine wp_loop_rounds 2 ?_
  rw [rounds_succ]
  go_wp2_with fail
  refine Calls.mono HU.out ?_
  rintro e w1 ⟨rfl, hw⟩
  replace hw := hw.symm
  subst hw
  go_wp2
  rw [rounds_succ]
  go_wp2
  go_ret
  exact ⟨rfl, rfl⟩
set_option maxHeartbeats 2000000 in
theorem is0_fault_other (f : Nat) (a b : Addr) (x y : Value) (ca cb : Array Value) (ta tb : TypeId) (w : World) (h : w.heap[f]? = some (.cells #[x, y, .iface 99 (.pointer (some a))] 51 (0, 0))) (hne : a ≠ b) (ha : w.heap[a.block]? = some (.cells ca ta (0, 0))) (hb : w.heap[b.block]? = some (.cells cb tb (0, 0))) :
    Calls Tryd.prog 18 #[.iface 54 (.pointer (some ⟨f, 0, none⟩)), .iface 99 (.pointer (some b)), .bool true] w fun e w' => e = .returned (.bool false) ∧ w' = w := by
  obtain ⟨i, hi, hcmp⟩ := Option.map_eq_some_iff.1 isComp
  obtain ⟨j, hj, hjs⟩ := Option.map_eq_some_iff.1 isSize
  have heq := run_eql_iface_ptr_other (P := Tryd.prog) w Tryd.underlying27 Tryd.underlying99 hi hcmp hj (by rw [hjs]; decide) hne ha hb
  have nF := noIsF
  have uF := hasUnwrapF
  have qF := faultVs
  have nE := noIsE
  have uE := noUnwrapE
  have vE := noUnwrapsE
  have HU := hid (unwrap_any f x y _ _ w h)
  clear h ha hb
  go_enter Tryd.func18, Tryd.ntmps18
  go_wp2
  refine wp_loop_rounds 2 ?_
  rw [rounds_succ]
  go_wp2_with fail
  refine Calls.mono HU.out ?_
  rintro e w1 ⟨rfl, hw⟩
  replace hw := hw.symm
  subst hw
  go_wp2
  rw [rounds_succ]
  go_wp2
  go_ret
  exact ⟨rfl, rfl⟩
set_option maxHeartbeats 1000000 in
theorem is_of (x : Value) (p : Addr) (r : Bool) (w : World) (tx : TypeId)
    (h : Calls Tryd.prog 18 #[.iface tx x, .iface 99 (.pointer (some p)), .bool true] w fun e w' => e = .returned (.bool r) ∧ w' = w) :
    Calls Tryd.prog 7 #[.iface tx x, .iface 99 (.pointer (some p))] w fun e w' => e = .returned (.bool r) ∧ w' = w := by
  have tT := isTypeOf
  have cT := isComparable
  have H := hid h
  clear h
  go_enter Tryd.func7, Tryd.ntmps7
  go_wp2_with fail
  refine H.out.mono ?_
  rintro e w1 ⟨rfl, rfl⟩
  go_wp2
  go_ret
  exact ⟨rfl, rfl⟩
/-- a fault of reading -/
def Cod (c : Nat) : Prop := (1 ≤ c ∧ c ≤ 9) ∨ c = 20
theorem Cod.pos {c : Nat} (h : Cod c) : c ≠ 0 := by unfold Cod at h; omega
/-- the errors lie in places of their own -/
structure Apt (A : Nat → Addr) (w : World) : Prop where
  one : ∀ c d, Cod c → Cod d → A c = A d → c = d
  lie : ∀ c, Cod c → ∃ ca ta, w.heap[(A c).block]? = some (.cells ca ta (0, 0))
/-- errors.Is of what Parse tells -/
theorem is_fault (A : Nat → Addr) (f c d : Nat) (p : Nat × Nat) (w : World) (h : w.heap[f]? = some (.cells #[.int .i64 (p.1 : Int), .int .i64 (p.2 : Int), erV A c] 51 (0, 0))) (hA : Apt A w) (hc : Cod c) (hd : Cod d) :
    Calls Tryd.prog 7 #[.iface 54 (.pointer (some ⟨f, 0, none⟩)), .iface 99 (.pointer (some (A d)))] w fun e w' => e = .returned (.bool (decide (c = d))) ∧ w' = w := by
  rw [erV_pos A hc.pos] at h
  refine is_of _ _ _ w _ ?_
  by_cases hcd : c = d
  · subst hcd
    rw [decide_eq_true rfl]
    exact is0_fault_same f (A c) _ _ w h
  · rw [decide_eq_false hcd]
    obtain ⟨ca, ta, ha⟩ := hA.lie c hc
    obtain ⟨cb, tb, hb⟩ := hA.lie d hd
    exact is0_fault_other f (A c) (A d) _ _ ca cb ta tb w h (fun e => hcd (hA.one c d hc hd e)) ha hb
end Go.Proofs.YtpgpeafmlijfkaaDoor
