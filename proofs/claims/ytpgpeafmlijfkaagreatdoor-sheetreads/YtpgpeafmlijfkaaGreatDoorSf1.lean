/-
  Sheets: errors.Is of a Fault.
-/
import Derived.Test.YtpgpeafmlijfkaaGreatDoorSq4
import Derived.LaidEql
import Derived.Stop.Asserts
import Derived.RowKitTokens
namespace Go.Proofs.YtpgpeafmlijfkaaGreatDoor
open Go.RowKit Go.Extern.Stop Go.Stop Go.Extern
set_option maxRecDepth 100000
set_option linter.unusedVariables false
set_option linter.unusedSimpArgs false

theorem isTypeOf (v : Value) (w : World) : (callFunc 50 #[.iface 208 v]).run Tryz.prog w = .ok (.value (.iface 140 (.agg #[.pointer (some ⟨27, 208, none⟩)]))) w := by kernel_rfl
theorem isComparable (w : World) : (callFunc 153 #[.agg #[.pointer (some ⟨27, 208, none⟩)]]).run Tryz.prog w = .ok (.value (.bool true)) w := by kernel_rfl
theorem isComp : (Tryz.prog.info? 208).map (·.comparable) = some true := by kernel_rfl
theorem isSize : (Tryz.prog.info? 226).map (·.size) = some 1 := by kernel_rfl
theorem noIsE (v : Value) (xT : TypeId) (w : World) : (Instr.typeAssert (.iface 208 v) xT 150 true).run Tryz.prog w = .ok (.tuple #[.nilIface, .bool false]) w := run_typeAssert_lacksB Tryz.underlying150 (by kernel_rfl) (by kernel_rfl) v xT w
theorem noUnwrapE (v : Value) (xT : TypeId) (w : World) : (Instr.typeAssert (.iface 208 v) xT 147 true).run Tryz.prog w = .ok (.tuple #[.nilIface, .bool false]) w := run_typeAssert_lacksB Tryz.underlying147 (by kernel_rfl) (by kernel_rfl) v xT w
theorem noUnwrapsE (v : Value) (xT : TypeId) (w : World) : (Instr.typeAssert (.iface 208 v) xT 148 true).run Tryz.prog w = .ok (.tuple #[.nilIface, .bool false]) w := run_typeAssert_lacksB Tryz.underlying148 (by kernel_rfl) (by kernel_rfl) v xT w
theorem noIsF (v : Value) (xT : TypeId) (w : World) : (Instr.typeAssert (.iface 59 v) xT 150 true).run Tryz.prog w = .ok (.tuple #[.nilIface, .bool false]) w := run_typeAssert_lacksB Tryz.underlying150 (by kernel_rfl) (by kernel_rfl) v xT w
theorem hasUnwrapF (v : Value) (xT : TypeId) (w : World) : (Instr.typeAssert (.iface 59 v) xT 147 true).run Tryz.prog w = .ok (.tuple #[.iface 59 v, .bool true]) w := run_typeAssert_hasB Tryz.underlying147 (by kernel_rfl) v xT w
theorem faultVs (vx vy : Value) (w : World) : (binOp .eql 41 (.iface 59 vx) (.iface 208 vy)).run Tryz.prog w = .ok (.bool false) w := run_eql_iface_types _ _ vx vy Tryz.underlying41 (by decide) w

set_option maxHeartbeats 1000000 in
theorem unwrap_any (f : Nat) (x y : Value) (t : TypeId) (v : Value) (w : World) (h : w.heap[f]? = some (.cells #[x, y, .iface t v] 64 (0, 0))) :
    Calls Tryz.prog 27 #[.pointer (some ⟨f, 0, none⟩)] w fun e w' => e = .returned (.iface t v) ∧ w' = w := by
  have c2 : w.cell? ⟨f, 2, none⟩ = some (.iface t v) := by rw [Lib.cell_of_heap h]; rfl
  clear h
  go_enter Tryz.func27, Tryz.ntmps27
  go_wp2
  go_ret
  exact ⟨rfl, rfl⟩

set_option maxHeartbeats 2000000 in
theorem is0_fault_same (f : Nat) (a : Addr) (x y : Value) (w : World) (h : w.heap[f]? = some (.cells #[x, y, .iface 208 (.pointer (some a))] 64 (0, 0))) :
    Calls Tryz.prog 51 #[.iface 59 (.pointer (some ⟨f, 0, none⟩)), .iface 208 (.pointer (some a)), .bool true] w fun e w' => e = .returned (.bool true) ∧ w' = w := by
  obtain ⟨i, hi, hcmp⟩ := Option.map_eq_some_iff.1 isComp
  obtain ⟨j, hj, hjs⟩ := Option.map_eq_some_iff.1 isSize
  have heq := run_eql_iface_ptr_same (P := Tryz.prog) w a Tryz.underlying41 Tryz.underlying208 hi hcmp hj
  have nF := noIsF
  have uF := hasUnwrapF
  have qF := faultVs
  have HU := hid (unwrap_any f x y _ _ w h)
  clear h
  go_enter Tryz.func51, Tryz.ntmps51
  go_wp2
  refine wp_loop_rounds 2 ?_
  rw [rounds_succ]
  go_wp2_with fail
  refine Calls.mono HU.out ?_
  rintro e w1 ⟨rfl, hw⟩
  replace hw := hw.symm
  subst hw
  go_wp2
  rw [rounds_succ]
  go_wp2
  go_ret
  exact ⟨rfl, rfl⟩
set_option maxHeartbeats 2000000 in
theorem is0_fault_other (f : Nat) (a b : Addr) (x y : Value) (ca cb : Array Value) (ta tb : TypeId) (w : World) (h : w.heap[f]? = some (.cells #[x, y, .iface 208 (.pointer (some a))] 64 (0, 0))) (hne : a ≠ b) (ha : w.heap[a.block]? = some (.cells ca ta (0, 0))) (hb : w.heap[b.block]? = some (.cells cb tb (0, 0))) :
    Calls Tryz.prog 51 #[.iface 59 (.pointer (some ⟨f, 0, none⟩)), .iface 208 (.pointer (some b)), .bool true] w fun e w' => e = .returned (.bool false) ∧ w' = w := by
  obtain ⟨i, hi, hcmp⟩ := Option.map_eq_some_iff.1 isComp
  obtain ⟨j, hj, hjs⟩ := Option.map_eq_some_iff.1 isSize
  have heq := run_eql_iface_ptr_other (P := Tryz.prog) w Tryz.underlying41 Tryz.underlying208 hi hcmp hj (by rw [hjs]; decide) hne ha hb
  have nF := noIsF
  have uF := hasUnwrapF
  have qF := faultVs
  have nE := noIsE
  have uE := noUnwrapE
  have vE := noUnwrapsE
  have HU := hid (unwrap_any f x y _ _ w h)
  clear h ha hb
  go_enter Tryz.func51, Tryz.ntmps51
  go_wp2
  refine wp_loop_rounds 2 ?_
  rw [rounds_succ]
  go_wp2_with fail
  refine Calls.mono HU.out ?_
  rintro e w1 ⟨rfl, hw⟩
  replace hw := hw.symm
  subst hw
  go_wp2
  rw [rounds_succ]
  go_wp2
  go_ret
  exact ⟨rfl, rfl⟩
set_option maxHeartbeats 1000000 in
theorem is_of (x : Value) (p : Addr) (r : Bool) (w : World) (tx : TypeId)
    (h : Calls Tryz.prog 51 #[.iface tx x, .iface 208 (.pointer (some p)), .bool true] w fun e w' => e = .returned (.bool r) ∧ w' = w) :
    Calls Tryz.prog 21 #[.iface tx x, .iface 208 (.pointer (some p))] w fun e w' => e = .returned (.bool r) ∧ w' = w := by
  have tT := isTypeOf
  have cT := isComparable
  have H := hid h
  clear h
  go_enter Tryz.func21, Tryz.ntmps21
  go_wp2_with fail
  refine H.out.mono ?_
  rintro e w1 ⟨rfl, rfl⟩
  go_wp2
  go_ret
  exact ⟨rfl, rfl⟩
/-- a fault of reading -/
def Cod (c : Nat) : Prop := (1 ≤ c ∧ c ≤ 9) ∨ c = 20
theorem Cod.pos {c : Nat} (h : Cod c) : c ≠ 0 := by unfold Cod at h; omega
/-- the errors lie in places of their own -/
structure Apt (A : Nat → Addr) (w : World) : Prop where
  one : ∀ c d, Cod c → Cod d → A c = A d → c = d
  lie : ∀ c, Cod c → ∃ ca ta, w.heap[(A c).block]? = some (.cells ca ta (0, 0))
/-- errors.Is of what Parse tells -/
theorem is_fault (A : Nat → Addr) (f c d : Nat) (p : Nat × Nat) (w : World) (h : w.heap[f]? = some (.cells #[.int .i64 (p.1 : Int), .int .i64 (p.2 : Int), erV A c] 64 (0, 0))) (hA : Apt A w) (hc : Cod c) (hd : Cod d) :
    Calls Tryz.prog 21 #[.iface 59 (.pointer (some ⟨f, 0, none⟩)), .iface 208 (.pointer (some (A d)))] w fun e w' => e = .returned (.bool (decide (c = d))) ∧ w' = w := by
  rw [erV_pos A hc.pos] at h
  refine is_of _ _ _ w _ ?_
  by_cases hcd : c = d
  · subst hcd
    rw [decide_eq_true rfl]
    exact is0_fault_same f (A c) _ _ w h
  · rw [decide_eq_false hcd]
    obtain ⟨ca, ta, ha⟩ := hA.lie c hc
    obtain ⟨cb, tb, hb⟩ := hA.lie d hd
    exact is0_fault_other f (A c) (A d) _ _ ca cb ta tb w h (fun e => hcd (hA.one c d hc hd e)) ha hb
end Go.Proofs.YtpgpeafmlijfkaaGreatDoor
