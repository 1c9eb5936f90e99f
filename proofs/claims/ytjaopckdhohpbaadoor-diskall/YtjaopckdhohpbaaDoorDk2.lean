/-
  A sector of an image; an operation laid over it.
-/
import Derived.Test.YtjaopckdhohpbaaDoorDk1
import Derived.Laws.CopyOwn
import Derived.Deep.RegionLaw
import Derived.Deep.RegionHeld3
import Derived.Deep.QuietTactic
import Derived.BigQuiet
import Derived.WalkSmall
namespace Go.Proofs.YtjaopckdhohpbaaDoor
open Go.RowKit
set_option maxRecDepth 100000

/-- the variable flush lies there -/
def HasFl (w : World) : Prop := ∃ t fr, w.heap[(0 : Nat)]? = some (.cells (opc flO).toArray t fr)
theorem HasFl.below {w w' : World} (h : HasFl w) (hb : Below w.heap.size w w') : HasFl w' := by
  obtain ⟨t, fr, hh⟩ := h
  exact ⟨t, fr, (hb.block _ (Array.getElem?_eq_some_iff.1 hh).1).trans hh⟩
theorem op_info : (Tryd.prog.info? 75).map (·.size) = some 129 := by kernel_rfl
theorem op_row : ∃ d, Tryd.prog.underlying 75 = some d ∧ d.isRow = true := ⟨_, Tryd.underlying75, rfl⟩
theorem op_load {w : World} {p off : Nat} {o : Opn} (h : w.rangeAt p off (opc o)) (hl : o.2.length = 128) : (Instr.loadAt 75 (.pointer (some ⟨p, off, none⟩))).run Tryd.prog w = .ok (.agg (opc o).toArray) w := by
  obtain ⟨d, hd, hr⟩ := op_row
  exact run_loadAt_mid w p off _ (opc o) d h hd hr (by rw [opc_len hl]; exact op_info)
theorem op_loadV {w : World} {p off : Nat} {o : Opn} (h : w.rangeAt p off (opc o)) (hl : o.2.length = 128) : (loadVar 75 ⟨p, off, none⟩).run Tryd.prog w = .ok (.agg (opc o).toArray) w := by
  obtain ⟨d, hd, hr⟩ := op_row
  exact run_loadVar_mid w p off _ (opc o) d h hd hr (by rw [opc_len hl]; exact op_info)
theorem fl_range {w : World} (h : HasFl w) : w.rangeAt (0 : Nat) 0 (opc flO) := by
  obtain ⟨t, fr, hh⟩ := h
  intro j v hv
  rw [cell_of_row w _ _ _ t fr hh]
  simpa using hv
theorem sector_any (s off n N cap : Nat) (w : World) (h : (n + 1) * 128 ≤ cap) (hc : cap ≤ 9223372036854775807) :
    Calls Tryd.prog 37 #[.slice (some ⟨s, off, none⟩) N cap, .int .i64 (n : Int)] w fun e w' => e = .returned (.slice (some ⟨s, off + n * 128, none⟩) 128 128) ∧ w' = w := by
  have e : (n + 1) * 128 - n * 128 = 128 := by omega
  go_enter Tryd.func37, Tryd.ntmps37
  go_wp2
  go_ret
  refine ⟨?_, rfl⟩
  show Ending.returned (.slice (some ⟨s, off + n * 128, none⟩) ((n + 1) * 128 - n * 128) ((n + 1) * 128 - n * 128)) = _
  rw [e]

theorem cell_drewN (w : World) (n : Nat) (p : Addr) : (w.drewN n).cell? p = w.cell? p := by
  induction n generalizing w with
  | zero => rfl
  | succ n ih => exact ih _
theorem range_drewN {w : World} {p off : Nat} {cs : List Value} (h : w.rangeAt p off cs) (n : Nat) : (w.drewN n).rangeAt p off cs := fun j v hv => by rw [cell_drewN]; exact h j v hv
theorem quiet_load {P : Program} {C : World → Prop} {a : Act} {o : Oper} {K : Act → Prop} (ty : TypeId) (x : Operand) (h : o.op = .load ty x) (p : Addr) (hx : a.eval x = .pointer (some p)) (v : Value) (hl : ∀ w, C w → (Instr.loadAt ty (.pointer (some p))).run P w = .ok v w) (hk : K (a.put o.dst v)) : o.quiet P a C K :=
  ⟨v, fun w hw => by
    unfold Oper.quietAt execOp
    simp only [h, hx, Sem.run_bind, hl w hw, Result.andThen_ok, Sem.run_pure]
    exact ⟨rfl, rfl⟩, hk⟩
theorem quiet_neq {P : Program} {C : World → Prop} {a : Act} {o : Oper} {K : Act → Prop} (t : TypeId) (x y : Operand) (ty : TypeId) (h : o.op = .binOp .neq t x y ty) (xs ys : Array Value) (hx : a.eval x = .agg xs) (hy : a.eval y = .agg ys) (hm : P.eqGuardType P.depth t = false) (b : Bool) (hl : ∀ w, (Op.equalIn 10000 t (.agg xs) (.agg ys)).run P w = .ok b w) (hk : K (a.put o.dst (.bool (!b)))) : o.quiet P a C K :=
  ⟨.bool (!b), fun w hw => by
    unfold Oper.quietAt execOp
    simp only [h, hx, hy, Sem.run_bind, run_eqGuard_agg w _ _ _ _ _ _ hm, run_neq_struct, hl w, Result.andThen_ok, Sem.run_pure]
    exact ⟨rfl, rfl⟩, hk⟩
theorem op_guard : Tryd.prog.eqGuardType Tryd.prog.depth 75 = false := by kernel_rfl
set_option maxHeartbeats 4000000 in
theorem lay_flush (p off : Nat) (iv : Value) (sz : Int) (w : World) (hf : HasFl w) (hp : w.rangeAt p off (opc flO)) :
    Calls Tryd.prog 33 #[.pointer (some ⟨p, off, none⟩), iv, .int .i64 sz] w fun e w' => e = .returned (.tuple #[]) ∧ Below w.heap.size w w' := by
  have k1 : ∀ w', (∃ n, w' = w.drewN n) → (Instr.loadAt 75 (.pointer (some ⟨p, off, none⟩))).run Tryd.prog w' = .ok (.agg (opc flO).toArray) w' := fun w' ⟨n, h⟩ => by rw [h]; exact op_load (range_drewN hp n) rfl
  have k2 : ∀ w', (∃ n, w' = w.drewN n) → (Instr.loadAt 75 (.pointer (some ⟨0, 0, none⟩))).run Tryd.prog w' = .ok (.agg (opc flO).toArray) w' := fun w' ⟨n, h⟩ => by rw [h]; exact op_load (range_drewN (fl_range hf) n) rfl
  have k3 := eq_flush
  have K1 := hid k1
  have K2 := hid k2
  have K3 := hid k3
  clear k1 k2 k3 hp hf
  generalize (opc flO).toArray = FL at *
  go_enter Tryd.func33, Tryd.ntmps33
  go_wp2_with fail
  refine wp_region_quiet_lit (by kernel_rfl) (by kernel_rfl) ?_
  go_big_quiet_step (fail)
  go_big_quiet_step (fail)
  (go_big_quiet_want; refine quiet_load 75 _ rfl ⟨p, off, none⟩ rfl _ K1.out ?_; simp only [Act.put, List.setIfInBounds_toArray, List.set_cons_zero, List.set_cons_succ]; go_big_quiet_on)
  (go_big_quiet_want; refine quiet_load 75 _ rfl ⟨0, 0, none⟩ rfl _ K2.out ?_; simp only [Act.put, List.setIfInBounds_toArray, List.set_cons_zero, List.set_cons_succ]; go_big_quiet_on)
  (go_big_quiet_want; refine quiet_neq 75 _ _ _ rfl FL FL rfl rfl op_guard true K3.out ?_; simp only [Act.put, List.setIfInBounds_toArray, List.set_cons_zero, List.set_cons_succ]; go_big_quiet_on)
  refine wpQuiet_nil ?_
  intro _ hw'
  obtain ⟨nq, hw''⟩ := hw'
  subst hw''
  go_wp2
  go_end0
  exact ⟨rfl, below_drewN (Below.refl w.heap.size w) nq⟩
end Go.Proofs.YtjaopckdhohpbaaDoor
