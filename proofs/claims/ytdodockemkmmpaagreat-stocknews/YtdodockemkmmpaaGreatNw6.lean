/-
  stock: Sound of a new ledger's state; a new wheel; copies of levels.
-/
import Derived.Test.YtdodockemkmmpaaGreatNw5
namespace Go.Proofs.YtdodockemkmmpaaGreat
open Go.RowKit
set_option maxRecDepth 100000

set_option maxHeartbeats 2000000 in
theorem sound0_any (room : Int) (L : List Lv) (v : Value) (w : World) (h : RLv w v L) (hL : LOk L) (hr : 0 ≤ room ∧ room ≤ 131072) (hx : ((64 + xv L : Nat) : Int) ≤ room) :
    Calls Tryz.prog 40 #[s0V room v] w fun e w' => e = .returned (.bool true) ∧ Below w.heap.size w w' := by
  obtain ⟨a1, p1, hv⟩ := h.form
  unfold s0V
  obtain ⟨W, hW, hS, bW, zW⟩ := sb_new w room v
  have HS := hid hS
  have BW := hid bW
  have C1 := hid (fun wx (hb : Below W.heap.size W wx) => soundNumbers0_any room L v wx (h.below (bW.trans (hb.mono (by omega)))) hr hx)
  have C2 := hid (fun wx (hb : Below W.heap.size W wx) => soundLevels0_any L v wx (h.below (bW.trans (hb.mono (by omega)))) hL)
  have C3 := hid (fun wx (hb : Below W.heap.size W wx) => soundHolds0_any room L v wx (h.below (bW.trans (hb.mono (by omega)))) hL)
  have C4 := hid (fun wx => soundDone0_any room v ⟨a1, _, p1, hv⟩ wx)
  unfold s0V at C1 C3 C4
  obtain ⟨c0, c1, c2, c3, c4, c5⟩ := hS.cells
  subst hv
  have ZW := hid zW
  have HW := hid hW
  clear h hS bW zW hL hr hx
  go_enter Tryz.func40, Tryz.ntmps40
  go_wp2_with fail
  try rw [HW.out]
  refine (C1.out W (Below.refl _ _)).mono ?_
  rintro e w1 ⟨rfl, hb1⟩
  obtain ⟨d0, d1, d2, d3, d4, d5⟩ := (HS.out.later hb1).cells
  have B1 := hid hb1
  clear c0 c1 c2 c3 c4 c5 hb1 C1 hW
  go_wp2_with fail
  refine (C2.out w1 B1.out).mono ?_
  rintro e w2 ⟨rfl, hb2⟩
  have B2 := hid (bel_step B1.out hb2)
  obtain ⟨e0, e1, e2, e3, e4, e5⟩ := (HS.out.later B2.out).cells
  clear d0 d1 d2 d3 d4 d5 hb2 C2
  go_wp2_with fail
  refine (C3.out w2 B2.out).mono ?_
  rintro e w3 ⟨rfl, hb3⟩
  have B3 := hid (bel_step B2.out hb3)
  obtain ⟨d0, d1, d2, d3, d4, d5⟩ := (HS.out.later B3.out).cells
  clear e0 e1 e2 e3 e4 e5 hb3 C3
  go_wp2_with fail
  refine (C4.out w3).mono ?_
  rintro e w4 ⟨rfl, hb4⟩
  have B4 := hid (BW.out.trans ((bel_step B3.out hb4).mono (by have := ZW.out; omega)))
  clear d0 d1 d2 d3 d4 d5 hb4 C4
  go_wp2_with fail
  go_ret
  exact ⟨rfl, B4.out⟩
/-- a wheel's cells: the time, the slots, the map -/
def whR (now : Int) (R : List Value) (m : Value) : Array Value := (.int .i64 now :: (R ++ [m])).toArray
def noR : List Value := List.replicate 448 (.pointer none)
theorem isTime0 (w : World) : Calls Tryz.prog 67 #[.int .i64 0] w fun e w' => e = .returned (.bool true) ∧ w' = w := by
  go_enter Tryz.func67, Tryz.ntmps67
  go_wp2
  go_ret
  exact ⟨rfl, rfl⟩
theorem new_zero (w : World) : Calls Tryz.prog 41 #[.int .i64 0] w fun e w' => e = .returned (.tuple #[.pointer (some ⟨w.heap.size, 0, none⟩), .int .i64 0]) ∧ w' = w.alloc (.cells (whR 0 noR (.map none)) 99) := by
  have hb : ∀ w : World, (Instr.build 99 #[(0, .int .i64 0)]).run Tryz.prog w = .ok (.agg (whR 0 noR (.map none))) w := fun w => by kernel_rfl
  go_enter Tryz.func41, Tryz.ntmps41
  go_wp2_with fail
  refine Calls.mono (isTime0 _) ?_
  rintro e w1 ⟨rfl, rfl⟩
  go_wp2
  go_ret2
  exact ⟨rfl, rfl⟩
end Go.Proofs.YtdodockemkmmpaaGreat
