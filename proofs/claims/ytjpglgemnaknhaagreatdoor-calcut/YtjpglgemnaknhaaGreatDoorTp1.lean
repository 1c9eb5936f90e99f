/-
  An instant's text read: ParseInstant.
-/
import Derived.Test.YtjpglgemnaknhaaGreatDoorTz1
import Derived.Test.YtjpglgemnaknhaaGreatDoorPd
import Derived.Test.YtjpglgemnaknhaaGreatDoorIns
namespace Go.Proofs.YtjpglgemnaknhaaGreatDoor
open Go.RowKit
set_option maxRecDepth 100000

theorem run_toI (t : ByteArray) (j : Nat) (z : Int) (hz : z = (j : Int)) (hj : j ≤ t.size) (w : World) :
    (Instr.slice 9 (.string t) none (some (.int .i64 z)) none).run Tryz.prog w = .ok (.string (t.extract 0 j)) w := by
  subst hz
  simp [Instr.slice, Instr.sliceBounds, Instr.sliceBound, asIntOf, run_underlying Tryz.underlying9, go_sem, hj]
theorem run_fromI (t : ByteArray) (i : Nat) (z : Int) (hz : z = (i : Int)) (hi : i ≤ t.size) (w : World) :
    (Instr.slice 9 (.string t) (some (.int .i64 z)) none none).run Tryz.prog w = .ok (.string (t.extract i t.size)) w := by
  subst hz
  simp [Instr.slice, Instr.sliceBounds, Instr.sliceBound, asIntOf, run_underlying Tryz.underlying9, go_sem, hi]
set_option maxHeartbeats 1000000 in
theorem cutL_yes (t : ByteArray) (c : UInt8) (i : Nat) (hi : i < t.size) (hs : t.size ≤ 64) (hx : Lib.indexByte t.data.toList c = (i : Int)) (w : World) :
    Calls Tryz.prog 51 #[.string t, .string ⟨#[c]⟩] w fun e w' => e = .returned (.tuple #[.string (t.extract 0 i), .string (t.extract (i + 1) t.size), .bool true]) ∧ Below w.heap.size w w' := by
  have HI := hid (fun w => Tryz.stringslite_Index_one t c w)
  rw [hx] at HI
  have q1 := fun w => run_toI t i (i : Int) rfl (by omega) w
  have q2 := fun w => run_fromI t (i + 1) ((i : Int) + 1) (by omega) (by omega) w
  have hge : 0 ≤ (i : Int) := by omega
  clear hx
  go_enter Tryz.func51, Tryz.ntmps51
  go_wp2_with fail
  refine (HI.out _).mono ?_
  rintro e w1 ⟨rfl, rfl⟩
  go_wp2_with fail
  go_quiet (fail)
  have HB := hid (below_drewN (Below.refl w1.heap.size w1) nq)
  go_wp2
  go_ret3
  exact ⟨rfl, HB.out⟩
theorem cut_yes (t : ByteArray) (c : UInt8) (i : Nat) (hi : i < t.size) (hs : t.size ≤ 64) (hx : Lib.indexByte t.data.toList c = (i : Int)) (w : World) :
    Calls Tryz.prog 23 #[.string t, .string ⟨#[c]⟩] w fun e w' => e = .returned (.tuple #[.string (t.extract 0 i), .string (t.extract (i + 1) t.size), .bool true]) ∧ Below w.heap.size w w' := by
  have HI := hid (fun w => cutL_yes t c i hi hs hx w)
  clear hx
  go_enter Tryz.func23, Tryz.ntmps23
  go_wp2_with fail
  refine (HI.out _).mono ?_
  rintro e w1 ⟨rfl, hb⟩
  have HB := hid hb
  clear hb
  go_wp2
  go_ret3
  exact ⟨rfl, HB.out⟩
/-- how an instant's text comes apart -/
structure Cuts (t D R : ByteArray) (x : Bool) (iz : Nat) : Prop where
  ht : t.size ≤ 64
  hD : D.size ≤ 64
  cut : ∀ w, Calls Tryz.prog 23 #[.string t, .string ⟨#[84]⟩] w fun e w' => e = .returned (.tuple #[.string D, .string R, .bool true]) ∧ Below w.heap.size w w'
  ext : decide (0 ≤ Lib.indexByte D.data.toList 45) = x
  any : ∀ w, Calls Tryz.prog 25 #[.string R, .string ⟨#[90, 43, 45]⟩] w fun e w' => e = .returned (.int .i64 (iz : Int)) ∧ Below w.heap.size w w'
  inz : iz ≤ R.size
def Reads3 (f : Nat) (args : Array Value) (v : Value) : Prop := ∀ w, Calls Tryz.prog f args w fun e w' => e = .returned v ∧ Below w.heap.size w w'
set_option maxHeartbeats 2000000 in
theorem parseInstant_time (t D R : ByteArray) (x : Bool) (iz : Nat) (hC : Cuts t D R x iz) (y m d : Int) (hp : ∀ w, HasAh w → Calls Tryz.prog 7 #[.string D] w fun e w' => e = .returned (rT y m d 0 0) ∧ Below w.heap.size w w')
    (c et : Int) (pt : Nat) (hpt : pt ≤ 64) (he : et ≠ 0) (hT : Reads3 26 #[.string (R.extract 0 iz), .bool x] (tup (c, et, (pt : Int)))) (w : World) (hA : HasAh w) :
    Calls Tryz.prog 9 #[.string t] w fun e w' => e = .returned (tup (0, et, (D.size : Int) + 1 + (pt : Int))) ∧ Below w.heap.size w w' := by
  have h64 : ¬ (64 : Int) < (t.size : Int) := by have := hC.ht; omega
  have hd64 := hC.hD
  have C1 := hid hC.cut
  have C2 := hid hC.any
  have C3 := hid (fun w => Tryz.strings_Contains_one D 45 w)
  rw [hC.ext] at C3
  have hq := hC.inz
  have q1 := fun w => run_toI R iz (iz : Int) rfl hC.inz w
  have P := hid hp
  have HT := hid hT
  unfold Reads3 at HT
  unfold rT dV at P
  unfold tup at HT ⊢
  have A0 := hid hA
  have hge : 0 ≤ (iz : Int) := by omega
  clear hC hp hT hA
  go_enter Tryz.func9, Tryz.ntmps9
  go_wp2_with fail
  refine (C1.out _).mono ?_
  rintro e w1 ⟨rfl, hb1⟩
  have A1 := hid (A0.out.below hb1)
  have B1 := hid hb1
  clear hb1 C1
  go_wp2_with fail
  refine (P.out _ A1.out).mono ?_
  rintro e w2 ⟨rfl, hb2⟩
  have B2 := hid ((B1.out.trans (hb2.mono B1.out.size)).alloc (Nat.le_trans B1.out.size hb2.size) (.cells #[.int .i64 y, .int .i64 m, .int .i64 d] 28))
  clear hb2 P A1
  go_wp2_with fail
  refine (C3.out _).mono ?_
  rintro e w3 ⟨rfl, rfl⟩
  go_wp2_with fail
  refine (C2.out _).mono ?_
  rintro e w4 ⟨rfl, hb4⟩
  have B4 := hid (B2.out.trans (hb4.mono B2.out.size))
  clear hb4 C2 C3
  go_wp2_with fail
  refine (HT.out _).mono ?_
  rintro e w5 ⟨rfl, hb5⟩
  have B5 := hid (B4.out.trans (hb5.mono B4.out.size))
  clear hb5 HT
  go_wp2
  go_ret3
  exact ⟨rfl, B5.out⟩
end Go.Proofs.YtjpglgemnaknhaaGreatDoor
