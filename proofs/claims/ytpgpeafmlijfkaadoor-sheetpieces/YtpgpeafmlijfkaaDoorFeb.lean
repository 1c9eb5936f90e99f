/-
  A Fault's text of its three parts.
-/
import Derived.Test.YtpgpeafmlijfkaaDoorFia
import Derived.Deep.RegionHeld3
import Derived.Deep.DeepCutAuto
namespace Go.Proofs.YtpgpeafmlijfkaaDoor
open Go.RowKit
set_option maxRecDepth 100000
set_option linter.unusedVariables false
/-- a Fault's text of its three parts -/
def fJn (q1 q2 s : ByteArray) : ByteArray := ((((⟨#[108, 105, 110, 101, 32]⟩ ++ q1) ++ ⟨#[32, 99, 111, 108, 117, 109, 110, 32]⟩) ++ q2) ++ ⟨#[58, 32]⟩) ++ s
set_option maxHeartbeats 4000000 in
theorem ferror_tab (a : Addr) (f x y : Nat) (q1 q2 q3 : ByteArray) (w : World) (z1 : q1.size ≤ 21) (z2 : q2.size ≤ 21) (z3 : q3.size ≤ 60)
    (hx : ∀ wx, LtB w wx → Calls Tryd.prog 65 #[.int .i64 (x : Int)] wx fun e w' => e = .returned (.string q1) ∧ Below wx.heap.size wx w')
    (hy : ∀ wx, LtB w wx → Calls Tryd.prog 65 #[.int .i64 (y : Int)] wx fun e w' => e = .returned (.string q2) ∧ Below wx.heap.size wx w')
    (h : w.heap[f]? = some (.cells #[.int .i64 (x : Int), .int .i64 (y : Int), .iface 99 (.pointer (some a))] 51 (0, 0))) (hA : w.cell? a = some (.string q3)) :
    Calls Tryd.prog 63 #[.pointer (some ⟨f, 0, none⟩)] w fun e w' => e = .returned (.string (fJn q1 q2 q3)) ∧ Below w.heap.size w w' := by
  have hfl : f < w.heap.size := (Array.getElem?_eq_some_iff.1 h).1
  have KK := hid (fun wx (hx : LtB w wx) => show wx.cell? ⟨f, 0, none⟩ = some (.int .i64 (x : Int)) ∧ wx.cell? ⟨f, 1, none⟩ = some (.int .i64 (y : Int)) ∧ wx.cell? ⟨f, 2, none⟩ = some (.iface 99 (.pointer (some a))) from by
    have h' := (Below.block hx f hfl).trans h
    exact ⟨Lib.cell_of_heap h' 0, Lib.cell_of_heap h' 1, Lib.cell_of_heap h' 2⟩)
  have CX := hid hx
  have CY := hid hy
  have CT := hid (fun wx (hb : LtB w wx) => textOf_any a q3 wx ((Below.cell hb (World.block_lt_of_cell? _ _ hA)).trans hA))
  unfold fJn
  obtain ⟨c0, c1, c2⟩ := KK.out w (Below.refl _ _)
  obtain ⟨d0, d1, d2⟩ := KK.out w.drew (Below.refl _ _).drew
  have K0 : LtB w w := Below.refl _ _
  have K1 : LtB w w.drew := (Below.refl _ _).drew
  have j1 : ¬ 9223372036854775807 < 5 + q1.size := by omega
  have j2 : ¬ 9223372036854775807 < 5 + q1.size + 8 := by omega
  have j3 : ¬ 9223372036854775807 < 5 + q1.size + 8 + q2.size := by omega
  have j4 : ¬ 9223372036854775807 < 5 + q1.size + 8 + q2.size + 2 := by omega
  have j5 : ¬ 9223372036854775807 < 5 + q1.size + 8 + q2.size + 2 + q3.size := by omega
  clear h hA hx hy z1 z2 z3
  go_enter Tryd.func63, Tryd.ntmps63
  go_wp2_with fail
  go_region_held3 (fun wx => wx.cell? ⟨f, 0, none⟩ = some (.int .i64 (x : Int)) ∧ wx.cell? ⟨f, 1, none⟩ = some (.int .i64 (y : Int)) ∧ wx.cell? ⟨f, 2, none⟩ = some (.iface 99 (.pointer (some a)))) (exact KK.out _ (by assumption)) (first
    | (go_at_call_of 65 (Value.int .i64 (x : Int)); refine (CX.out _ (by assumption)).mono ?_; rintro e w3 ⟨rfl, s3⟩; have K3 := LtB.step (by assumption) s3; clear s3)
    | (go_at_call_of 65 (Value.int .i64 (y : Int)); refine (CY.out _ (by assumption)).mono ?_; rintro e w4 ⟨rfl, s4⟩; have K4 := LtB.step (by assumption) s4; clear s4)
    | (go_at_call 66; refine (CT.out _ (by assumption)).mono ?_; rintro e w5 ⟨rfl, s5⟩; replace s5 := s5.symm; subst s5))
  all_goals
    go_wp2
    go_ret
    exact ⟨rfl, by assumption⟩
end Go.Proofs.YtpgpeafmlijfkaaDoor
