/-
  Wy2: Sheets: the text of a Why, and of a Fault with a Why inside.
-/
import Derived.Test.YtmgfdnccmeahjaaGreatDoorZSdg
import Derived.Test.YtmgfdnccmeahjaaGreatDoorZWy1
namespace Go.Proofs.YtmgfdnccmeahjaaGreatDoor
open Go.RowKit
set_option maxRecDepth 100000
set_option linter.unusedVariables false
set_option linter.unusedSimpArgs false

/-- a Why's text -/
def wTx (c n : Nat) : ByteArray := (erT c ++ ⟨#[32]⟩) ++ dcT n
theorem wTx_size (c n : Nat) (hc : 1 ≤ c ∧ c ≤ 20) (hn : n ≤ 9223372036854775807) : (wTx c n).size ≤ 90 := by
  have z1 := dcT_size n hn
  have z3 := erT_size ⟨c, by omega⟩
  simp only at z3
  unfold wTx
  rw [ByteArray.size_append, ByteArray.size_append]
  have : (⟨#[32]⟩ : ByteArray).size = 1 := rfl
  omega
set_option maxHeartbeats 4000000 in
theorem whyErr_any (A : Nat → Addr) (g c n : Nat) (w : World) (hn : n ≤ 9223372036854775807) (hP : HasPw w) (h : w.heap[g]? = some (.cells #[.iface 312 (.pointer (some (A c))), .int .i64 (n : Int)] 58 (0, 0))) (hA : Sn A w) (hc : 1 ≤ c ∧ c ≤ 20) :
    Calls Tryz.prog 62 #[.pointer (some ⟨g, 0, none⟩)] w fun e w' => e = .returned (.string (wTx c n)) ∧ Below w.heap.size w w' := by
  have hfl : g < w.heap.size := (Array.getElem?_eq_some_iff.1 h).1
  have KK := hid (fun wx (hx : LtB w wx) => show wx.cell? ⟨g, 0, none⟩ = some (.iface 312 (.pointer (some (A c)))) ∧ wx.cell? ⟨g, 1, none⟩ = some (.int .i64 (n : Int)) from by
    have h' := (Below.block hx g hfl).trans h
    exact ⟨Lib.cell_of_heap h' 0, Lib.cell_of_heap h' 1⟩)
  have CX := hid (fun wx (hb : LtB w wx) => itoa_any n wx hn (hP.below hb))
  have CT := hid (fun wx (hb : LtB w wx) => textOf_any (A c) (erT c) wx ((hA.below hb).text hc))
  have z1 := dcT_size n hn
  have z3 := erT_size ⟨c, by omega⟩
  simp only at z3
  unfold wTx
  obtain ⟨c0, c1⟩ := KK.out w (Below.refl _ _)
  obtain ⟨d0, d1⟩ := KK.out w.drew (Below.refl _ _).drew
  have K0 : LtB w w := Below.refl _ _
  have K1 : LtB w w.drew := (Below.refl _ _).drew
  generalize dcT n = q1 at *
  generalize erT c = q3 at *
  generalize A c = a at *
  have j1 : ¬ 9223372036854775807 < q3.size + 1 := by omega
  have j2 : ¬ 9223372036854775807 < q3.size + 1 + q1.size := by omega
  clear h hA hP z1 z3
  go_enter Tryz.func62, Tryz.ntmps62
  go_wp2_with fail
  go_region_held3 (fun wx => wx.cell? ⟨g, 0, none⟩ = some (.iface 312 (.pointer (some a))) ∧ wx.cell? ⟨g, 1, none⟩ = some (.int .i64 (n : Int))) (exact KK.out _ (by assumption)) (first
    | (go_at_call 102; refine (CX.out _ (by assumption)).mono ?_; rintro e w3 ⟨rfl, s3⟩; have K3 := LtB.step (by assumption) s3; clear s3)
    | (go_at_call 103; refine (CT.out _ (by assumption)).mono ?_; rintro e w5 ⟨rfl, s5⟩; replace s5 := s5.symm; subst s5))
  all_goals
    go_wp2
    go_ret
    exact ⟨rfl, by assumption⟩
set_option maxHeartbeats 1000000 in
theorem textOfW_any (A : Nat → Addr) (g c n : Nat) (w : World) (hn : n ≤ 9223372036854775807) (hP : HasPw w) (h : w.heap[g]? = some (.cells #[.iface 312 (.pointer (some (A c))), .int .i64 (n : Int)] 58 (0, 0))) (hA : Sn A w) (hc : 1 ≤ c ∧ c ≤ 20) :
    Calls Tryz.prog 103 #[.iface 54 (.pointer (some ⟨g, 0, none⟩))] w fun e w' => e = .returned (.string (wTx c n)) ∧ Below w.heap.size w w' := by
  have HE := hid (whyErr_any A g c n w hn hP h hA hc)
  generalize wTx c n = s at *
  clear h hP hA
  go_enter Tryz.func103, Tryz.ntmps103
  go_wp2_with fail
  refine Calls.mono HE.out ?_
  rintro e w' ⟨rfl, hw⟩
  have HW := hid hw
  clear hw
  go_wp2
  go_ret
  exact ⟨rfl, HW.out⟩
set_option maxHeartbeats 4000000 in
theorem ferrorw_any (A : Nat → Addr) (f g c x y n : Nat) (w : World) (hx : x ≤ 9223372036854775807) (hy : y ≤ 9223372036854775807) (hn : n ≤ 9223372036854775807) (hP : HasPw w) (h : FYw A f g c (.int .i64 (x : Int)) (.int .i64 (y : Int)) (.int .i64 (n : Int)) w) (hA : Sn A w) (hc : 1 ≤ c ∧ c ≤ 20) :
    Calls Tryz.prog 59 #[.pointer (some ⟨f, 0, none⟩)] w fun e w' => e = .returned (.string (fTx x y (wTx c n))) ∧ Below w.heap.size w w' := by
  have hfl : f < w.heap.size := (Array.getElem?_eq_some_iff.1 h.1).1
  have KK := hid (fun wx (hx : LtB w wx) => show wx.cell? ⟨f, 0, none⟩ = some (.int .i64 (x : Int)) ∧ wx.cell? ⟨f, 1, none⟩ = some (.int .i64 (y : Int)) ∧ wx.cell? ⟨f, 2, none⟩ = some (.iface 54 (.pointer (some ⟨g, 0, none⟩))) from by
    have h' := (Below.block hx f hfl).trans h.1
    exact ⟨Lib.cell_of_heap h' 0, Lib.cell_of_heap h' 1, Lib.cell_of_heap h' 2⟩)
  have CX := hid (fun wx (hb : LtB w wx) => itoa_any x wx hx (hP.below hb))
  have CY := hid (fun wx (hb : LtB w wx) => itoa_any y wx hy (hP.below hb))
  have CT := hid (fun wx (hb : LtB w wx) => textOfW_any A g c n wx hn (hP.below hb) (h.below hb).2 (hA.below hb) hc)
  have z1 := dcT_size x hx
  have z2 := dcT_size y hy
  have z3 := wTx_size c n hc hn
  unfold fTx
  obtain ⟨c0, c1, c2⟩ := KK.out w (Below.refl _ _)
  obtain ⟨d0, d1, d2⟩ := KK.out w.drew (Below.refl _ _).drew
  have K0 : LtB w w := Below.refl _ _
  have K1 : LtB w w.drew := (Below.refl _ _).drew
  generalize dcT x = q1 at *
  generalize dcT y = q2 at *
  generalize wTx c n = q3 at *
  have j1 : ¬ 9223372036854775807 < 5 + q1.size := by omega
  have j2 : ¬ 9223372036854775807 < 5 + q1.size + 8 := by omega
  have j3 : ¬ 9223372036854775807 < 5 + q1.size + 8 + q2.size := by omega
  have j4 : ¬ 9223372036854775807 < 5 + q1.size + 8 + q2.size + 2 := by omega
  have j5 : ¬ 9223372036854775807 < 5 + q1.size + 8 + q2.size + 2 + q3.size := by omega
  clear h hA hP z1 z2 z3
  go_enter Tryz.func59, Tryz.ntmps59
  go_wp2_with fail
  go_region_held3 (fun wx => wx.cell? ⟨f, 0, none⟩ = some (.int .i64 (x : Int)) ∧ wx.cell? ⟨f, 1, none⟩ = some (.int .i64 (y : Int)) ∧ wx.cell? ⟨f, 2, none⟩ = some (.iface 54 (.pointer (some ⟨g, 0, none⟩)))) (exact KK.out _ (by assumption)) (first
    | (go_at_call_of 102 (Value.int .i64 (x : Int)); refine (CX.out _ (by assumption)).mono ?_; rintro e w3 ⟨rfl, s3⟩; have K3 := LtB.step (by assumption) s3; clear s3)
    | (go_at_call_of 102 (Value.int .i64 (y : Int)); refine (CY.out _ (by assumption)).mono ?_; rintro e w4 ⟨rfl, s4⟩; have K4 := LtB.step (by assumption) s4; clear s4)
    | (go_at_call 103; refine (CT.out _ (by assumption)).mono ?_; rintro e w5 ⟨rfl, s5⟩; have K5 := LtB.step (by assumption) s5; clear s5))
  all_goals
    go_wp2
    go_ret
    exact ⟨rfl, by assumption⟩
end Go.Proofs.YtmgfdnccmeahjaaGreatDoor
