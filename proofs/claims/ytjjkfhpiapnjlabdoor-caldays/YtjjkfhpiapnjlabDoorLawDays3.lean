/-
  CalDays: the law's own walk, out of the contracts.
-/
import Derived.Test.YtjjkfhpiapnjlabDoorRof
namespace Go.Proofs.YtjjkfhpiapnjlabDoor
open Go.RowKit
set_option maxRecDepth 100000

set_option maxHeartbeats 4000000 in
theorem calDays_any (y m d n : Int) (w : World) (hA : HasAh w) :
    Calls Tryd.prog 7 #[dV y m d, .int .i64 n] w fun e w' => e = .returned (.bool true) ∧ Below w.heap.size w w' := by
  have HA := hid hA
  have HD := hid (fun w h => days_any y m d w h)
  have HR := hid (fun w => refDays_any y m d w)
  have HV := hid (fun w h => valid_any y m d w h)
  have HW := hid (fun w => refValid_any y m d w)
  obtain ⟨y1, m1, d1, e1, ho1, ho2⟩ := of_both n
  have HO1 := hid ho1
  have HO2 := hid ho2
  clear ho1 ho2 hA
  generalize (if VD y m d then nb y m d else 0) = k at *
  generalize (if VD y m d then (0 : Int) else 30) = f at *
  generalize decide (VD y m d) = b at *
  unfold dV at *
  go_enter Tryd.func7, Tryd.ntmps7
  go_wp2_with fail
  refine (HD.out _ (HA.out.alloc _)).mono ?_
  rintro e w1 ⟨rfl, hb1⟩
  have HA1 := hid ((HA.out.alloc _).below hb1)
  have hx1 := (Box.new w y m d).later hb1
  have hB1 : Below w.heap.size w w1 := ((Below.refl _ _).alloc (Nat.le_refl _) _).trans (hb1.mono (by simp))
  obtain ⟨c0, c1, c2, _, _, _, z1⟩ := hx1.facts
  have HX1 := hid hx1
  clear hb1 hx1 HD
  go_wp2_with fail
  refine (HR.out _).mono ?_
  rintro e w2 ⟨rfl, hb2⟩
  have HA2 := hid (HA1.out.below hb2)
  have HX2 := hid (HX1.out.later hb2)
  have hB2 := hB1.trans (hb2.mono hB1.size)
  clear hb2 HR HX1 c0 c1 c2 hB1
  go_wp2_with fail
  refine (HO1.out _ HA2.out).mono ?_
  rintro e w3 ⟨rfl, hb3⟩
  have HA3 := hid (HA2.out.below hb3)
  have HX3 := hid (HX2.out.later hb3)
  have hB3 := hB2.trans (hb3.mono hB2.size)
  clear hb3 HO1 HX2 hB2
  go_wp2_with fail
  refine (HO2.out _).mono ?_
  rintro e w4 ⟨rfl, hb4⟩
  have HA4 := hid ((HA3.out.alloc _).below hb4)
  have HX4 := hid ((HX3.out.later ((Below.refl _ _).alloc (Nat.le_refl _) _)).later hb4)
  have HY4 := hid ((Box.new w3 y1 m1 d1).later hb4)
  have hB4 : Below w.heap.size w w4 := (hB3.alloc hB3.size _).trans (hb4.mono (by have := hB3.size; simp; omega))
  clear hb4 HO2 HX3
  obtain ⟨b3, hb3⟩ : ∃ b3, b3 = w3.heap.size := ⟨_, rfl⟩
  rw [← hb3] at HY4 ⊢
  clear hB3 hb3
  go_upto_region 5 with fail
  have HX5 := hid (HX4.out.later ((Below.refl _ _).alloc (Nat.le_refl _) (.cells #[.int .i64 y1, .int .i64 m1, .int .i64 d1] 23)))
  have HY5 := hid (HY4.out.later ((Below.refl _ _).alloc (Nat.le_refl _) (.cells #[.int .i64 y1, .int .i64 m1, .int .i64 d1] 23)))
  have HZ5 := hid (Box.new w4 y1 m1 d1)
  have HA5 := hid (HA4.out.alloc (.cells #[.int .i64 y1, .int .i64 m1, .int .i64 d1] 23))
  have hB5 : Below w.heap.size w _ := hB4.alloc hB4.size (.cells #[.int .i64 y1, .int .i64 m1, .int .i64 d1] 23)
  obtain ⟨b4, hb4⟩ : ∃ b4, b4 = w4.heap.size := ⟨_, rfl⟩
  rw [← hb4] at HZ5 ⊢
  clear hb4 HX4 HY4 HA4 hB4
  generalize w4.alloc (.cells #[.int .i64 y1, .int .i64 m1, .int .i64 d1] 23) = w5 at *
  have HVs : Hid (∀ wx, Later w5 wx → Calls Tryd.prog 13 #[.agg #[.int .i64 y, .int .i64 m, .int .i64 d]] wx fun e w' => e = .returned (.bool b) ∧ Later w5 w') := fun wx hx => (HV.out wx (HA5.out.below hx)).mono (by rintro e w' ⟨rfl, hb⟩; exact ⟨rfl, hx.trans (hb.mono hx.size)⟩)
  have HWs : Hid (∀ wx, Later w5 wx → Calls Tryd.prog 20 #[.agg #[.int .i64 y, .int .i64 m, .int .i64 d]] wx fun e w' => e = .returned (.bool b) ∧ Later w5 w') := fun wx hx => (HW.out wx).mono (by rintro e w' ⟨rfl, hb⟩; exact ⟨rfl, hx.trans (hb.mono hx.size)⟩)
  have cc : ∀ wx, Later w5 wx → (wx.cell? ⟨w.heap.size, 0, none⟩ = some (.int .i64 y) ∧ wx.cell? ⟨w.heap.size, 1, none⟩ = some (.int .i64 m) ∧ wx.cell? ⟨w.heap.size, 2, none⟩ = some (.int .i64 d)) ∧
      (wx.cell? ⟨b3, 0, none⟩ = some (.int .i64 y1) ∧ wx.cell? ⟨b3, 1, none⟩ = some (.int .i64 m1) ∧ wx.cell? ⟨b3, 2, none⟩ = some (.int .i64 d1)) ∧
      (wx.cell? ⟨b4, 0, none⟩ = some (.int .i64 y1) ∧ wx.cell? ⟨b4, 1, none⟩ = some (.int .i64 m1) ∧ wx.cell? ⟨b4, 2, none⟩ = some (.int .i64 d1)) := fun wx hx => by
    obtain ⟨a0, a1, a2, _⟩ := (HX5.out.later hx).facts
    obtain ⟨b0, b1, b2, _⟩ := (HY5.out.later hx).facts
    obtain ⟨c0, c1, c2, _⟩ := (HZ5.out.later hx).facts
    exact ⟨⟨a0, a1, a2⟩, ⟨b0, b1, b2⟩, ⟨c0, c1, c2⟩⟩
  have CC := hid cc
  have s0 : Later w5 w5.drew := (Below.refl _ _).drew
  have s00 : Later w5 w5 := Below.refl _ _
  clear cc HV HW HX5 HY5 HZ5 HA HA1 HA2 HA3 z1
  have hbb : (b == b) = true := by simp
  first | go_region_held (fun wx => Later w5 wx ∧ (wx.cell? ⟨w.heap.size, 0, none⟩ = some (.int .i64 y) ∧ wx.cell? ⟨w.heap.size, 1, none⟩ = some (.int .i64 m) ∧ wx.cell? ⟨w.heap.size, 2, none⟩ = some (.int .i64 d)) ∧
      (wx.cell? ⟨b3, 0, none⟩ = some (.int .i64 y1) ∧ wx.cell? ⟨b3, 1, none⟩ = some (.int .i64 m1) ∧ wx.cell? ⟨b3, 2, none⟩ = some (.int .i64 d1)) ∧
      (wx.cell? ⟨b4, 0, none⟩ = some (.int .i64 y1) ∧ wx.cell? ⟨b4, 1, none⟩ = some (.int .i64 m1) ∧ wx.cell? ⟨b4, 2, none⟩ = some (.int .i64 d1))) (exact ⟨by assumption, CC.out _ (by assumption)⟩) (first
    | (go_at_call 13; refine (HVs.out _ (by assumption)).mono ?_; rintro e wa ⟨rfl, sa⟩)
    | (go_at_call 20; refine (HWs.out _ (by assumption)).mono ?_; rintro e wb ⟨rfl, sb⟩)) | fail
  all_goals (go_wp2; go_ret; exact ⟨rfl, hB5.trans (sb.mono hB5.size)⟩)
end Go.Proofs.YtjjkfhpiapnjlabDoor
