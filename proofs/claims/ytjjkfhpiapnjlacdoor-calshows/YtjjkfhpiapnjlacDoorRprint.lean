/-
  The document's own PrintDate, form by form.
-/
import Derived.Test.YtjjkfhpiapnjlacDoorPprint
import Derived.Test.YtjjkfhpiapnjlacDoorRweek
namespace Go.Proofs.YtjjkfhpiapnjlacDoor
open Go.RowKit
set_option maxRecDepth 100000

theorem refPad_since (n : Int) (k : Nat) (z : Int) (hz : z = (k : Int)) (h0 : 0 ≤ n) (hk1 : 1 ≤ k) (hk : k ≤ 9) (hn : n.toNat < 10 ^ k) (w1 w : World) (hx : LaterP w1 w) :
    Calls Tryd.prog 44 #[.int .i64 n, .int .i64 z] w fun e w' => e = .returned (.string (pT n k)) ∧ LaterP w1 w' := by
  subst hz
  have hd := nDig_lt k n.toNat hk1 hn
  have hbig : n.toNat < 10 ^ 9 := Nat.lt_of_lt_of_le hn (Nat.pow_le_pow_right (by omega) hk)
  have e9 : (10 : Nat) ^ 9 = 1000000000 := by decide
  have H := refPad_any n.toNat k (by omega) (by omega) (.inr (by omega)) (by rw [padD_len _ _ hd]; omega) w
  rw [show ((n.toNat : Nat) : Int) = n by omega] at H
  exact H.mono (by rintro e w' ⟨rfl, hb⟩; exact ⟨rfl, Below.trans hx (hb.mono (Below.size hx))⟩)

set_option maxHeartbeats 2000000 in
theorem refPrintDate_0 (y m d : Int) (hv : VD y m d) (w : World) :
    Calls Tryd.prog 18 #[dV y m d, .int .i64 0] w fun e w' => (∃ t : ByteArray, e = .returned (.tuple #[.string t, .int .i64 0]) ∧ t.data.toList = pdL 0 y m d) ∧ Below w.heap.size w w' := by
  have HD := hid (fun w => refDays_any y m d w)
  rw [if_pos hv, if_pos hv] at HD
  have HK := hid (fun w => refWeek_any y m d hv w)
  have hy := hv.1
  have hy2 := hv.2.1
  have hm := hv.2.2.1
  have hm2 := hv.2.2.2.1
  have hd := hv.2.2.2.2.1
  have hd2 : d ≤ 31 := by have := hv.2.2.2.2.2; have := lg_le y m; omega
  have zy := pT_size y 4 (nDig_lt 4 y.toNat (by omega) (by show y.toNat < 10000; omega))
  have ly := pT_list y 4
  have PY := hid (fun w1 w hx => refPad_since y 4 4 rfl (by omega) (by omega) (by omega) (by show y.toNat < 10000; omega) w1 w hx)
  have zm := pT_size m 2 (nDig_lt 2 m.toNat (by omega) (by show m.toNat < 100; omega))
  have zd := pT_size d 2 (nDig_lt 2 d.toNat (by omega) (by show d.toNat < 100; omega))
  have lm := pT_list m 2
  have ld := pT_list d 2
  have PM := hid (fun w1 w hx => refPad_since m 2 2 rfl (by omega) (by omega) (by omega) (by show m.toNat < 100; omega) w1 w hx)
  have PD := hid (fun w1 w hx => refPad_since d 2 2 rfl (by omega) (by omega) (by omega) (by show d.toNat < 100; omega) w1 w hx)
  generalize pT y 4 = TY at *
  generalize pT m 2 = TM at *
  generalize pT d 2 = TD at *
  have HL := hid (show (TY ++ (⟨#[45]⟩ : ByteArray) ++ TM ++ (⟨#[45]⟩ : ByteArray) ++ TD).data.toList = pdL 0 y m d by
    rw [ba_app, ba_app, ba_app, ba_app, ly, lm, ld]; rfl)
  have nn0 : ¬ 9223372036854775807 < TY.size + 1 := by omega
  have nn1 : ¬ 9223372036854775807 < TY.size + 1 + TM.size := by omega
  have nn2 : ¬ 9223372036854775807 < TY.size + 1 + TM.size + 1 := by omega
  have nn3 : ¬ 9223372036854775807 < TY.size + 1 + TM.size + 1 + TD.size := by omega
  generalize pdL 0 y m d = RL at *
  clear hv ly lm ld
  generalize nb y m d = n at *
  generalize wkY y n = a at *
  generalize wkW y n = b at *
  generalize wd n + 1 = c at *
  unfold dV at *
  go_enter Tryd.func18, Tryd.ntmps18
  go_wp2_with fail
  refine (HD.out _).mono ?_
  rintro e w1 ⟨rfl, hb1⟩
  have X1 := hid ((Box.new w y m d).later hb1)
  have B1 : Below w.heap.size w w1 := ((Below.refl _ _).alloc (Nat.le_refl _) _).trans (hb1.mono (by simp))
  clear hb1 HD
  go_wp2_with fail
  refine (HK.out _).mono ?_
  rintro e w2 ⟨rfl, hb2⟩
  have X2 := hid (X1.out.later hb2)
  have B2 := B1.trans (hb2.mono B1.size)
  clear hb2 HK X1 B1
  obtain ⟨c0, c1, c2, _, _, _, cz⟩ := X2.out.facts
  go_wp2_with fail
  refine (PY.out (w2.alloc (.cells #[.int .i64 a, .int .i64 b, .int .i64 c] 51)) _ (Below.refl _ _)).mono ?_
  rintro e w3 ⟨rfl, hb3⟩
  have X3 := hid (X2.out.later1 hb3)
  have V3 := hid ((WBox.new w2 a b c).later hb3)
  have B3 : Below w.heap.size w w3 := (B2.alloc B2.size _).trans (Below.mono hb3 (by have := B2.size; simp; omega))
  clear hb3 PY X2 B2 c0 c1 c2 cz
  generalize w2.heap.size = p2 at *
  have CC : Hid (∀ wx, LaterP w3 wx → wx.cell? ⟨w.heap.size, 0, none⟩ = some (.int .i64 y) ∧ wx.cell? ⟨w.heap.size, 1, none⟩ = some (.int .i64 m) ∧ wx.cell? ⟨w.heap.size, 2, none⟩ = some (.int .i64 d)) := fun wx hx => by
    obtain ⟨c0, c1, c2, _⟩ := (X3.out.later hx).facts
    exact ⟨c0, c1, c2⟩
  have Q0 := hid (fun wx hx => PM.out w3 wx hx)
  have Q1 := hid (fun wx hx => PD.out w3 wx hx)
  have s0 : LaterP w3 w3.drew := (Below.refl _ _).drew
  obtain ⟨v0, v1, v2, _⟩ := V3.out.facts
  clear PM PD X3 V3
  go_upto_region 10 with fail
  clear v0 v1 v2
  first | go_region_held (fun wx => LaterP w3 wx ∧ wx.cell? ⟨w.heap.size, 0, none⟩ = some (.int .i64 y) ∧ wx.cell? ⟨w.heap.size, 1, none⟩ = some (.int .i64 m) ∧ wx.cell? ⟨w.heap.size, 2, none⟩ = some (.int .i64 d)) (exact ⟨by assumption, CC.out _ (by assumption)⟩) (first
      | (go_at_call_of 44 (Value.int IntKind.i64 m); refine (Q0.out _ (by assumption)).mono ?_; rintro e wa ⟨rfl, sa⟩)
      | (go_at_call_of 44 (Value.int IntKind.i64 d); refine (Q1.out _ (by assumption)).mono ?_; rintro e wa ⟨rfl, sa⟩)) | fail
  all_goals (go_wp2; go_ret2; exact ⟨⟨_, rfl, HL.out⟩, B3.trans (Below.mono sa B3.size)⟩)

set_option maxHeartbeats 2000000 in
theorem refPrintDate_1 (y m d : Int) (hv : VD y m d) (w : World) :
    Calls Tryd.prog 18 #[dV y m d, .int .i64 1] w fun e w' => (∃ t : ByteArray, e = .returned (.tuple #[.string t, .int .i64 0]) ∧ t.data.toList = pdL 1 y m d) ∧ Below w.heap.size w w' := by
  have HD := hid (fun w => refDays_any y m d w)
  rw [if_pos hv, if_pos hv] at HD
  have HK := hid (fun w => refWeek_any y m d hv w)
  have hy := hv.1
  have hy2 := hv.2.1
  have hm := hv.2.2.1
  have hm2 := hv.2.2.2.1
  have hd := hv.2.2.2.2.1
  have hd2 : d ≤ 31 := by have := hv.2.2.2.2.2; have := lg_le y m; omega
  have zy := pT_size y 4 (nDig_lt 4 y.toNat (by omega) (by show y.toNat < 10000; omega))
  have ly := pT_list y 4
  have PY := hid (fun w1 w hx => refPad_since y 4 4 rfl (by omega) (by omega) (by omega) (by show y.toNat < 10000; omega) w1 w hx)
  have zm := pT_size m 2 (nDig_lt 2 m.toNat (by omega) (by show m.toNat < 100; omega))
  have zd := pT_size d 2 (nDig_lt 2 d.toNat (by omega) (by show d.toNat < 100; omega))
  have lm := pT_list m 2
  have ld := pT_list d 2
  have PM := hid (fun w1 w hx => refPad_since m 2 2 rfl (by omega) (by omega) (by omega) (by show m.toNat < 100; omega) w1 w hx)
  have PD := hid (fun w1 w hx => refPad_since d 2 2 rfl (by omega) (by omega) (by omega) (by show d.toNat < 100; omega) w1 w hx)
  generalize pT y 4 = TY at *
  generalize pT m 2 = TM at *
  generalize pT d 2 = TD at *
  have HL := hid (show (TY ++ TM ++ TD).data.toList = pdL 1 y m d by
    rw [ba_app, ba_app, ly, lm, ld]; rfl)
  have nn0 : ¬ 9223372036854775807 < TY.size + TM.size := by omega
  have nn1 : ¬ 9223372036854775807 < TY.size + TM.size + TD.size := by omega
  generalize pdL 1 y m d = RL at *
  clear hv ly lm ld
  generalize nb y m d = n at *
  generalize wkY y n = a at *
  generalize wkW y n = b at *
  generalize wd n + 1 = c at *
  unfold dV at *
  go_enter Tryd.func18, Tryd.ntmps18
  go_wp2_with fail
  refine (HD.out _).mono ?_
  rintro e w1 ⟨rfl, hb1⟩
  have X1 := hid ((Box.new w y m d).later hb1)
  have B1 : Below w.heap.size w w1 := ((Below.refl _ _).alloc (Nat.le_refl _) _).trans (hb1.mono (by simp))
  clear hb1 HD
  go_wp2_with fail
  refine (HK.out _).mono ?_
  rintro e w2 ⟨rfl, hb2⟩
  have X2 := hid (X1.out.later hb2)
  have B2 := B1.trans (hb2.mono B1.size)
  clear hb2 HK X1 B1
  obtain ⟨c0, c1, c2, _, _, _, cz⟩ := X2.out.facts
  go_wp2_with fail
  refine (PY.out (w2.alloc (.cells #[.int .i64 a, .int .i64 b, .int .i64 c] 51)) _ (Below.refl _ _)).mono ?_
  rintro e w3 ⟨rfl, hb3⟩
  have X3 := hid (X2.out.later1 hb3)
  have V3 := hid ((WBox.new w2 a b c).later hb3)
  have B3 : Below w.heap.size w w3 := (B2.alloc B2.size _).trans (Below.mono hb3 (by have := B2.size; simp; omega))
  clear hb3 PY X2 B2 c0 c1 c2 cz
  generalize w2.heap.size = p2 at *
  have CC : Hid (∀ wx, LaterP w3 wx → wx.cell? ⟨w.heap.size, 0, none⟩ = some (.int .i64 y) ∧ wx.cell? ⟨w.heap.size, 1, none⟩ = some (.int .i64 m) ∧ wx.cell? ⟨w.heap.size, 2, none⟩ = some (.int .i64 d)) := fun wx hx => by
    obtain ⟨c0, c1, c2, _⟩ := (X3.out.later hx).facts
    exact ⟨c0, c1, c2⟩
  have Q0 := hid (fun wx hx => PM.out w3 wx hx)
  have Q1 := hid (fun wx hx => PD.out w3 wx hx)
  have s0 : LaterP w3 w3.drew := (Below.refl _ _).drew
  obtain ⟨v0, v1, v2, _⟩ := V3.out.facts
  clear PM PD X3 V3
  go_upto_region 12 with fail
  clear v0 v1 v2
  first | go_region_held (fun wx => LaterP w3 wx ∧ wx.cell? ⟨w.heap.size, 0, none⟩ = some (.int .i64 y) ∧ wx.cell? ⟨w.heap.size, 1, none⟩ = some (.int .i64 m) ∧ wx.cell? ⟨w.heap.size, 2, none⟩ = some (.int .i64 d)) (exact ⟨by assumption, CC.out _ (by assumption)⟩) (first
      | (go_at_call_of 44 (Value.int IntKind.i64 m); refine (Q0.out _ (by assumption)).mono ?_; rintro e wa ⟨rfl, sa⟩)
      | (go_at_call_of 44 (Value.int IntKind.i64 d); refine (Q1.out _ (by assumption)).mono ?_; rintro e wa ⟨rfl, sa⟩)) | fail
  all_goals (go_wp2; go_ret2; exact ⟨⟨_, rfl, HL.out⟩, B3.trans (Below.mono sa B3.size)⟩)

set_option maxHeartbeats 1000000 in
theorem refPrintDate_2 (y m d : Int) (hv : VD y m d) (w : World) :
    Calls Tryd.prog 18 #[dV y m d, .int .i64 2] w fun e w' => (∃ t : ByteArray, e = .returned (.tuple #[.string t, .int .i64 0]) ∧ t.data.toList = pdL 2 y m d) ∧ Below w.heap.size w w' := by
  have HD := hid (fun w => refDays_any y m d w)
  rw [if_pos hv, if_pos hv] at HD
  have HK := hid (fun w => refWeek_any y m d hv w)
  have hy := hv.1
  have hy2 := hv.2.1
  have hm := hv.2.2.1
  have hm2 := hv.2.2.2.1
  have hd := hv.2.2.2.2.1
  have hd2 : d ≤ 31 := by have := hv.2.2.2.2.2; have := lg_le y m; omega
  have zy := pT_size y 4 (nDig_lt 4 y.toNat (by omega) (by show y.toNat < 10000; omega))
  have ly := pT_list y 4
  have PY := hid (fun w1 w hx => refPad_since y 4 4 rfl (by omega) (by omega) (by omega) (by show y.toNat < 10000; omega) w1 w hx)
  have hyd := yd_in y m d hv
  have hnr := nb_range y m d hv
  have hyb := ys_bounds y (by omega) (by omega)
  have hsub : nb y m d - ys y + 1 = yd y m d := by unfold nb yd; omega
  have zn := pT_size (yd y m d) 3 (nDig_lt 3 (yd y m d).toNat (by omega) (by show (yd y m d).toNat < 1000; omega))
  have ln := pT_list (yd y m d) 3
  have HY := hid (fun w => refAhead_any y (by omega) (by omega) w)
  have PN := hid (fun w1 w hx => refPad_since (yd y m d) 3 3 rfl (by omega) (by omega) (by omega) (by show (yd y m d).toNat < 1000; omega) w1 w hx)
  generalize pT y 4 = TY at *
  generalize pT (yd y m d) 3 = TN at *
  have HL := hid (show (TY ++ (⟨#[45]⟩ : ByteArray) ++ TN).data.toList = pdL 2 y m d by
    rw [ba_app, ba_app, ly, ln]; rfl)
  have nn0 : ¬ 9223372036854775807 < TY.size + 1 := by omega
  have nn1 : ¬ 9223372036854775807 < TY.size + 1 + TN.size := by omega
  generalize pdL 2 y m d = RL at *
  generalize yd y m d = N at *
  generalize ys y = A at *
  clear hv ly ln
  generalize nb y m d = n at *
  generalize wkY y n = a at *
  generalize wkW y n = b at *
  generalize wd n + 1 = c at *
  unfold dV at *
  go_enter Tryd.func18, Tryd.ntmps18
  go_wp2_with fail
  refine (HD.out _).mono ?_
  rintro e w1 ⟨rfl, hb1⟩
  have X1 := hid ((Box.new w y m d).later hb1)
  have B1 : Below w.heap.size w w1 := ((Below.refl _ _).alloc (Nat.le_refl _) _).trans (hb1.mono (by simp))
  clear hb1 HD
  go_wp2_with fail
  refine (HK.out _).mono ?_
  rintro e w2 ⟨rfl, hb2⟩
  have X2 := hid (X1.out.later hb2)
  have B2 := B1.trans (hb2.mono B1.size)
  clear hb2 HK X1 B1
  obtain ⟨c0, c1, c2, _, _, _, cz⟩ := X2.out.facts
  go_wp2_with fail
  refine (PY.out (w2.alloc (.cells #[.int .i64 a, .int .i64 b, .int .i64 c] 51)) _ (Below.refl _ _)).mono ?_
  rintro e w3 ⟨rfl, hb3⟩
  have X3 := hid (X2.out.later1 hb3)
  have V3 := hid ((WBox.new w2 a b c).later hb3)
  have B3 : Below w.heap.size w w3 := (B2.alloc B2.size _).trans (Below.mono hb3 (by have := B2.size; simp; omega))
  clear hb3 PY X2 B2 c0 c1 c2 cz
  generalize w2.heap.size = p2 at *
  obtain ⟨c0, c1, c2, _⟩ := X3.out.facts
  go_wp2_with fail
  refine (HY.out _).mono ?_
  rintro e w' ⟨rfl, rfl⟩
  go_wp2_with fail
  refine (PN.out _ _ (Below.refl _ _)).mono ?_
  rintro e w4 ⟨rfl, hb4⟩
  go_wp2
  go_ret2
  exact ⟨⟨_, rfl, HL.out⟩, B3.trans (Below.mono hb4 B3.size)⟩

set_option maxHeartbeats 1000000 in
theorem refPrintDate_3 (y m d : Int) (hv : VD y m d) (w : World) :
    Calls Tryd.prog 18 #[dV y m d, .int .i64 3] w fun e w' => (∃ t : ByteArray, e = .returned (.tuple #[.string t, .int .i64 0]) ∧ t.data.toList = pdL 3 y m d) ∧ Below w.heap.size w w' := by
  have HD := hid (fun w => refDays_any y m d w)
  rw [if_pos hv, if_pos hv] at HD
  have HK := hid (fun w => refWeek_any y m d hv w)
  have hy := hv.1
  have hy2 := hv.2.1
  have hm := hv.2.2.1
  have hm2 := hv.2.2.2.1
  have hd := hv.2.2.2.2.1
  have hd2 : d ≤ 31 := by have := hv.2.2.2.2.2; have := lg_le y m; omega
  have zy := pT_size y 4 (nDig_lt 4 y.toNat (by omega) (by show y.toNat < 10000; omega))
  have ly := pT_list y 4
  have PY := hid (fun w1 w hx => refPad_since y 4 4 rfl (by omega) (by omega) (by omega) (by show y.toNat < 10000; omega) w1 w hx)
  have hyd := yd_in y m d hv
  have hnr := nb_range y m d hv
  have hyb := ys_bounds y (by omega) (by omega)
  have hsub : nb y m d - ys y + 1 = yd y m d := by unfold nb yd; omega
  have zn := pT_size (yd y m d) 3 (nDig_lt 3 (yd y m d).toNat (by omega) (by show (yd y m d).toNat < 1000; omega))
  have ln := pT_list (yd y m d) 3
  have HY := hid (fun w => refAhead_any y (by omega) (by omega) w)
  have PN := hid (fun w1 w hx => refPad_since (yd y m d) 3 3 rfl (by omega) (by omega) (by omega) (by show (yd y m d).toNat < 1000; omega) w1 w hx)
  generalize pT y 4 = TY at *
  generalize pT (yd y m d) 3 = TN at *
  have HL := hid (show (TY ++ TN).data.toList = pdL 3 y m d by
    rw [ba_app, ly, ln]; rfl)
  have nn0 : ¬ 9223372036854775807 < TY.size + TN.size := by omega
  generalize pdL 3 y m d = RL at *
  generalize yd y m d = N at *
  generalize ys y = A at *
  clear hv ly ln
  generalize nb y m d = n at *
  generalize wkY y n = a at *
  generalize wkW y n = b at *
  generalize wd n + 1 = c at *
  unfold dV at *
  go_enter Tryd.func18, Tryd.ntmps18
  go_wp2_with fail
  refine (HD.out _).mono ?_
  rintro e w1 ⟨rfl, hb1⟩
  have X1 := hid ((Box.new w y m d).later hb1)
  have B1 : Below w.heap.size w w1 := ((Below.refl _ _).alloc (Nat.le_refl _) _).trans (hb1.mono (by simp))
  clear hb1 HD
  go_wp2_with fail
  refine (HK.out _).mono ?_
  rintro e w2 ⟨rfl, hb2⟩
  have X2 := hid (X1.out.later hb2)
  have B2 := B1.trans (hb2.mono B1.size)
  clear hb2 HK X1 B1
  obtain ⟨c0, c1, c2, _, _, _, cz⟩ := X2.out.facts
  go_wp2_with fail
  refine (PY.out (w2.alloc (.cells #[.int .i64 a, .int .i64 b, .int .i64 c] 51)) _ (Below.refl _ _)).mono ?_
  rintro e w3 ⟨rfl, hb3⟩
  have X3 := hid (X2.out.later1 hb3)
  have V3 := hid ((WBox.new w2 a b c).later hb3)
  have B3 : Below w.heap.size w w3 := (B2.alloc B2.size _).trans (Below.mono hb3 (by have := B2.size; simp; omega))
  clear hb3 PY X2 B2 c0 c1 c2 cz
  generalize w2.heap.size = p2 at *
  obtain ⟨c0, c1, c2, _⟩ := X3.out.facts
  go_wp2_with fail
  refine (HY.out _).mono ?_
  rintro e w' ⟨rfl, rfl⟩
  go_wp2_with fail
  refine (PN.out _ _ (Below.refl _ _)).mono ?_
  rintro e w4 ⟨rfl, hb4⟩
  go_wp2
  go_ret2
  exact ⟨⟨_, rfl, HL.out⟩, B3.trans (Below.mono hb4 B3.size)⟩

set_option maxHeartbeats 2000000 in
theorem refPrintDate_4 (y m d : Int) (hv : VD y m d) (hneg : ¬ wkY y (nb y m d) < 0) (w : World) :
    Calls Tryd.prog 18 #[dV y m d, .int .i64 4] w fun e w' => (∃ t : ByteArray, e = .returned (.tuple #[.string t, .int .i64 0]) ∧ t.data.toList = pdL 4 y m d) ∧ Below w.heap.size w w' := by
  have HD := hid (fun w => refDays_any y m d w)
  rw [if_pos hv, if_pos hv] at HD
  have HK := hid (fun w => refWeek_any y m d hv w)
  have hy := hv.1
  have hy2 := hv.2.1
  have hm := hv.2.2.1
  have hm2 := hv.2.2.2.1
  have hd := hv.2.2.2.2.1
  have hd2 : d ≤ 31 := by have := hv.2.2.2.2.2; have := lg_le y m; omega
  have zy := pT_size y 4 (nDig_lt 4 y.toNat (by omega) (by show y.toNat < 10000; omega))
  have ly := pT_list y 4
  have PY := hid (fun w1 w hx => refPad_since y 4 4 rfl (by omega) (by omega) (by omega) (by show y.toNat < 10000; omega) w1 w hx)
  have hwb := week_bounds y m d hv
  have hbig := wkY_le y m d hv
  have hwd := wd_lt (nb y m d)
  have hc1 : 1 ≤ wd (nb y m d) + 1 ∧ wd (nb y m d) + 1 ≤ 7 := by omega
  have za := pT_size (wkY y (nb y m d)) 4 (nDig_lt 4 _ (by omega) (by show (wkY y (nb y m d)).toNat < 10000; omega))
  have zb := pT_size (wkW y (nb y m d)) 2 (nDig_lt 2 _ (by omega) (by show (wkW y (nb y m d)).toNat < 100; omega))
  have zc := pT_size (wd (nb y m d) + 1) 1 (nDig_lt 1 _ (by omega) (by show (wd (nb y m d) + 1).toNat < 10; omega))
  have la := pT_list (wkY y (nb y m d)) 4
  have lb := pT_list (wkW y (nb y m d)) 2
  have lc := pT_list (wd (nb y m d) + 1) 1
  have PA := hid (fun w1 w hx => refPad_since (wkY y (nb y m d)) 4 4 rfl (by omega) (by omega) (by omega) (by show (wkY y (nb y m d)).toNat < 10000; omega) w1 w hx)
  have PB := hid (fun w1 w hx => refPad_since (wkW y (nb y m d)) 2 2 rfl (by omega) (by omega) (by omega) (by show (wkW y (nb y m d)).toNat < 100; omega) w1 w hx)
  have PC := hid (fun w1 w hx => refPad_since (wd (nb y m d) + 1) 1 1 rfl (by omega) (by omega) (by omega) (by show (wd (nb y m d) + 1).toNat < 10; omega) w1 w hx)
  generalize pT y 4 = TY at *
  generalize pT (wkY y (nb y m d)) 4 = TA at *
  generalize pT (wkW y (nb y m d)) 2 = TB at *
  generalize pT (wd (nb y m d) + 1) 1 = TC at *
  have HL := hid (show (TA ++ (⟨#[45, 87]⟩ : ByteArray) ++ TB ++ (⟨#[45]⟩ : ByteArray) ++ TC).data.toList = pdL 4 y m d by
    rw [ba_app, ba_app, ba_app, ba_app, la, lb, lc]
    show _ = wtL _ _ _ _
    simp [wtL])
  have nn0 : ¬ 9223372036854775807 < TA.size + 2 := by omega
  have nn1 : ¬ 9223372036854775807 < TA.size + 2 + TB.size := by omega
  have nn2 : ¬ 9223372036854775807 < TA.size + 2 + TB.size + 1 := by omega
  have nn3 : ¬ 9223372036854775807 < TA.size + 2 + TB.size + 1 + TC.size := by omega
  generalize pdL 4 y m d = RL at *
  clear hv ly la lb lc hwd
  generalize nb y m d = n at *
  generalize wkY y n = a at *
  generalize wkW y n = b at *
  generalize wd n + 1 = c at *
  unfold dV at *
  go_enter Tryd.func18, Tryd.ntmps18
  go_wp2_with fail
  refine (HD.out _).mono ?_
  rintro e w1 ⟨rfl, hb1⟩
  have X1 := hid ((Box.new w y m d).later hb1)
  have B1 : Below w.heap.size w w1 := ((Below.refl _ _).alloc (Nat.le_refl _) _).trans (hb1.mono (by simp))
  clear hb1 HD
  go_wp2_with fail
  refine (HK.out _).mono ?_
  rintro e w2 ⟨rfl, hb2⟩
  have X2 := hid (X1.out.later hb2)
  have B2 := B1.trans (hb2.mono B1.size)
  clear hb2 HK X1 B1
  obtain ⟨c0, c1, c2, _, _, _, cz⟩ := X2.out.facts
  go_wp2_with fail
  refine (PY.out (w2.alloc (.cells #[.int .i64 a, .int .i64 b, .int .i64 c] 51)) _ (Below.refl _ _)).mono ?_
  rintro e w3 ⟨rfl, hb3⟩
  have X3 := hid (X2.out.later1 hb3)
  have V3 := hid ((WBox.new w2 a b c).later hb3)
  have B3 : Below w.heap.size w w3 := (B2.alloc B2.size _).trans (Below.mono hb3 (by have := B2.size; simp; omega))
  clear hb3 PY X2 B2 c0 c1 c2 cz
  generalize w2.heap.size = p2 at *
  have CC : Hid (∀ wx, LaterP w3 wx → wx.cell? ⟨p2, 0, none⟩ = some (.int .i64 a) ∧ wx.cell? ⟨p2, 1, none⟩ = some (.int .i64 b) ∧ wx.cell? ⟨p2, 2, none⟩ = some (.int .i64 c)) := fun wx hx => by
    obtain ⟨c0, c1, c2, _⟩ := (V3.out.later hx).facts
    exact ⟨c0, c1, c2⟩
  have Q0 := hid (fun wx hx => PA.out w3 wx hx)
  have Q1 := hid (fun wx hx => PB.out w3 wx hx)
  have Q2 := hid (fun wx hx => PC.out w3 wx hx)
  have s0 : LaterP w3 w3.drew := (Below.refl _ _).drew
  obtain ⟨v0, v1, v2, _⟩ := V3.out.facts
  clear PA PB PC X3 V3
  go_upto_region 20 with fail
  clear v0 v1 v2
  first | go_region_held (fun wx => LaterP w3 wx ∧ wx.cell? ⟨p2, 0, none⟩ = some (.int .i64 a) ∧ wx.cell? ⟨p2, 1, none⟩ = some (.int .i64 b) ∧ wx.cell? ⟨p2, 2, none⟩ = some (.int .i64 c)) (exact ⟨by assumption, CC.out _ (by assumption)⟩) (first
      | (go_at_call_of 44 (Value.int IntKind.i64 a); refine (Q0.out _ (by assumption)).mono ?_; rintro e wa ⟨rfl, sa⟩)
      | (go_at_call_of 44 (Value.int IntKind.i64 b); refine (Q1.out _ (by assumption)).mono ?_; rintro e wa ⟨rfl, sa⟩)
      | (go_at_call_of 44 (Value.int IntKind.i64 c); refine (Q2.out _ (by assumption)).mono ?_; rintro e wa ⟨rfl, sa⟩)) | fail
  all_goals (go_wp2; go_ret2; exact ⟨⟨_, rfl, HL.out⟩, B3.trans (Below.mono sa B3.size)⟩)

set_option maxHeartbeats 1000000 in
theorem refPrintDate_4n (y m d : Int) (hv : VD y m d) (hneg : wkY y (nb y m d) < 0) (w : World) :
    Calls Tryd.prog 18 #[dV y m d, .int .i64 4] w fun e w' => e = .returned (.tuple #[.string ⟨#[]⟩, .int .i64 35]) ∧ Below w.heap.size w w' := by
  have HD := hid (fun w => refDays_any y m d w)
  rw [if_pos hv, if_pos hv] at HD
  have HK := hid (fun w => refWeek_any y m d hv w)
  have hy := hv.1
  have hy2 := hv.2.1
  have hm := hv.2.2.1
  have hm2 := hv.2.2.2.1
  have hd := hv.2.2.2.2.1
  have hd2 : d ≤ 31 := by have := hv.2.2.2.2.2; have := lg_le y m; omega
  have zy := pT_size y 4 (nDig_lt 4 y.toNat (by omega) (by show y.toNat < 10000; omega))
  have ly := pT_list y 4
  have PY := hid (fun w1 w hx => refPad_since y 4 4 rfl (by omega) (by omega) (by omega) (by show y.toNat < 10000; omega) w1 w hx)
  generalize pT y 4 = TY at *
  clear hv ly
  generalize nb y m d = n at *
  generalize wkY y n = a at *
  generalize wkW y n = b at *
  generalize wd n + 1 = c at *
  unfold dV at *
  go_enter Tryd.func18, Tryd.ntmps18
  go_wp2_with fail
  refine (HD.out _).mono ?_
  rintro e w1 ⟨rfl, hb1⟩
  have X1 := hid ((Box.new w y m d).later hb1)
  have B1 : Below w.heap.size w w1 := ((Below.refl _ _).alloc (Nat.le_refl _) _).trans (hb1.mono (by simp))
  clear hb1 HD
  go_wp2_with fail
  refine (HK.out _).mono ?_
  rintro e w2 ⟨rfl, hb2⟩
  have X2 := hid (X1.out.later hb2)
  have B2 := B1.trans (hb2.mono B1.size)
  clear hb2 HK X1 B1
  obtain ⟨c0, c1, c2, _, _, _, cz⟩ := X2.out.facts
  go_wp2_with fail
  refine (PY.out (w2.alloc (.cells #[.int .i64 a, .int .i64 b, .int .i64 c] 51)) _ (Below.refl _ _)).mono ?_
  rintro e w3 ⟨rfl, hb3⟩
  have X3 := hid (X2.out.later1 hb3)
  have V3 := hid ((WBox.new w2 a b c).later hb3)
  have B3 : Below w.heap.size w w3 := (B2.alloc B2.size _).trans (Below.mono hb3 (by have := B2.size; simp; omega))
  clear hb3 PY X2 B2 c0 c1 c2 cz
  generalize w2.heap.size = p2 at *
  obtain ⟨v0, v1, v2, _⟩ := V3.out.facts
  go_wp2
  go_ret2
  exact ⟨rfl, B3⟩

set_option maxHeartbeats 2000000 in
theorem refPrintDate_5 (y m d : Int) (hv : VD y m d) (hneg : ¬ wkY y (nb y m d) < 0) (w : World) :
    Calls Tryd.prog 18 #[dV y m d, .int .i64 5] w fun e w' => (∃ t : ByteArray, e = .returned (.tuple #[.string t, .int .i64 0]) ∧ t.data.toList = pdL 5 y m d) ∧ Below w.heap.size w w' := by
  have HD := hid (fun w => refDays_any y m d w)
  rw [if_pos hv, if_pos hv] at HD
  have HK := hid (fun w => refWeek_any y m d hv w)
  have hy := hv.1
  have hy2 := hv.2.1
  have hm := hv.2.2.1
  have hm2 := hv.2.2.2.1
  have hd := hv.2.2.2.2.1
  have hd2 : d ≤ 31 := by have := hv.2.2.2.2.2; have := lg_le y m; omega
  have zy := pT_size y 4 (nDig_lt 4 y.toNat (by omega) (by show y.toNat < 10000; omega))
  have ly := pT_list y 4
  have PY := hid (fun w1 w hx => refPad_since y 4 4 rfl (by omega) (by omega) (by omega) (by show y.toNat < 10000; omega) w1 w hx)
  have hwb := week_bounds y m d hv
  have hbig := wkY_le y m d hv
  have hwd := wd_lt (nb y m d)
  have hc1 : 1 ≤ wd (nb y m d) + 1 ∧ wd (nb y m d) + 1 ≤ 7 := by omega
  have za := pT_size (wkY y (nb y m d)) 4 (nDig_lt 4 _ (by omega) (by show (wkY y (nb y m d)).toNat < 10000; omega))
  have zb := pT_size (wkW y (nb y m d)) 2 (nDig_lt 2 _ (by omega) (by show (wkW y (nb y m d)).toNat < 100; omega))
  have zc := pT_size (wd (nb y m d) + 1) 1 (nDig_lt 1 _ (by omega) (by show (wd (nb y m d) + 1).toNat < 10; omega))
  have la := pT_list (wkY y (nb y m d)) 4
  have lb := pT_list (wkW y (nb y m d)) 2
  have lc := pT_list (wd (nb y m d) + 1) 1
  have PA := hid (fun w1 w hx => refPad_since (wkY y (nb y m d)) 4 4 rfl (by omega) (by omega) (by omega) (by show (wkY y (nb y m d)).toNat < 10000; omega) w1 w hx)
  have PB := hid (fun w1 w hx => refPad_since (wkW y (nb y m d)) 2 2 rfl (by omega) (by omega) (by omega) (by show (wkW y (nb y m d)).toNat < 100; omega) w1 w hx)
  have PC := hid (fun w1 w hx => refPad_since (wd (nb y m d) + 1) 1 1 rfl (by omega) (by omega) (by omega) (by show (wd (nb y m d) + 1).toNat < 10; omega) w1 w hx)
  generalize pT y 4 = TY at *
  generalize pT (wkY y (nb y m d)) 4 = TA at *
  generalize pT (wkW y (nb y m d)) 2 = TB at *
  generalize pT (wd (nb y m d) + 1) 1 = TC at *
  have HL := hid (show (TA ++ (⟨#[87]⟩ : ByteArray) ++ TB ++ TC).data.toList = pdL 5 y m d by
    rw [ba_app, ba_app, ba_app, la, lb, lc]
    show _ = wtL _ _ _ _
    simp [wtL])
  have nn0 : ¬ 9223372036854775807 < TA.size + 1 := by omega
  have nn1 : ¬ 9223372036854775807 < TA.size + 1 + TB.size := by omega
  have nn2 : ¬ 9223372036854775807 < TA.size + 1 + TB.size + TC.size := by omega
  generalize pdL 5 y m d = RL at *
  clear hv ly la lb lc hwd
  generalize nb y m d = n at *
  generalize wkY y n = a at *
  generalize wkW y n = b at *
  generalize wd n + 1 = c at *
  unfold dV at *
  go_enter Tryd.func18, Tryd.ntmps18
  go_wp2_with fail
  refine (HD.out _).mono ?_
  rintro e w1 ⟨rfl, hb1⟩
  have X1 := hid ((Box.new w y m d).later hb1)
  have B1 : Below w.heap.size w w1 := ((Below.refl _ _).alloc (Nat.le_refl _) _).trans (hb1.mono (by simp))
  clear hb1 HD
  go_wp2_with fail
  refine (HK.out _).mono ?_
  rintro e w2 ⟨rfl, hb2⟩
  have X2 := hid (X1.out.later hb2)
  have B2 := B1.trans (hb2.mono B1.size)
  clear hb2 HK X1 B1
  obtain ⟨c0, c1, c2, _, _, _, cz⟩ := X2.out.facts
  go_wp2_with fail
  refine (PY.out (w2.alloc (.cells #[.int .i64 a, .int .i64 b, .int .i64 c] 51)) _ (Below.refl _ _)).mono ?_
  rintro e w3 ⟨rfl, hb3⟩
  have X3 := hid (X2.out.later1 hb3)
  have V3 := hid ((WBox.new w2 a b c).later hb3)
  have B3 : Below w.heap.size w w3 := (B2.alloc B2.size _).trans (Below.mono hb3 (by have := B2.size; simp; omega))
  clear hb3 PY X2 B2 c0 c1 c2 cz
  generalize w2.heap.size = p2 at *
  have CC : Hid (∀ wx, LaterP w3 wx → wx.cell? ⟨p2, 0, none⟩ = some (.int .i64 a) ∧ wx.cell? ⟨p2, 1, none⟩ = some (.int .i64 b) ∧ wx.cell? ⟨p2, 2, none⟩ = some (.int .i64 c)) := fun wx hx => by
    obtain ⟨c0, c1, c2, _⟩ := (V3.out.later hx).facts
    exact ⟨c0, c1, c2⟩
  have Q0 := hid (fun wx hx => PA.out w3 wx hx)
  have Q1 := hid (fun wx hx => PB.out w3 wx hx)
  have Q2 := hid (fun wx hx => PC.out w3 wx hx)
  have s0 : LaterP w3 w3.drew := (Below.refl _ _).drew
  obtain ⟨v0, v1, v2, _⟩ := V3.out.facts
  clear PA PB PC X3 V3
  go_upto_region 21 with fail
  clear v0 v1 v2
  first | go_region_held (fun wx => LaterP w3 wx ∧ wx.cell? ⟨p2, 0, none⟩ = some (.int .i64 a) ∧ wx.cell? ⟨p2, 1, none⟩ = some (.int .i64 b) ∧ wx.cell? ⟨p2, 2, none⟩ = some (.int .i64 c)) (exact ⟨by assumption, CC.out _ (by assumption)⟩) (first
      | (go_at_call_of 44 (Value.int IntKind.i64 a); refine (Q0.out _ (by assumption)).mono ?_; rintro e wa ⟨rfl, sa⟩)
      | (go_at_call_of 44 (Value.int IntKind.i64 b); refine (Q1.out _ (by assumption)).mono ?_; rintro e wa ⟨rfl, sa⟩)
      | (go_at_call_of 44 (Value.int IntKind.i64 c); refine (Q2.out _ (by assumption)).mono ?_; rintro e wa ⟨rfl, sa⟩)) | fail
  all_goals (go_wp2; go_ret2; exact ⟨⟨_, rfl, HL.out⟩, B3.trans (Below.mono sa B3.size)⟩)

set_option maxHeartbeats 1000000 in
theorem refPrintDate_5n (y m d : Int) (hv : VD y m d) (hneg : wkY y (nb y m d) < 0) (w : World) :
    Calls Tryd.prog 18 #[dV y m d, .int .i64 5] w fun e w' => e = .returned (.tuple #[.string ⟨#[]⟩, .int .i64 35]) ∧ Below w.heap.size w w' := by
  have HD := hid (fun w => refDays_any y m d w)
  rw [if_pos hv, if_pos hv] at HD
  have HK := hid (fun w => refWeek_any y m d hv w)
  have hy := hv.1
  have hy2 := hv.2.1
  have hm := hv.2.2.1
  have hm2 := hv.2.2.2.1
  have hd := hv.2.2.2.2.1
  have hd2 : d ≤ 31 := by have := hv.2.2.2.2.2; have := lg_le y m; omega
  have zy := pT_size y 4 (nDig_lt 4 y.toNat (by omega) (by show y.toNat < 10000; omega))
  have ly := pT_list y 4
  have PY := hid (fun w1 w hx => refPad_since y 4 4 rfl (by omega) (by omega) (by omega) (by show y.toNat < 10000; omega) w1 w hx)
  generalize pT y 4 = TY at *
  clear hv ly
  generalize nb y m d = n at *
  generalize wkY y n = a at *
  generalize wkW y n = b at *
  generalize wd n + 1 = c at *
  unfold dV at *
  go_enter Tryd.func18, Tryd.ntmps18
  go_wp2_with fail
  refine (HD.out _).mono ?_
  rintro e w1 ⟨rfl, hb1⟩
  have X1 := hid ((Box.new w y m d).later hb1)
  have B1 : Below w.heap.size w w1 := ((Below.refl _ _).alloc (Nat.le_refl _) _).trans (hb1.mono (by simp))
  clear hb1 HD
  go_wp2_with fail
  refine (HK.out _).mono ?_
  rintro e w2 ⟨rfl, hb2⟩
  have X2 := hid (X1.out.later hb2)
  have B2 := B1.trans (hb2.mono B1.size)
  clear hb2 HK X1 B1
  obtain ⟨c0, c1, c2, _, _, _, cz⟩ := X2.out.facts
  go_wp2_with fail
  refine (PY.out (w2.alloc (.cells #[.int .i64 a, .int .i64 b, .int .i64 c] 51)) _ (Below.refl _ _)).mono ?_
  rintro e w3 ⟨rfl, hb3⟩
  have X3 := hid (X2.out.later1 hb3)
  have V3 := hid ((WBox.new w2 a b c).later hb3)
  have B3 : Below w.heap.size w w3 := (B2.alloc B2.size _).trans (Below.mono hb3 (by have := B2.size; simp; omega))
  clear hb3 PY X2 B2 c0 c1 c2 cz
  generalize w2.heap.size = p2 at *
  obtain ⟨v0, v1, v2, _⟩ := V3.out.facts
  go_wp2
  go_ret2
  exact ⟨rfl, B3⟩

theorem refPrintDate_arg (y m d f : Int) (hv : VD y m d) (hf : f < 0 ∨ 5 < f) (w : World) :
    Calls Tryd.prog 18 #[dV y m d, .int .i64 f] w fun e w' => e = .returned (.tuple #[.string ⟨#[]⟩, .int .i64 2]) ∧ Below w.heap.size w w' := by
  have HD := hid (fun w => refDays_any y m d w)
  rw [if_pos hv, if_pos hv] at HD
  clear hv
  unfold dV at *
  by_cases h0 : f < 0
  · go_enter Tryd.func18, Tryd.ntmps18
    go_wp2_with fail
    refine (HD.out _).mono ?_
    rintro e w1 ⟨rfl, hb1⟩
    go_wp2
    go_ret2
    exact ⟨rfl, ((Below.refl _ _).alloc (Nat.le_refl _) _).trans (hb1.mono (by simp))⟩
  · have h5 : 5 < f := by omega
    clear hf
    go_enter Tryd.func18, Tryd.ntmps18
    go_wp2_with fail
    refine (HD.out _).mono ?_
    rintro e w1 ⟨rfl, hb1⟩
    go_wp2
    go_ret2
    exact ⟨rfl, ((Below.refl _ _).alloc (Nat.le_refl _) _).trans (hb1.mono (by simp))⟩

theorem refPrintDate_bad (y m d f : Int) (hv : ¬ VD y m d) (w : World) :
    Calls Tryd.prog 18 #[dV y m d, .int .i64 f] w fun e w' => e = .returned (.tuple #[.string ⟨#[]⟩, .int .i64 30]) ∧ Below w.heap.size w w' := by
  have HD := hid (fun w => refDays_any y m d w)
  rw [if_neg hv, if_neg hv] at HD
  clear hv
  unfold dV at *
  go_enter Tryd.func18, Tryd.ntmps18
  go_wp2_with fail
  refine (HD.out _).mono ?_
  rintro e w1 ⟨rfl, hb1⟩
  go_wp2
  go_ret2
  exact ⟨rfl, ((Below.refl _ _).alloc (Nat.le_refl _) _).trans (hb1.mono (by simp))⟩
end Go.Proofs.YtjjkfhpiapnjlacDoor
