/-
  PrintDate, form by form.
-/
import Derived.Test.YtjpglgemnaknhaaGreatDoorPdate
namespace Go.Proofs.YtjpglgemnaknhaaGreatDoor
open Go.RowKit
set_option maxRecDepth 100000

/-- the texts of a day -/
def pdL (f y m d : Int) : List UInt8 :=
  if f = 0 then padD y.toNat 4 ++ [45] ++ padD m.toNat 2 ++ [45] ++ padD d.toNat 2
  else if f = 1 then padD y.toNat 4 ++ padD m.toNat 2 ++ padD d.toNat 2
  else if f = 2 then padD y.toNat 4 ++ [45] ++ padD (yd y m d).toNat 3
  else if f = 3 then padD y.toNat 4 ++ padD (yd y m d).toNat 3
  else if f = 4 then wtL (wkY y (nb y m d)) (wkW y (nb y m d)) (wd (nb y m d) + 1) [45]
  else wtL (wkY y (nb y m d)) (wkW y (nb y m d)) (wd (nb y m d) + 1) []

set_option maxHeartbeats 2000000 in
theorem printDate_0 (y m d : Int) (hv : VD y m d) (w : World) (hA : HasAh w) (hT : HasPw w) :
    Calls Tryz.prog 12 #[dV y m d, .int .i64 0] w fun e w' => (∃ t : ByteArray, e = .returned (.tuple #[.string t, .int .i64 0]) ∧ t.data.toList = pdL 0 y m d) ∧ Below w.heap.size w w' := by
  have HV := hid (fun w h => valid_any y m d w h)
  rw [decide_eq_true hv] at HV
  have S0 := hid (show Su w w from ⟨hA, hT, Below.refl _ _⟩)
  have hy := hv.1
  have hy2 := hv.2.1
  have hm := hv.2.2.1
  have hm2 := hv.2.2.2.1
  have hd := hv.2.2.2.2.1
  have hd2 : d ≤ 31 := by have := hv.2.2.2.2.2; have := lg_le y m; omega
  have zy := pT_size y 4 (nDig_lt 4 y.toNat (by omega) (by show y.toNat < 10000; omega))
  have ly := pT_list y 4
  have PY := hid (fun w1 w hT hx => padded_since y 4 4 rfl (by omega) (by omega) (by omega) (by show y.toNat < 10000; omega) w1 w hT hx)
  have zm := pT_size m 2 (nDig_lt 2 m.toNat (by omega) (by show m.toNat < 100; omega))
  have zd := pT_size d 2 (nDig_lt 2 d.toNat (by omega) (by show d.toNat < 100; omega))
  have lm := pT_list m 2
  have ld := pT_list d 2
  have PM := hid (fun w1 w hT hx => padded_since m 2 2 rfl (by omega) (by omega) (by omega) (by show m.toNat < 100; omega) w1 w hT hx)
  have PD := hid (fun w1 w hT hx => padded_since d 2 2 rfl (by omega) (by omega) (by omega) (by show d.toNat < 100; omega) w1 w hT hx)
  generalize pT y 4 = TY at *
  generalize pT m 2 = TM at *
  generalize pT d 2 = TD at *
  have HL := hid (show (TY ++ (⟨#[45]⟩ : ByteArray) ++ TM ++ (⟨#[45]⟩ : ByteArray) ++ TD).data.toList = pdL 0 y m d by
    rw [ba_app, ba_app, ba_app, ba_app, ly, lm, ld]; rfl)
  have nn0 : ¬ 9223372036854775807 < TY.size + 1 := by omega
  have nn1 : ¬ 9223372036854775807 < TY.size + 1 + TM.size := by omega
  have nn2 : ¬ 9223372036854775807 < TY.size + 1 + TM.size + 1 := by omega
  have nn3 : ¬ 9223372036854775807 < TY.size + 1 + TM.size + 1 + TD.size := by omega
  clear hA hT hv ly lm ld
  unfold dV at *
  go_enter Tryz.func12, Tryz.ntmps12
  go_wp2_with fail
  refine (HV.out _ (S0.out.alloc _).1).mono ?_
  rintro e w1 ⟨rfl, hb1⟩
  have S1 := hid ((S0.out.alloc _).call hb1)
  have X1 := hid ((Box.new w y m d).later hb1)
  obtain ⟨c0, c1, c2, _⟩ := X1.out.facts
  clear hb1 HV S0
  go_wp2_with fail
  refine (PY.out w1 _ S1.out.2.1 (Below.refl _ _)).mono ?_
  rintro e w2 ⟨rfl, hb2⟩
  have S2 := hid (S1.out.call hb2)
  have X2 := hid (X1.out.later hb2)
  clear hb2 PY X1 S1 c0 c1 c2
  have CC : Hid (∀ wx, LaterP w2 wx → wx.cell? ⟨w.heap.size, 0, none⟩ = some (.int .i64 y) ∧ wx.cell? ⟨w.heap.size, 1, none⟩ = some (.int .i64 m) ∧ wx.cell? ⟨w.heap.size, 2, none⟩ = some (.int .i64 d)) := fun wx hx => by
    obtain ⟨c0, c1, c2, _⟩ := (X2.out.later hx).facts
    exact ⟨c0, c1, c2⟩
  have QM := hid (fun wx hx => PM.out w2 wx S2.out.2.1 hx)
  have QD := hid (fun wx hx => PD.out w2 wx S2.out.2.1 hx)
  have s0 : LaterP w2 w2.drew := (Below.refl _ _).drew
  clear PM PD X2
  go_upto_region 6 with fail
  first | go_region_held (fun wx => LaterP w2 wx ∧ wx.cell? ⟨w.heap.size, 0, none⟩ = some (.int .i64 y) ∧ wx.cell? ⟨w.heap.size, 1, none⟩ = some (.int .i64 m) ∧ wx.cell? ⟨w.heap.size, 2, none⟩ = some (.int .i64 d)) (exact ⟨by assumption, CC.out _ (by assumption)⟩) (first
      | (go_at_call_of 33 (Value.int IntKind.i64 m); refine (QM.out _ (by assumption)).mono ?_; rintro e wa ⟨rfl, sa⟩)
      | (go_at_call_of 33 (Value.int IntKind.i64 d); refine (QD.out _ (by assumption)).mono ?_; rintro e wa ⟨rfl, sa⟩)) | fail
  all_goals (go_wp2; go_ret2; exact ⟨⟨_, rfl, HL.out⟩, S2.out.2.2.trans (Below.mono sa S2.out.2.2.size)⟩)

set_option maxHeartbeats 2000000 in
theorem printDate_1 (y m d : Int) (hv : VD y m d) (w : World) (hA : HasAh w) (hT : HasPw w) :
    Calls Tryz.prog 12 #[dV y m d, .int .i64 1] w fun e w' => (∃ t : ByteArray, e = .returned (.tuple #[.string t, .int .i64 0]) ∧ t.data.toList = pdL 1 y m d) ∧ Below w.heap.size w w' := by
  have HV := hid (fun w h => valid_any y m d w h)
  rw [decide_eq_true hv] at HV
  have S0 := hid (show Su w w from ⟨hA, hT, Below.refl _ _⟩)
  have hy := hv.1
  have hy2 := hv.2.1
  have hm := hv.2.2.1
  have hm2 := hv.2.2.2.1
  have hd := hv.2.2.2.2.1
  have hd2 : d ≤ 31 := by have := hv.2.2.2.2.2; have := lg_le y m; omega
  have zy := pT_size y 4 (nDig_lt 4 y.toNat (by omega) (by show y.toNat < 10000; omega))
  have ly := pT_list y 4
  have PY := hid (fun w1 w hT hx => padded_since y 4 4 rfl (by omega) (by omega) (by omega) (by show y.toNat < 10000; omega) w1 w hT hx)
  have zm := pT_size m 2 (nDig_lt 2 m.toNat (by omega) (by show m.toNat < 100; omega))
  have zd := pT_size d 2 (nDig_lt 2 d.toNat (by omega) (by show d.toNat < 100; omega))
  have lm := pT_list m 2
  have ld := pT_list d 2
  have PM := hid (fun w1 w hT hx => padded_since m 2 2 rfl (by omega) (by omega) (by omega) (by show m.toNat < 100; omega) w1 w hT hx)
  have PD := hid (fun w1 w hT hx => padded_since d 2 2 rfl (by omega) (by omega) (by omega) (by show d.toNat < 100; omega) w1 w hT hx)
  generalize pT y 4 = TY at *
  generalize pT m 2 = TM at *
  generalize pT d 2 = TD at *
  have HL := hid (show (TY ++ TM ++ TD).data.toList = pdL 1 y m d by
    rw [ba_app, ba_app, ly, lm, ld]; rfl)
  have nn0 : ¬ 9223372036854775807 < TY.size + TM.size := by omega
  have nn1 : ¬ 9223372036854775807 < TY.size + TM.size + TD.size := by omega
  clear hA hT hv ly lm ld
  unfold dV at *
  go_enter Tryz.func12, Tryz.ntmps12
  go_wp2_with fail
  refine (HV.out _ (S0.out.alloc _).1).mono ?_
  rintro e w1 ⟨rfl, hb1⟩
  have S1 := hid ((S0.out.alloc _).call hb1)
  have X1 := hid ((Box.new w y m d).later hb1)
  obtain ⟨c0, c1, c2, _⟩ := X1.out.facts
  clear hb1 HV S0
  go_wp2_with fail
  refine (PY.out w1 _ S1.out.2.1 (Below.refl _ _)).mono ?_
  rintro e w2 ⟨rfl, hb2⟩
  have S2 := hid (S1.out.call hb2)
  have X2 := hid (X1.out.later hb2)
  clear hb2 PY X1 S1 c0 c1 c2
  have CC : Hid (∀ wx, LaterP w2 wx → wx.cell? ⟨w.heap.size, 0, none⟩ = some (.int .i64 y) ∧ wx.cell? ⟨w.heap.size, 1, none⟩ = some (.int .i64 m) ∧ wx.cell? ⟨w.heap.size, 2, none⟩ = some (.int .i64 d)) := fun wx hx => by
    obtain ⟨c0, c1, c2, _⟩ := (X2.out.later hx).facts
    exact ⟨c0, c1, c2⟩
  have QM := hid (fun wx hx => PM.out w2 wx S2.out.2.1 hx)
  have QD := hid (fun wx hx => PD.out w2 wx S2.out.2.1 hx)
  have s0 : LaterP w2 w2.drew := (Below.refl _ _).drew
  clear PM PD X2
  go_upto_region 8 with fail
  first | go_region_held (fun wx => LaterP w2 wx ∧ wx.cell? ⟨w.heap.size, 0, none⟩ = some (.int .i64 y) ∧ wx.cell? ⟨w.heap.size, 1, none⟩ = some (.int .i64 m) ∧ wx.cell? ⟨w.heap.size, 2, none⟩ = some (.int .i64 d)) (exact ⟨by assumption, CC.out _ (by assumption)⟩) (first
      | (go_at_call_of 33 (Value.int IntKind.i64 m); refine (QM.out _ (by assumption)).mono ?_; rintro e wa ⟨rfl, sa⟩)
      | (go_at_call_of 33 (Value.int IntKind.i64 d); refine (QD.out _ (by assumption)).mono ?_; rintro e wa ⟨rfl, sa⟩)) | fail
  all_goals (go_wp2; go_ret2; exact ⟨⟨_, rfl, HL.out⟩, S2.out.2.2.trans (Below.mono sa S2.out.2.2.size)⟩)

set_option maxHeartbeats 1000000 in
theorem printDate_2 (y m d : Int) (hv : VD y m d) (w : World) (hA : HasAh w) (hT : HasPw w) :
    Calls Tryz.prog 12 #[dV y m d, .int .i64 2] w fun e w' => (∃ t : ByteArray, e = .returned (.tuple #[.string t, .int .i64 0]) ∧ t.data.toList = pdL 2 y m d) ∧ Below w.heap.size w w' := by
  have HV := hid (fun w h => valid_any y m d w h)
  rw [decide_eq_true hv] at HV
  have S0 := hid (show Su w w from ⟨hA, hT, Below.refl _ _⟩)
  have hy := hv.1
  have hy2 := hv.2.1
  have hm := hv.2.2.1
  have hm2 := hv.2.2.2.1
  have hd := hv.2.2.2.2.1
  have hd2 : d ≤ 31 := by have := hv.2.2.2.2.2; have := lg_le y m; omega
  have zy := pT_size y 4 (nDig_lt 4 y.toNat (by omega) (by show y.toNat < 10000; omega))
  have ly := pT_list y 4
  have PY := hid (fun w1 w hT hx => padded_since y 4 4 rfl (by omega) (by omega) (by omega) (by show y.toNat < 10000; omega) w1 w hT hx)
  have hyd := yd_in y m d hv
  have zn := pT_size (yd y m d) 3 (nDig_lt 3 (yd y m d).toNat (by omega) (by show (yd y m d).toNat < 1000; omega))
  have ln := pT_list (yd y m d) 3
  have HN := hid (fun w hA hT => dayOfYear_any y m d hv w hA hT)
  generalize pT y 4 = TY at *
  generalize pT (yd y m d) 3 = TN at *
  have HL := hid (show (TY ++ (⟨#[45]⟩ : ByteArray) ++ TN).data.toList = pdL 2 y m d by
    rw [ba_app, ba_app, ly, ln]; rfl)
  have nn0 : ¬ 9223372036854775807 < TY.size + 1 := by omega
  have nn1 : ¬ 9223372036854775807 < TY.size + 1 + TN.size := by omega
  clear hA hT hv ly ln
  unfold dV at *
  go_enter Tryz.func12, Tryz.ntmps12
  go_wp2_with fail
  refine (HV.out _ (S0.out.alloc _).1).mono ?_
  rintro e w1 ⟨rfl, hb1⟩
  have S1 := hid ((S0.out.alloc _).call hb1)
  have X1 := hid ((Box.new w y m d).later hb1)
  obtain ⟨c0, c1, c2, _⟩ := X1.out.facts
  clear hb1 HV S0
  go_wp2_with fail
  refine (PY.out w1 _ S1.out.2.1 (Below.refl _ _)).mono ?_
  rintro e w2 ⟨rfl, hb2⟩
  have S2 := hid (S1.out.call hb2)
  have X2 := hid (X1.out.later hb2)
  clear hb2 PY X1 S1 c0 c1 c2
  obtain ⟨c0, c1, c2, _⟩ := X2.out.facts
  go_wp2_with fail
  refine (HN.out _ S2.out.1 S2.out.2.1).mono ?_
  rintro e w3 ⟨rfl, hb3⟩
  go_wp2
  go_ret2
  exact ⟨⟨_, rfl, HL.out⟩, S2.out.2.2.trans (hb3.mono S2.out.2.2.size)⟩

set_option maxHeartbeats 1000000 in
theorem printDate_3 (y m d : Int) (hv : VD y m d) (w : World) (hA : HasAh w) (hT : HasPw w) :
    Calls Tryz.prog 12 #[dV y m d, .int .i64 3] w fun e w' => (∃ t : ByteArray, e = .returned (.tuple #[.string t, .int .i64 0]) ∧ t.data.toList = pdL 3 y m d) ∧ Below w.heap.size w w' := by
  have HV := hid (fun w h => valid_any y m d w h)
  rw [decide_eq_true hv] at HV
  have S0 := hid (show Su w w from ⟨hA, hT, Below.refl _ _⟩)
  have hy := hv.1
  have hy2 := hv.2.1
  have hm := hv.2.2.1
  have hm2 := hv.2.2.2.1
  have hd := hv.2.2.2.2.1
  have hd2 : d ≤ 31 := by have := hv.2.2.2.2.2; have := lg_le y m; omega
  have zy := pT_size y 4 (nDig_lt 4 y.toNat (by omega) (by show y.toNat < 10000; omega))
  have ly := pT_list y 4
  have PY := hid (fun w1 w hT hx => padded_since y 4 4 rfl (by omega) (by omega) (by omega) (by show y.toNat < 10000; omega) w1 w hT hx)
  have hyd := yd_in y m d hv
  have zn := pT_size (yd y m d) 3 (nDig_lt 3 (yd y m d).toNat (by omega) (by show (yd y m d).toNat < 1000; omega))
  have ln := pT_list (yd y m d) 3
  have HN := hid (fun w hA hT => dayOfYear_any y m d hv w hA hT)
  generalize pT y 4 = TY at *
  generalize pT (yd y m d) 3 = TN at *
  have HL := hid (show (TY ++ TN).data.toList = pdL 3 y m d by
    rw [ba_app, ly, ln]; rfl)
  have nn0 : ¬ 9223372036854775807 < TY.size + TN.size := by omega
  clear hA hT hv ly ln
  unfold dV at *
  go_enter Tryz.func12, Tryz.ntmps12
  go_wp2_with fail
  refine (HV.out _ (S0.out.alloc _).1).mono ?_
  rintro e w1 ⟨rfl, hb1⟩
  have S1 := hid ((S0.out.alloc _).call hb1)
  have X1 := hid ((Box.new w y m d).later hb1)
  obtain ⟨c0, c1, c2, _⟩ := X1.out.facts
  clear hb1 HV S0
  go_wp2_with fail
  refine (PY.out w1 _ S1.out.2.1 (Below.refl _ _)).mono ?_
  rintro e w2 ⟨rfl, hb2⟩
  have S2 := hid (S1.out.call hb2)
  have X2 := hid (X1.out.later hb2)
  clear hb2 PY X1 S1 c0 c1 c2
  obtain ⟨c0, c1, c2, _⟩ := X2.out.facts
  go_wp2_with fail
  refine (HN.out _ S2.out.1 S2.out.2.1).mono ?_
  rintro e w3 ⟨rfl, hb3⟩
  go_wp2
  go_ret2
  exact ⟨⟨_, rfl, HL.out⟩, S2.out.2.2.trans (hb3.mono S2.out.2.2.size)⟩

set_option maxHeartbeats 1000000 in
theorem printDate_4 (y m d : Int) (hv : VD y m d) (hneg : ¬ wkY y (nb y m d) < 0) (w : World) (hA : HasAh w) (hT : HasPw w) :
    Calls Tryz.prog 12 #[dV y m d, .int .i64 4] w fun e w' => (∃ t : ByteArray, e = .returned (.tuple #[.string t, .int .i64 0]) ∧ t.data.toList = pdL 4 y m d) ∧ Below w.heap.size w w' := by
  have HV := hid (fun w h => valid_any y m d w h)
  rw [decide_eq_true hv] at HV
  have S0 := hid (show Su w w from ⟨hA, hT, Below.refl _ _⟩)
  have hy := hv.1
  have hy2 := hv.2.1
  have hm := hv.2.2.1
  have hm2 := hv.2.2.2.1
  have hd := hv.2.2.2.2.1
  have hd2 : d ≤ 31 := by have := hv.2.2.2.2.2; have := lg_le y m; omega
  have zy := pT_size y 4 (nDig_lt 4 y.toNat (by omega) (by show y.toNat < 10000; omega))
  have ly := pT_list y 4
  have PY := hid (fun w1 w hT hx => padded_since y 4 4 rfl (by omega) (by omega) (by omega) (by show y.toNat < 10000; omega) w1 w hT hx)
  have HN := hid (fun w hA hT => weekText_good y m d hv ⟨#[45]⟩ (by decide) hneg w hA hT)
  generalize pT y 4 = TY at *
  clear hA hT hv ly hneg
  unfold dV at *
  go_enter Tryz.func12, Tryz.ntmps12
  go_wp2_with fail
  refine (HV.out _ (S0.out.alloc _).1).mono ?_
  rintro e w1 ⟨rfl, hb1⟩
  have S1 := hid ((S0.out.alloc _).call hb1)
  have X1 := hid ((Box.new w y m d).later hb1)
  obtain ⟨c0, c1, c2, _⟩ := X1.out.facts
  clear hb1 HV S0
  go_wp2_with fail
  refine (PY.out w1 _ S1.out.2.1 (Below.refl _ _)).mono ?_
  rintro e w2 ⟨rfl, hb2⟩
  have S2 := hid (S1.out.call hb2)
  have X2 := hid (X1.out.later hb2)
  clear hb2 PY X1 S1 c0 c1 c2
  obtain ⟨c0, c1, c2, _⟩ := X2.out.facts
  go_wp2_with fail
  refine (HN.out _ S2.out.1 S2.out.2.1).mono ?_
  rintro e w3 ⟨⟨t, rfl, ht⟩, hb3⟩
  have HTT := hid ht
  clear ht
  go_wp2
  go_ret2
  exact ⟨⟨_, rfl, by rw [HTT.out]; rfl⟩, S2.out.2.2.trans (hb3.mono S2.out.2.2.size)⟩

set_option maxHeartbeats 1000000 in
theorem printDate_4n (y m d : Int) (hv : VD y m d) (hneg : wkY y (nb y m d) < 0) (w : World) (hA : HasAh w) (hT : HasPw w) :
    Calls Tryz.prog 12 #[dV y m d, .int .i64 4] w fun e w' => e = .returned (.tuple #[.string ⟨#[]⟩, .int .i64 35]) ∧ Below w.heap.size w w' := by
  have HV := hid (fun w h => valid_any y m d w h)
  rw [decide_eq_true hv] at HV
  have S0 := hid (show Su w w from ⟨hA, hT, Below.refl _ _⟩)
  have hy := hv.1
  have hy2 := hv.2.1
  have hm := hv.2.2.1
  have hm2 := hv.2.2.2.1
  have hd := hv.2.2.2.2.1
  have hd2 : d ≤ 31 := by have := hv.2.2.2.2.2; have := lg_le y m; omega
  have zy := pT_size y 4 (nDig_lt 4 y.toNat (by omega) (by show y.toNat < 10000; omega))
  have ly := pT_list y 4
  have PY := hid (fun w1 w hT hx => padded_since y 4 4 rfl (by omega) (by omega) (by omega) (by show y.toNat < 10000; omega) w1 w hT hx)
  have HN := hid (fun w hA hT => weekText_neg y m d hv ⟨#[45]⟩ hneg w hA hT)
  generalize pT y 4 = TY at *
  clear hA hT hv ly hneg
  unfold dV at *
  go_enter Tryz.func12, Tryz.ntmps12
  go_wp2_with fail
  refine (HV.out _ (S0.out.alloc _).1).mono ?_
  rintro e w1 ⟨rfl, hb1⟩
  have S1 := hid ((S0.out.alloc _).call hb1)
  have X1 := hid ((Box.new w y m d).later hb1)
  obtain ⟨c0, c1, c2, _⟩ := X1.out.facts
  clear hb1 HV S0
  go_wp2_with fail
  refine (PY.out w1 _ S1.out.2.1 (Below.refl _ _)).mono ?_
  rintro e w2 ⟨rfl, hb2⟩
  have S2 := hid (S1.out.call hb2)
  have X2 := hid (X1.out.later hb2)
  clear hb2 PY X1 S1 c0 c1 c2
  obtain ⟨c0, c1, c2, _⟩ := X2.out.facts
  go_wp2_with fail
  refine (HN.out _ S2.out.1 S2.out.2.1).mono ?_
  rintro e w3 ⟨rfl, hb3⟩
  go_wp2
  go_ret2
  exact ⟨rfl, S2.out.2.2.trans (hb3.mono S2.out.2.2.size)⟩

set_option maxHeartbeats 1000000 in
theorem printDate_5 (y m d : Int) (hv : VD y m d) (hneg : ¬ wkY y (nb y m d) < 0) (w : World) (hA : HasAh w) (hT : HasPw w) :
    Calls Tryz.prog 12 #[dV y m d, .int .i64 5] w fun e w' => (∃ t : ByteArray, e = .returned (.tuple #[.string t, .int .i64 0]) ∧ t.data.toList = pdL 5 y m d) ∧ Below w.heap.size w w' := by
  have HV := hid (fun w h => valid_any y m d w h)
  rw [decide_eq_true hv] at HV
  have S0 := hid (show Su w w from ⟨hA, hT, Below.refl _ _⟩)
  have hy := hv.1
  have hy2 := hv.2.1
  have hm := hv.2.2.1
  have hm2 := hv.2.2.2.1
  have hd := hv.2.2.2.2.1
  have hd2 : d ≤ 31 := by have := hv.2.2.2.2.2; have := lg_le y m; omega
  have zy := pT_size y 4 (nDig_lt 4 y.toNat (by omega) (by show y.toNat < 10000; omega))
  have ly := pT_list y 4
  have PY := hid (fun w1 w hT hx => padded_since y 4 4 rfl (by omega) (by omega) (by omega) (by show y.toNat < 10000; omega) w1 w hT hx)
  have HN := hid (fun w hA hT => weekText_good y m d hv ⟨#[]⟩ (by decide) hneg w hA hT)
  generalize pT y 4 = TY at *
  clear hA hT hv ly hneg
  unfold dV at *
  go_enter Tryz.func12, Tryz.ntmps12
  go_wp2_with fail
  refine (HV.out _ (S0.out.alloc _).1).mono ?_
  rintro e w1 ⟨rfl, hb1⟩
  have S1 := hid ((S0.out.alloc _).call hb1)
  have X1 := hid ((Box.new w y m d).later hb1)
  obtain ⟨c0, c1, c2, _⟩ := X1.out.facts
  clear hb1 HV S0
  go_wp2_with fail
  refine (PY.out w1 _ S1.out.2.1 (Below.refl _ _)).mono ?_
  rintro e w2 ⟨rfl, hb2⟩
  have S2 := hid (S1.out.call hb2)
  have X2 := hid (X1.out.later hb2)
  clear hb2 PY X1 S1 c0 c1 c2
  obtain ⟨c0, c1, c2, _⟩ := X2.out.facts
  go_wp2_with fail
  refine (HN.out _ S2.out.1 S2.out.2.1).mono ?_
  rintro e w3 ⟨⟨t, rfl, ht⟩, hb3⟩
  have HTT := hid ht
  clear ht
  go_wp2
  go_ret2
  exact ⟨⟨_, rfl, by rw [HTT.out]; rfl⟩, S2.out.2.2.trans (hb3.mono S2.out.2.2.size)⟩

set_option maxHeartbeats 1000000 in
theorem printDate_5n (y m d : Int) (hv : VD y m d) (hneg : wkY y (nb y m d) < 0) (w : World) (hA : HasAh w) (hT : HasPw w) :
    Calls Tryz.prog 12 #[dV y m d, .int .i64 5] w fun e w' => e = .returned (.tuple #[.string ⟨#[]⟩, .int .i64 35]) ∧ Below w.heap.size w w' := by
  have HV := hid (fun w h => valid_any y m d w h)
  rw [decide_eq_true hv] at HV
  have S0 := hid (show Su w w from ⟨hA, hT, Below.refl _ _⟩)
  have hy := hv.1
  have hy2 := hv.2.1
  have hm := hv.2.2.1
  have hm2 := hv.2.2.2.1
  have hd := hv.2.2.2.2.1
  have hd2 : d ≤ 31 := by have := hv.2.2.2.2.2; have := lg_le y m; omega
  have zy := pT_size y 4 (nDig_lt 4 y.toNat (by omega) (by show y.toNat < 10000; omega))
  have ly := pT_list y 4
  have PY := hid (fun w1 w hT hx => padded_since y 4 4 rfl (by omega) (by omega) (by omega) (by show y.toNat < 10000; omega) w1 w hT hx)
  have HN := hid (fun w hA hT => weekText_neg y m d hv ⟨#[]⟩ hneg w hA hT)
  generalize pT y 4 = TY at *
  clear hA hT hv ly hneg
  unfold dV at *
  go_enter Tryz.func12, Tryz.ntmps12
  go_wp2_with fail
  refine (HV.out _ (S0.out.alloc _).1).mono ?_
  rintro e w1 ⟨rfl, hb1⟩
  have S1 := hid ((S0.out.alloc _).call hb1)
  have X1 := hid ((Box.new w y m d).later hb1)
  obtain ⟨c0, c1, c2, _⟩ := X1.out.facts
  clear hb1 HV S0
  go_wp2_with fail
  refine (PY.out w1 _ S1.out.2.1 (Below.refl _ _)).mono ?_
  rintro e w2 ⟨rfl, hb2⟩
  have S2 := hid (S1.out.call hb2)
  have X2 := hid (X1.out.later hb2)
  clear hb2 PY X1 S1 c0 c1 c2
  obtain ⟨c0, c1, c2, _⟩ := X2.out.facts
  go_wp2_with fail
  refine (HN.out _ S2.out.1 S2.out.2.1).mono ?_
  rintro e w3 ⟨rfl, hb3⟩
  go_wp2
  go_ret2
  exact ⟨rfl, S2.out.2.2.trans (hb3.mono S2.out.2.2.size)⟩

set_option maxHeartbeats 1000000 in
theorem printDate_arg (y m d f : Int) (hv : VD y m d) (hf : f < 0 ∨ 5 < f) (w : World) (hA : HasAh w) (hT : HasPw w) :
    Calls Tryz.prog 12 #[dV y m d, .int .i64 f] w fun e w' => e = .returned (.tuple #[.string ⟨#[]⟩, .int .i64 2]) ∧ Below w.heap.size w w' := by
  have HV := hid (fun w h => valid_any y m d w h)
  rw [decide_eq_true hv] at HV
  have S0 := hid (show Su w w from ⟨hA, hT, Below.refl _ _⟩)
  have hy := hv.1
  have hy2 := hv.2.1
  have hm := hv.2.2.1
  have hm2 := hv.2.2.2.1
  have hd := hv.2.2.2.2.1
  have hd2 : d ≤ 31 := by have := hv.2.2.2.2.2; have := lg_le y m; omega
  have zy := pT_size y 4 (nDig_lt 4 y.toNat (by omega) (by show y.toNat < 10000; omega))
  have ly := pT_list y 4
  have PY := hid (fun w1 w hT hx => padded_since y 4 4 rfl (by omega) (by omega) (by omega) (by show y.toNat < 10000; omega) w1 w hT hx)
  generalize pT y 4 = TY at *
  have f0 : (f == 0) = false := by simp; omega
  have f1 : (f == 1) = false := by simp; omega
  have f2 : (f == 2) = false := by simp; omega
  have f3 : (f == 3) = false := by simp; omega
  have f4 : (f == 4) = false := by simp; omega
  have f5 : (f == 5) = false := by simp; omega
  clear hA hT hv ly hf
  unfold dV at *
  go_enter Tryz.func12, Tryz.ntmps12
  go_wp2_with fail
  refine (HV.out _ (S0.out.alloc _).1).mono ?_
  rintro e w1 ⟨rfl, hb1⟩
  have S1 := hid ((S0.out.alloc _).call hb1)
  have X1 := hid ((Box.new w y m d).later hb1)
  obtain ⟨c0, c1, c2, _⟩ := X1.out.facts
  clear hb1 HV S0
  go_wp2_with fail
  refine (PY.out w1 _ S1.out.2.1 (Below.refl _ _)).mono ?_
  rintro e w2 ⟨rfl, hb2⟩
  have S2 := hid (S1.out.call hb2)
  have X2 := hid (X1.out.later hb2)
  clear hb2 PY X1 S1 c0 c1 c2
  go_wp2
  go_ret2
  exact ⟨rfl, S2.out.2.2⟩

theorem printDate_bad (y m d f : Int) (hv : ¬ VD y m d) (w : World) (hA : HasAh w) :
    Calls Tryz.prog 12 #[dV y m d, .int .i64 f] w fun e w' => e = .returned (.tuple #[.string ⟨#[]⟩, .int .i64 30]) ∧ Below w.heap.size w w' := by
  have HV := hid (fun w h => valid_any y m d w h)
  rw [decide_eq_false hv] at HV
  have HA := hid hA
  clear hv hA
  unfold dV at *
  go_enter Tryz.func12, Tryz.ntmps12
  go_wp2_with fail
  refine (HV.out _ (HA.out.alloc _)).mono ?_
  rintro e w1 ⟨rfl, hb1⟩
  go_wp2
  go_ret2
  exact ⟨rfl, ((Below.refl _ _).alloc (Nat.le_refl _) _).trans (hb1.mono (by simp))⟩
end Go.Proofs.YtjpglgemnaknhaaGreatDoor
