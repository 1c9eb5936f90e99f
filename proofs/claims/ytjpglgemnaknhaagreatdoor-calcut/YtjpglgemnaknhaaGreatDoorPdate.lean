/-
  PrintDate: dayOfYear, weekText, and the six forms.
-/
import Derived.Test.YtjpglgemnaknhaaGreatDoorPads
import Derived.Test.YtjpglgemnaknhaaGreatDoorWkb
namespace Go.Proofs.YtjpglgemnaknhaaGreatDoor
open Go.RowKit
set_option maxRecDepth 100000

theorem ba_app (a b : ByteArray) : (a ++ b).data.toList = a.data.toList ++ b.data.toList := by rw [ByteArray.data_append, Array.toList_append]

/-- the day of the year -/
def yd (y m d : Int) : Int := ms y m + d
theorem yd_in (y m d : Int) (h : VD y m d) : 1 ≤ yd y m d ∧ yd y m d ≤ 366 := by
  have a := nb_year y m d h
  have b := ys_next y
  have c := lpN_cases y
  have e : nb y m d = ys y + ms y m + d - 1 := rfl
  unfold yd
  omega

set_option maxHeartbeats 1000000 in
theorem dayOfYear_any (y m d : Int) (h : VD y m d) (w : World) (hA : HasAh w) (hT : HasPw w) :
    Calls Tryz.prog 34 #[dV y m d] w fun e w' => e = .returned (.string (pT (yd y m d) 3)) ∧ Below w.heap.size w w' := by
  have hy := yd_in y m d h
  have hd := h.2.2.2.2.1
  have hml := ms_long y m h.2.2.1 (by have := h.2.2.2.1; omega)
  have hyd : ms y m + d = yd y m d := rfl
  obtain ⟨h1, h2, h3, h4, h5, h6⟩ := h
  have hdl : d ≤ 31 := by have := lg_le y m; omega
  have HM := hid (fun w hA => monthStart_any y m h1 h3 (by omega) w hA)
  have HP := hid (fun w1 w hT hx => padded_since (yd y m d) 3 3 rfl (by omega) (by omega) (by omega) (by show (yd y m d).toNat < 1000; omega) w1 w hT hx)
  generalize pT (yd y m d) 3 = R at *
  generalize yd y m d = n at *
  generalize ms y m = a at *
  obtain ⟨w1, hw1⟩ : ∃ w1, w1 = w.alloc (.cells #[.int .i64 y, .int .i64 m, .int .i64 d] 28) := ⟨_, rfl⟩
  have HA1 := hid (show HasAh w1 from hw1 ▸ hA.alloc _)
  have HT1 := hid (show HasPw w1 from hw1 ▸ hT.alloc _)
  have HX := hid (show Box w1 w.heap.size y m d from hw1 ▸ Box.new w y m d)
  have hB1 : Below w.heap.size w w1 := hw1 ▸ (Below.refl _ _).alloc (Nat.le_refl _) _
  have HMs : Hid (∀ wx, LaterP w1 wx → Calls Tryz.prog 50 #[.int .i64 y, .int .i64 m] wx fun e w' => e = .returned (.int .i64 a) ∧ LaterP w1 w') := fun wx hx => (HM.out wx (HA1.out.below hx)).mono (by rintro e w' ⟨rfl, rfl⟩; exact ⟨rfl, hx⟩)
  have HPs := hid (fun wx hx => HP.out w1 wx HT1.out hx)
  have CC : Hid (∀ wx, LaterP w1 wx → wx.cell? ⟨w.heap.size, 0, none⟩ = some (.int .i64 y) ∧ wx.cell? ⟨w.heap.size, 1, none⟩ = some (.int .i64 m) ∧ wx.cell? ⟨w.heap.size, 2, none⟩ = some (.int .i64 d)) := fun wx hx => by
    obtain ⟨c0, c1, c2, _⟩ := (HX.out.later hx).facts
    exact ⟨c0, c1, c2⟩
  have s0 : LaterP w1 w1.drew := (Below.refl _ _).drew
  have r1 : IntKind.i64.wrap (a + d) = n := by rw [IntKind.wrap_i64]; omega
  have r2 : IntKind.i64.wrap n = n := by rw [IntKind.wrap_i64]; omega
  clear HM HP hA hT HX HA1 HT1
  unfold dV
  go_enter Tryz.func34, Tryz.ntmps34
  go_wp2_with fail
  rw [← hw1]
  clear hw1
  first | go_region_held (fun wx => LaterP w1 wx ∧ wx.cell? ⟨w.heap.size, 0, none⟩ = some (.int .i64 y) ∧ wx.cell? ⟨w.heap.size, 1, none⟩ = some (.int .i64 m) ∧ wx.cell? ⟨w.heap.size, 2, none⟩ = some (.int .i64 d)) (exact ⟨by assumption, CC.out _ (by assumption)⟩) (first
      | (go_at_call 50; refine (HMs.out _ (by assumption)).mono ?_; rintro e wa ⟨rfl, sa⟩)
      | (go_at_call 33; refine (HPs.out _ (by assumption)).mono ?_; rintro e wb ⟨rfl, sb⟩)) | fail
  all_goals (go_wp2; go_ret; exact ⟨rfl, hB1.trans (Below.mono sb hB1.size)⟩)

/-- a week's text -/
def wtL (a b c : Int) (bt : List UInt8) : List UInt8 := padD a.toNat 4 ++ bt ++ [87] ++ padD b.toNat 2 ++ bt ++ padD c.toNat 1

theorem wkY_le (y m d : Int) (h : VD y m d) : wkY y (nb y m d) ≤ 9999 := by
  have hny := nb_year y m d h
  have hnr := nb_range y m d h
  have his := wkY_is y (nb y m d) hny.1 hny.2
  have ht : thu (nb y m d) ≤ 3652424 := by unfold thu wd; omega
  have := ys_le 10000 (wkY y (nb y m d))
  have e := ys_10000
  omega

theorem weekText_neg (y m d : Int) (h : VD y m d) (bt : ByteArray) (hneg : wkY y (nb y m d) < 0) (w : World) (hA : HasAh w) (hT : HasPw w) :
    Calls Tryz.prog 35 #[dV y m d, .string bt] w fun e w' => e = .returned (.tuple #[.string ⟨#[]⟩, .int .i64 35]) ∧ Below w.heap.size w w' := by
  have HW := hid (fun w hA => weekOf_any y m d h w hA)
  have S0 := hid (show Su w w from ⟨hA, hT, Below.refl _ _⟩)
  clear hA hT h
  generalize wkY y (nb y m d) = a at *
  generalize wkW y (nb y m d) = b at *
  generalize wd (nb y m d) + 1 = c at *
  unfold dV at *
  go_enter Tryz.func35, Tryz.ntmps35
  go_wp2_with fail
  refine (HW.out _ (S0.out.alloc _).1).mono ?_
  rintro e w1 ⟨rfl, hb1⟩
  have S1 := hid ((S0.out.alloc _).call hb1)
  clear hb1 HW
  go_wp2
  go_ret2
  exact ⟨rfl, (S1.out.alloc _).2.2⟩

set_option maxHeartbeats 2000000 in
theorem weekText_good (y m d : Int) (h : VD y m d) (bt : ByteArray) (hbt : bt.size ≤ 1) (hneg : ¬ wkY y (nb y m d) < 0) (w : World) (hA : HasAh w) (hT : HasPw w) :
    Calls Tryz.prog 35 #[dV y m d, .string bt] w fun e w' => (∃ t : ByteArray, e = .returned (.tuple #[.string t, .int .i64 0]) ∧ t.data.toList = wtL (wkY y (nb y m d)) (wkW y (nb y m d)) (wd (nb y m d) + 1) bt.data.toList) ∧ Below w.heap.size w w' := by
  have HW := hid (fun w hA => weekOf_any y m d h w hA)
  have hwb := week_bounds y m d h
  have hbig := wkY_le y m d h
  have hwd := wd_lt (nb y m d)
  have S0 := hid (show Su w w from ⟨hA, hT, Below.refl _ _⟩)
  clear hA hT h
  generalize wkY y (nb y m d) = a at *
  generalize wkW y (nb y m d) = b at *
  have hc1 : 1 ≤ wd (nb y m d) + 1 ∧ wd (nb y m d) + 1 ≤ 7 := by omega
  clear hwd
  generalize wd (nb y m d) + 1 = c at *
  have za := pT_size a 4 (nDig_lt 4 a.toNat (by omega) (by show a.toNat < 10000; omega))
  have zb := pT_size b 2 (nDig_lt 2 b.toNat (by omega) (by show b.toNat < 100; omega))
  have zc := pT_size c 1 (nDig_lt 1 c.toNat (by omega) (by show c.toNat < 10; omega))
  have la := pT_list a 4
  have lb := pT_list b 2
  have lc := pT_list c 1
  have PA := hid (fun w1 w hT hx => padded_since a 4 4 rfl (by omega) (by omega) (by omega) (by show a.toNat < 10000; omega) w1 w hT hx)
  have PB := hid (fun w1 w hT hx => padded_since b 2 2 rfl (by omega) (by omega) (by omega) (by show b.toNat < 100; omega) w1 w hT hx)
  have PC := hid (fun w1 w hT hx => padded_since c 1 1 rfl (by omega) (by omega) (by omega) (by show c.toNat < 10; omega) w1 w hT hx)
  generalize pT a 4 = TA at *
  generalize pT b 2 = TB at *
  generalize pT c 1 = TC at *
  have HL := hid (show (TA ++ bt ++ (⟨#[87]⟩ : ByteArray) ++ TB ++ bt ++ TC).data.toList = wtL a b c bt.data.toList by
    rw [ba_app, ba_app, ba_app, ba_app, ba_app, la, lb, lc]; rfl)
  have n1 : ¬ 9223372036854775807 < TA.size + bt.size := by omega
  have n2 : ¬ 9223372036854775807 < TA.size + bt.size + 1 := by omega
  have n3 : ¬ 9223372036854775807 < TA.size + bt.size + 1 + TB.size := by omega
  have n4 : ¬ 9223372036854775807 < TA.size + bt.size + 1 + TB.size + bt.size := by omega
  have n5 : ¬ 9223372036854775807 < TA.size + bt.size + 1 + TB.size + bt.size + TC.size := by omega
  clear la lb lc
  unfold dV at *
  go_enter Tryz.func35, Tryz.ntmps35
  go_wp2_with fail
  refine (HW.out _ (S0.out.alloc _).1).mono ?_
  rintro e w1 ⟨rfl, hb1⟩
  have S1 := hid ((S0.out.alloc _).call hb1)
  clear hb1 HW
  go_upto_region 4 with fail
  obtain ⟨w2, hw2⟩ : ∃ w2, w2 = w1.alloc (.cells #[.int .i64 a, .int .i64 b, .int .i64 c] 69) := ⟨_, rfl⟩
  rw [← hw2]
  have S2 := hid (show Su w w2 from hw2 ▸ S1.out.alloc _)
  have HX := hid (show WBox w2 w1.heap.size a b c from hw2 ▸ WBox.new w1 a b c)
  clear hw2 S1
  generalize w1.heap.size = p1 at *
  have CC : Hid (∀ wx, LaterP w2 wx → wx.cell? ⟨p1, 0, none⟩ = some (.int .i64 a) ∧ wx.cell? ⟨p1, 1, none⟩ = some (.int .i64 b) ∧ wx.cell? ⟨p1, 2, none⟩ = some (.int .i64 c)) := fun wx hx => by
    obtain ⟨c0, c1, c2, _⟩ := (HX.out.later hx).facts
    exact ⟨c0, c1, c2⟩
  have QA := hid (fun wx hx => PA.out w2 wx S2.out.2.1 hx)
  have QB := hid (fun wx hx => PB.out w2 wx S2.out.2.1 hx)
  have QC := hid (fun wx hx => PC.out w2 wx S2.out.2.1 hx)
  have s0 : LaterP w2 w2.drew := (Below.refl _ _).drew
  clear PA PB PC HX
  first | go_region_held (fun wx => LaterP w2 wx ∧ wx.cell? ⟨p1, 0, none⟩ = some (.int .i64 a) ∧ wx.cell? ⟨p1, 1, none⟩ = some (.int .i64 b) ∧ wx.cell? ⟨p1, 2, none⟩ = some (.int .i64 c)) (exact ⟨by assumption, CC.out _ (by assumption)⟩) (first
      | (go_at_call_of 33 (Value.int IntKind.i64 a); refine (QA.out _ (by assumption)).mono ?_; rintro e wa ⟨rfl, sa⟩)
      | (go_at_call_of 33 (Value.int IntKind.i64 b); refine (QB.out _ (by assumption)).mono ?_; rintro e wa ⟨rfl, sa⟩)
      | (go_at_call_of 33 (Value.int IntKind.i64 c); refine (QC.out _ (by assumption)).mono ?_; rintro e wa ⟨rfl, sa⟩)) | fail
  all_goals (go_wp2; go_ret2; exact ⟨⟨_, rfl, HL.out⟩, S2.out.2.2.trans (Below.mono sa S2.out.2.2.size)⟩)
end Go.Proofs.YtjpglgemnaknhaaGreatDoor
