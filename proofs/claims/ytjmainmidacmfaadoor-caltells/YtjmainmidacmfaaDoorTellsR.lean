/-
  The document's own PrintSpan of a span that may be.
-/
import Derived.Test.YtjmainmidacmfaaDoorTells0
namespace Go.Proofs.YtjmainmidacmfaaDoor
open Go.RowKit
set_option maxRecDepth 100000

set_option maxHeartbeats 8000000 in
theorem refPrintSpan_zero (y m v d h i s : Int) (hf : FSx y m v d h i s) (hv0 : v = 0) (w : World) :
    Calls Tryd.prog 11 #[sV y m v d h i s] w fun e w' => (∃ t : ByteArray, e = .returned (.tuple #[.string t, .int .i64 0]) ∧ t.data.toList = psL (dayL y m v d) (clkL h i s)) ∧ Below w.heap.size w w' := by
  have HS := hid (fun w => refFits_any y m v d h i s w)
  rw [decide_eq_true hf] at HS
  have HM := hid (fun n c h w => part_any n c h w)
  obtain ⟨⟨o0, o1, o2, o3, o4, o5, o6⟩, _⟩ := hf
  obtain ⟨T0, l0, z0, e0⟩ := mkT y 89 o0
  obtain ⟨T1, l1, z1, e1⟩ := mkT m 77 o1
  obtain ⟨T3, l3, z3, e3⟩ := mkT d 68 o3
  obtain ⟨T4, l4, z4, e4⟩ := mkT h 72 o4
  obtain ⟨T5, l5, z5, e5⟩ := mkT i 77 o5
  obtain ⟨T6, l6, z6, e6⟩ := mkT s 83 o6
  have M0 := hid (fun w => HM.out y 89 o0 w)
  have M1 := hid (fun w => HM.out m 77 o1 w)
  have M3 := hid (fun w => HM.out d 68 o3 w)
  have M4 := hid (fun w => HM.out h 72 o4 w)
  have M5 := hid (fun w => HM.out i 77 o5 w)
  have M6 := hid (fun w => HM.out s 83 o6 w)
  rw [e0] at M0
  rw [e1] at M1
  rw [e3] at M3
  rw [e4] at M4
  rw [e5] at M5
  rw [e6] at M6
  obtain ⟨D, eD⟩ : ∃ D, T0 ++ T1 ++ T3 = D := ⟨_, rfl⟩
  obtain ⟨C, eC⟩ : ∃ C, T4 ++ T5 ++ T6 = C := ⟨_, rfl⟩
  have zz1 : (T0 ++ T1).size ≤ 20 := by rw [ByteArray.size_append]; omega
  have zzD : D.size ≤ 40 := by rw [← eD, ByteArray.size_append]; omega
  have zz4 : (T4 ++ T5).size ≤ 20 := by rw [ByteArray.size_append]; omega
  have zzC : C.size ≤ 30 := by rw [← eC, ByteArray.size_append]; omega
  have LD := hid (show D.data.toList = dayL y m v d by rw [← eD, ba_app, ba_app, l0, l1, l3, hv0]; simp [dayL, mkL])
  have LC := hid (show C.data.toList = clkL h i s by rw [← eC, ba_app, ba_app, l4, l5, l6]; rfl)
  clear e0 e1 e3 e4 e5 e6 l0 l1 l3 l4 l5 l6 HM
  have zP : ((⟨#[80]⟩ : ByteArray) ++ D).size ≤ 41 := by rw [ByteArray.size_append]; show 1 + D.size ≤ 41; omega
  have zPT : ((⟨#[80]⟩ : ByteArray) ++ D ++ (⟨#[84]⟩ : ByteArray)).size ≤ 42 := by rw [ByteArray.size_append]; show _ + 1 ≤ 42; omega
  have zPTC : ((⟨#[80]⟩ : ByteArray) ++ D ++ (⟨#[84]⟩ : ByteArray) ++ C).size ≤ 72 := by rw [ByteArray.size_append]; omega
  have nn0 : ¬ 9223372036854775807 < T0.size + T1.size := by omega
  have nn1 : ¬ 9223372036854775807 < T0.size + T1.size + T3.size := by omega
  have nn2 : ¬ 9223372036854775807 < T4.size + T5.size := by omega
  have nn3 : ¬ 9223372036854775807 < T4.size + T5.size + T6.size := by omega
  have hCe := empty_ba C
  have hDe := empty_ba D
  rw [LC.out] at hCe
  rw [LD.out] at hDe
  have OK := hid (And.intro o0 (And.intro o1 (And.intro o2 (And.intro o3 (And.intro o4 (And.intro o5 o6))))))
  clear o0 o1 o2 o3 o4 o5 o6
  have hvb : ¬ 0 < v := by omega
  have HV0 := hid hv0
  clear hv0
  unfold sV at *
  go_enter Tryd.func11, Tryd.ntmps11
  go_wp2_with fail
  refine (HS.out _).mono ?_
  rintro e w1 ⟨rfl, hb1⟩
  have HX := hid ((SBox.new w y m v d h i s).later hb1)
  have hB1 : Below w.heap.size w w1 := ((Below.refl _ _).alloc (Nat.le_refl _) _).trans (hb1.mono (by simp))
  clear hb1 HS
  have N0 : Hid (∀ wx, LaterT w1 wx → Calls Tryd.prog 28 #[.int .i64 y, .string ⟨#[89]⟩] wx fun e w' => e = .returned (.string T0) ∧ LaterT w1 w') := fun wx hx => (M0.out wx).mono (by rintro e w' ⟨rfl, hb⟩; exact ⟨rfl, Below.trans hx (hb.mono (Below.size hx))⟩)
  have N1 : Hid (∀ wx, LaterT w1 wx → Calls Tryd.prog 28 #[.int .i64 m, .string ⟨#[77]⟩] wx fun e w' => e = .returned (.string T1) ∧ LaterT w1 w') := fun wx hx => (M1.out wx).mono (by rintro e w' ⟨rfl, hb⟩; exact ⟨rfl, Below.trans hx (hb.mono (Below.size hx))⟩)
  have N3 : Hid (∀ wx, LaterT w1 wx → Calls Tryd.prog 28 #[.int .i64 d, .string ⟨#[68]⟩] wx fun e w' => e = .returned (.string T3) ∧ LaterT w1 w') := fun wx hx => (M3.out wx).mono (by rintro e w' ⟨rfl, hb⟩; exact ⟨rfl, Below.trans hx (hb.mono (Below.size hx))⟩)
  have N4 : Hid (∀ wx, LaterT w1 wx → Calls Tryd.prog 28 #[.int .i64 h, .string ⟨#[72]⟩] wx fun e w' => e = .returned (.string T4) ∧ LaterT w1 w') := fun wx hx => (M4.out wx).mono (by rintro e w' ⟨rfl, hb⟩; exact ⟨rfl, Below.trans hx (hb.mono (Below.size hx))⟩)
  have N5 : Hid (∀ wx, LaterT w1 wx → Calls Tryd.prog 28 #[.int .i64 i, .string ⟨#[77]⟩] wx fun e w' => e = .returned (.string T5) ∧ LaterT w1 w') := fun wx hx => (M5.out wx).mono (by rintro e w' ⟨rfl, hb⟩; exact ⟨rfl, Below.trans hx (hb.mono (Below.size hx))⟩)
  have N6 : Hid (∀ wx, LaterT w1 wx → Calls Tryd.prog 28 #[.int .i64 s, .string ⟨#[83]⟩] wx fun e w' => e = .returned (.string T6) ∧ LaterT w1 w') := fun wx hx => (M6.out wx).mono (by rintro e w' ⟨rfl, hb⟩; exact ⟨rfl, Below.trans hx (hb.mono (Below.size hx))⟩)
  have CC : Hid (∀ wx, LaterT w1 wx → wx.cell? ⟨w.heap.size, 0, none⟩ = some (.int .i64 y) ∧ wx.cell? ⟨w.heap.size, 1, none⟩ = some (.int .i64 m) ∧ wx.cell? ⟨w.heap.size, 2, none⟩ = some (.int .i64 v) ∧ wx.cell? ⟨w.heap.size, 3, none⟩ = some (.int .i64 d) ∧ wx.cell? ⟨w.heap.size, 4, none⟩ = some (.int .i64 h) ∧ wx.cell? ⟨w.heap.size, 5, none⟩ = some (.int .i64 i) ∧ wx.cell? ⟨w.heap.size, 6, none⟩ = some (.int .i64 s)) := fun wx hx => by
    obtain ⟨a, b, c, d, e, f, g, _⟩ := (HX.out.later hx).facts
    exact ⟨a, b, c, d, e, f, g⟩
  have s0 : LaterT w1 w1.drew := (Below.refl _ _).drew
  clear M0 M1 M3 M4 M5 M6 HX
  obtain ⟨k0, k1, k2, k3, k4, k5, k6⟩ := CC.out w1 (Below.refl _ _)
  go_upto_region 6 with fail
  clear k0 k1 k2 k3 k4 k5 k6
  first | go_region_held (fun wx => LaterT w1 wx ∧ wx.cell? ⟨w.heap.size, 0, none⟩ = some (.int .i64 y) ∧ wx.cell? ⟨w.heap.size, 1, none⟩ = some (.int .i64 m) ∧ wx.cell? ⟨w.heap.size, 2, none⟩ = some (.int .i64 v) ∧ wx.cell? ⟨w.heap.size, 3, none⟩ = some (.int .i64 d) ∧ wx.cell? ⟨w.heap.size, 4, none⟩ = some (.int .i64 h) ∧ wx.cell? ⟨w.heap.size, 5, none⟩ = some (.int .i64 i) ∧ wx.cell? ⟨w.heap.size, 6, none⟩ = some (.int .i64 s)) (exact ⟨by assumption, CC.out _ (by assumption)⟩) (first
      | (go_at_call_of 28 (Value.int IntKind.i64 y); refine (N0.out _ (by assumption)).mono ?_; rintro e wa ⟨rfl, sa⟩)
      | (go_at_call_of 28 (Value.int IntKind.i64 m); refine (N1.out _ (by assumption)).mono ?_; rintro e wa ⟨rfl, sa⟩)
      | (go_at_call_of 28 (Value.int IntKind.i64 d); refine (N3.out _ (by assumption)).mono ?_; rintro e wa ⟨rfl, sa⟩)) | fail
  all_goals (go_upto_region 7 with fail)
  all_goals (have s1 := Below.drew sa)
  all_goals (have s1' : LaterT w1 _ := s1)
  all_goals (first | go_region_held (fun wx => LaterT w1 wx ∧ wx.cell? ⟨w.heap.size, 0, none⟩ = some (.int .i64 y) ∧ wx.cell? ⟨w.heap.size, 1, none⟩ = some (.int .i64 m) ∧ wx.cell? ⟨w.heap.size, 2, none⟩ = some (.int .i64 v) ∧ wx.cell? ⟨w.heap.size, 3, none⟩ = some (.int .i64 d) ∧ wx.cell? ⟨w.heap.size, 4, none⟩ = some (.int .i64 h) ∧ wx.cell? ⟨w.heap.size, 5, none⟩ = some (.int .i64 i) ∧ wx.cell? ⟨w.heap.size, 6, none⟩ = some (.int .i64 s)) (exact ⟨by assumption, CC.out _ (by assumption)⟩) (first
      | (go_at_call_of 28 (Value.int IntKind.i64 h); refine (N4.out _ (by assumption)).mono ?_; rintro e wa ⟨rfl, sa⟩)
      | (go_at_call_of 28 (Value.int IntKind.i64 i); refine (N5.out _ (by assumption)).mono ?_; rintro e wa ⟨rfl, sa⟩)
      | (go_at_call_of 28 (Value.int IntKind.i64 s); refine (N6.out _ (by assumption)).mono ?_; rintro e wa ⟨rfl, sa⟩)) | fail)
  all_goals (
    by_cases hc : clkL h i s = []
    · rw [decide_eq_true hc] at hCe
      by_cases hd : dayL y m v d = []
      · rw [decide_eq_true hd] at hDe
        have HL := hid (show psL (dayL y m v d) (clkL h i s) = [80, 84, 48, 83] by unfold psL; rw [if_neg (by simp [hc]), if_neg (by simp [hd])])
        clear hc hd
        go_wp2
        go_ret2
        exact ⟨⟨_, rfl, by rw [HL.out]⟩, hB1.trans (Below.mono sa hB1.size)⟩
      · rw [decide_eq_false hd] at hDe
        have HL := hid (show psL (dayL y m v d) (clkL h i s) = 80 :: dayL y m v d by unfold psL; rw [if_neg (by simp [hc]), if_pos hd])
        clear hc hd
        go_wp2
        go_ret2
        exact ⟨⟨_, rfl, by rw [HL.out, ba_app, LD.out]; rfl⟩, hB1.trans (Below.mono sa hB1.size)⟩
    · rw [decide_eq_false hc] at hCe
      have HL := hid (show psL (dayL y m v d) (clkL h i s) = 80 :: (dayL y m v d ++ 84 :: clkL h i s) by unfold psL; rw [if_pos hc])
      clear hc
      go_wp2
      go_ret2
      exact ⟨⟨_, rfl, by rw [HL.out, ba_app, ba_app, ba_app, LD.out, LC.out]; simp⟩, hB1.trans (Below.mono sa hB1.size)⟩)

theorem refPrintSpan_weeks (y m v d h i s : Int) (hf : FSx y m v d h i s) (hv0 : 0 < v) (w : World) :
    Calls Tryd.prog 11 #[sV y m v d h i s] w fun e w' => (∃ t : ByteArray, e = .returned (.tuple #[.string t, .int .i64 0]) ∧ t.data.toList = psL (dayL y m v d) (clkL h i s)) ∧ Below w.heap.size w w' := by
  have HS := hid (fun w => refFits_any y m v d h i s w)
  rw [decide_eq_true hf] at HS
  obtain ⟨⟨o0, o1, o2, o3, o4, o5, o6⟩, hz⟩ := hf
  obtain ⟨rfl, rfl, rfl, rfl, rfl, rfl⟩ := hz.resolve_left (by omega)
  obtain ⟨T2, l2, z2, e2⟩ := mkT v 87 o2
  have HM := hid (fun w => part_any v 87 o2 w)
  rw [e2] at HM
  have hne : mkL v 87 ≠ [] := by unfold mkL; rw [if_neg (by omega)]; simp
  have HL := hid (show psL (dayL 0 0 v 0) (clkL 0 0 0) = 80 :: T2.data.toList by
    have e1 : clkL 0 0 0 = [] := rfl
    have e2 : dayL 0 0 v 0 = mkL v 87 := by simp [dayL, mkL]
    unfold psL
    rw [e1, e2, if_neg (by simp), if_pos hne, l2])
  have zP : ((⟨#[80]⟩ : ByteArray) ++ T2).size ≤ 11 := by rw [ByteArray.size_append]; show 1 + T2.size ≤ 11; omega
  clear o0 o1 o2 o3 o4 o5 o6 hz l2 e2 hne
  unfold sV at *
  go_enter Tryd.func11, Tryd.ntmps11
  go_wp2_with fail
  refine (HS.out _).mono ?_
  rintro e w1 ⟨rfl, hb1⟩
  have HX := hid ((SBox.new w 0 0 v 0 0 0 0).later hb1)
  have hB1 : Below w.heap.size w w1 := ((Below.refl _ _).alloc (Nat.le_refl _) _).trans (hb1.mono (by simp))
  obtain ⟨k0, k1, k2, k3, k4, k5, k6, kz⟩ := HX.out.facts
  clear hb1 HS HX
  go_wp2_with fail
  refine (HM.out _).mono ?_
  rintro e w2 ⟨rfl, hb2⟩
  go_wp2
  go_ret2
  exact ⟨⟨_, rfl, by rw [HL.out, ba_app]; rfl⟩, hB1.trans (hb2.mono hB1.size)⟩
end Go.Proofs.YtjmainmidacmfaaDoor
