/-
  PrintSpan of a span that may be.
-/
import Derived.Test.YtjmainmidacmfaaDoorTells0
namespace Go.Proofs.YtjmainmidacmfaaDoor
open Go.RowKit
set_option maxRecDepth 100000

set_option maxHeartbeats 8000000 in
theorem printSpan_good (y m v d h i s : Int) (hf : FSx y m v d h i s) (w : World) (hT : HasPw w) :
    Calls Tryd.prog 9 #[sV y m v d h i s] w fun e w' => (∃ t : ByteArray, e = .returned (.tuple #[.string t, .int .i64 0]) ∧ t.data.toList = psL (dayL y m v d) (clkL h i s)) ∧ Below w.heap.size w w' := by
  have HS := hid (fun w => isSpan_any y m v d h i s w)
  rw [decide_eq_true hf] at HS
  have HM := hid (fun n c h w hT => marked_any n c h w hT)
  have HT := hid hT
  obtain ⟨⟨o0, o1, o2, o3, o4, o5, o6⟩, _⟩ := hf
  obtain ⟨T0, l0, z0, e0⟩ := mkT y 89 o0
  obtain ⟨T1, l1, z1, e1⟩ := mkT m 77 o1
  obtain ⟨T2, l2, z2, e2⟩ := mkT v 87 o2
  obtain ⟨T3, l3, z3, e3⟩ := mkT d 68 o3
  obtain ⟨T4, l4, z4, e4⟩ := mkT h 72 o4
  obtain ⟨T5, l5, z5, e5⟩ := mkT i 77 o5
  obtain ⟨T6, l6, z6, e6⟩ := mkT s 83 o6
  have M0 := hid (fun w hT => HM.out y 89 o0 w hT)
  have M1 := hid (fun w hT => HM.out m 77 o1 w hT)
  have M2 := hid (fun w hT => HM.out v 87 o2 w hT)
  have M3 := hid (fun w hT => HM.out d 68 o3 w hT)
  have M4 := hid (fun w hT => HM.out h 72 o4 w hT)
  have M5 := hid (fun w hT => HM.out i 77 o5 w hT)
  have M6 := hid (fun w hT => HM.out s 83 o6 w hT)
  rw [e0] at M0
  rw [e1] at M1
  rw [e2] at M2
  rw [e3] at M3
  rw [e4] at M4
  rw [e5] at M5
  rw [e6] at M6
  obtain ⟨D, eD⟩ : ∃ D, T0 ++ T1 ++ T2 ++ T3 = D := ⟨_, rfl⟩
  obtain ⟨C, eC⟩ : ∃ C, T4 ++ T5 ++ T6 = C := ⟨_, rfl⟩
  have zz1 : (T0 ++ T1).size ≤ 20 := by rw [ByteArray.size_append]; omega
  have zz2 : (T0 ++ T1 ++ T2).size ≤ 30 := by rw [ByteArray.size_append]; omega
  have zzD : D.size ≤ 40 := by rw [← eD, ByteArray.size_append]; omega
  have zz4 : (T4 ++ T5).size ≤ 20 := by rw [ByteArray.size_append]; omega
  have zzC : C.size ≤ 30 := by rw [← eC, ByteArray.size_append]; omega
  have LD := hid (show D.data.toList = dayL y m v d by rw [← eD, ba_app, ba_app, ba_app, l0, l1, l2, l3]; rfl)
  have LC := hid (show C.data.toList = clkL h i s by rw [← eC, ba_app, ba_app, l4, l5, l6]; rfl)
  clear e0 e1 e2 e3 e4 e5 e6 l0 l1 l2 l3 l4 l5 l6 HM hT
  have zP : ((⟨#[80]⟩ : ByteArray) ++ D).size ≤ 41 := by rw [ByteArray.size_append]; show 1 + D.size ≤ 41; omega
  have zPT : ((⟨#[80]⟩ : ByteArray) ++ D ++ (⟨#[84]⟩ : ByteArray)).size ≤ 42 := by rw [ByteArray.size_append]; show _ + 1 ≤ 42; omega
  have zPTC : ((⟨#[80]⟩ : ByteArray) ++ D ++ (⟨#[84]⟩ : ByteArray) ++ C).size ≤ 72 := by rw [ByteArray.size_append]; omega
  have nn0 : ¬ 9223372036854775807 < T0.size + T1.size := by omega
  have nn1 : ¬ 9223372036854775807 < T0.size + T1.size + T2.size := by omega
  have nn2 : ¬ 9223372036854775807 < T0.size + T1.size + T2.size + T3.size := by omega
  have nn3 : ¬ 9223372036854775807 < T4.size + T5.size := by omega
  have nn4 : ¬ 9223372036854775807 < T4.size + T5.size + T6.size := by omega
  have hCe := empty_ba C
  have hDe := empty_ba D
  rw [LC.out] at hCe
  rw [LD.out] at hDe
  have OK := hid (And.intro o0 (And.intro o1 (And.intro o2 (And.intro o3 (And.intro o4 (And.intro o5 o6))))))
  clear o0 o1 o2 o3 o4 o5 o6
  unfold sV at *
  go_enter Tryd.func9, Tryd.ntmps9
  go_wp2_with fail
  refine (HS.out _).mono ?_
  rintro e w1 ⟨rfl, hb1⟩
  have HX := hid ((SBox.new w y m v d h i s).later hb1)
  have HT1 := hid ((HT.out.alloc _).below hb1)
  have hB1 : Below w.heap.size w w1 := ((Below.refl _ _).alloc (Nat.le_refl _) _).trans (hb1.mono (by simp))
  clear hb1 HS HT
  have N0 : Hid (∀ wx, LaterT w1 wx → Calls Tryd.prog 24 #[.int .i64 y, .string ⟨#[89]⟩] wx fun e w' => e = .returned (.string T0) ∧ LaterT w1 w') := fun wx hx => (M0.out wx (HT1.out.below hx)).mono (by rintro e w' ⟨rfl, hb⟩; exact ⟨rfl, Below.trans hx (hb.mono (Below.size hx))⟩)
  have N1 : Hid (∀ wx, LaterT w1 wx → Calls Tryd.prog 24 #[.int .i64 m, .string ⟨#[77]⟩] wx fun e w' => e = .returned (.string T1) ∧ LaterT w1 w') := fun wx hx => (M1.out wx (HT1.out.below hx)).mono (by rintro e w' ⟨rfl, hb⟩; exact ⟨rfl, Below.trans hx (hb.mono (Below.size hx))⟩)
  have N2 : Hid (∀ wx, LaterT w1 wx → Calls Tryd.prog 24 #[.int .i64 v, .string ⟨#[87]⟩] wx fun e w' => e = .returned (.string T2) ∧ LaterT w1 w') := fun wx hx => (M2.out wx (HT1.out.below hx)).mono (by rintro e w' ⟨rfl, hb⟩; exact ⟨rfl, Below.trans hx (hb.mono (Below.size hx))⟩)
  have N3 : Hid (∀ wx, LaterT w1 wx → Calls Tryd.prog 24 #[.int .i64 d, .string ⟨#[68]⟩] wx fun e w' => e = .returned (.string T3) ∧ LaterT w1 w') := fun wx hx => (M3.out wx (HT1.out.below hx)).mono (by rintro e w' ⟨rfl, hb⟩; exact ⟨rfl, Below.trans hx (hb.mono (Below.size hx))⟩)
  have N4 : Hid (∀ wx, LaterT w1 wx → Calls Tryd.prog 24 #[.int .i64 h, .string ⟨#[72]⟩] wx fun e w' => e = .returned (.string T4) ∧ LaterT w1 w') := fun wx hx => (M4.out wx (HT1.out.below hx)).mono (by rintro e w' ⟨rfl, hb⟩; exact ⟨rfl, Below.trans hx (hb.mono (Below.size hx))⟩)
  have N5 : Hid (∀ wx, LaterT w1 wx → Calls Tryd.prog 24 #[.int .i64 i, .string ⟨#[77]⟩] wx fun e w' => e = .returned (.string T5) ∧ LaterT w1 w') := fun wx hx => (M5.out wx (HT1.out.below hx)).mono (by rintro e w' ⟨rfl, hb⟩; exact ⟨rfl, Below.trans hx (hb.mono (Below.size hx))⟩)
  have N6 : Hid (∀ wx, LaterT w1 wx → Calls Tryd.prog 24 #[.int .i64 s, .string ⟨#[83]⟩] wx fun e w' => e = .returned (.string T6) ∧ LaterT w1 w') := fun wx hx => (M6.out wx (HT1.out.below hx)).mono (by rintro e w' ⟨rfl, hb⟩; exact ⟨rfl, Below.trans hx (hb.mono (Below.size hx))⟩)
  have CC : Hid (∀ wx, LaterT w1 wx → wx.cell? ⟨w.heap.size, 0, none⟩ = some (.int .i64 y) ∧ wx.cell? ⟨w.heap.size, 1, none⟩ = some (.int .i64 m) ∧ wx.cell? ⟨w.heap.size, 2, none⟩ = some (.int .i64 v) ∧ wx.cell? ⟨w.heap.size, 3, none⟩ = some (.int .i64 d) ∧ wx.cell? ⟨w.heap.size, 4, none⟩ = some (.int .i64 h) ∧ wx.cell? ⟨w.heap.size, 5, none⟩ = some (.int .i64 i) ∧ wx.cell? ⟨w.heap.size, 6, none⟩ = some (.int .i64 s)) := fun wx hx => by
    obtain ⟨a, b, c, d, e, f, g, _⟩ := (HX.out.later hx).facts
    exact ⟨a, b, c, d, e, f, g⟩
  have s0 : LaterT w1 w1.drew := (Below.refl _ _).drew
  clear M0 M1 M2 M3 M4 M5 M6 HX HT1
  go_upto_region 3 with fail
  first | go_region_held (fun wx => LaterT w1 wx ∧ wx.cell? ⟨w.heap.size, 0, none⟩ = some (.int .i64 y) ∧ wx.cell? ⟨w.heap.size, 1, none⟩ = some (.int .i64 m) ∧ wx.cell? ⟨w.heap.size, 2, none⟩ = some (.int .i64 v) ∧ wx.cell? ⟨w.heap.size, 3, none⟩ = some (.int .i64 d) ∧ wx.cell? ⟨w.heap.size, 4, none⟩ = some (.int .i64 h) ∧ wx.cell? ⟨w.heap.size, 5, none⟩ = some (.int .i64 i) ∧ wx.cell? ⟨w.heap.size, 6, none⟩ = some (.int .i64 s)) (exact ⟨by assumption, CC.out _ (by assumption)⟩) (first
      | (go_at_call_of 24 (Value.int IntKind.i64 y); refine (N0.out _ (by assumption)).mono ?_; rintro e wa ⟨rfl, sa⟩)
      | (go_at_call_of 24 (Value.int IntKind.i64 m); refine (N1.out _ (by assumption)).mono ?_; rintro e wa ⟨rfl, sa⟩)
      | (go_at_call_of 24 (Value.int IntKind.i64 v); refine (N2.out _ (by assumption)).mono ?_; rintro e wa ⟨rfl, sa⟩)
      | (go_at_call_of 24 (Value.int IntKind.i64 d); refine (N3.out _ (by assumption)).mono ?_; rintro e wa ⟨rfl, sa⟩)) | fail
  all_goals (go_upto_region 4 with fail)
  all_goals (have s1 := Below.drew sa)
  all_goals (have s1' : LaterT w1 _ := s1)
  all_goals (first | go_region_held (fun wx => LaterT w1 wx ∧ wx.cell? ⟨w.heap.size, 0, none⟩ = some (.int .i64 y) ∧ wx.cell? ⟨w.heap.size, 1, none⟩ = some (.int .i64 m) ∧ wx.cell? ⟨w.heap.size, 2, none⟩ = some (.int .i64 v) ∧ wx.cell? ⟨w.heap.size, 3, none⟩ = some (.int .i64 d) ∧ wx.cell? ⟨w.heap.size, 4, none⟩ = some (.int .i64 h) ∧ wx.cell? ⟨w.heap.size, 5, none⟩ = some (.int .i64 i) ∧ wx.cell? ⟨w.heap.size, 6, none⟩ = some (.int .i64 s)) (exact ⟨by assumption, CC.out _ (by assumption)⟩) (first
      | (go_at_call_of 24 (Value.int IntKind.i64 h); refine (N4.out _ (by assumption)).mono ?_; rintro e wa ⟨rfl, sa⟩)
      | (go_at_call_of 24 (Value.int IntKind.i64 i); refine (N5.out _ (by assumption)).mono ?_; rintro e wa ⟨rfl, sa⟩)
      | (go_at_call_of 24 (Value.int IntKind.i64 s); refine (N6.out _ (by assumption)).mono ?_; rintro e wa ⟨rfl, sa⟩)) | fail)
  all_goals (
    by_cases hc : clkL h i s = []
    · rw [decide_eq_true hc] at hCe
      by_cases hd : dayL y m v d = []
      · rw [decide_eq_true hd] at hDe
        have HL := hid (show psL (dayL y m v d) (clkL h i s) = [80, 84, 48, 83] by unfold psL; rw [if_neg (by simp [hc]), if_neg (by simp [hd])])
        clear hc hd
        go_wp2
        go_ret2
        exact ⟨⟨_, rfl, by rw [HL.out]⟩, hB1.trans (Below.mono sa hB1.size)⟩
      · rw [decide_eq_false hd] at hDe
        have HL := hid (show psL (dayL y m v d) (clkL h i s) = 80 :: dayL y m v d by unfold psL; rw [if_neg (by simp [hc]), if_pos hd])
        clear hc hd
        go_wp2
        go_ret2
        exact ⟨⟨_, rfl, by rw [HL.out, ba_app, LD.out]; rfl⟩, hB1.trans (Below.mono sa hB1.size)⟩
    · rw [decide_eq_false hc] at hCe
      have HL := hid (show psL (dayL y m v d) (clkL h i s) = 80 :: (dayL y m v d ++ 84 :: clkL h i s) by unfold psL; rw [if_pos hc])
      clear hc
      go_wp2
      go_ret2
      exact ⟨⟨_, rfl, by rw [HL.out, ba_app, ba_app, ba_app, LD.out, LC.out]; simp⟩, hB1.trans (Below.mono sa hB1.size)⟩)
end Go.Proofs.YtjmainmidacmfaaDoor
