/-
  Tez: A span's numbers with their letters, and a span's text, beside the texts of days.
  TezP: PrintSpan of a span that may be.
  Spkz: A span's own text is read as the span: lists alone.
  Spkw: A span's own text is read as the span.
  Cu1: A span's text that is cut, or has a byte behind it: lists alone.
  Cu2: A day's text that is cut, or has a byte behind it.
  Cu3: An instant's text that is cut, or has a byte behind it.
  Cu4: CalCut: what its three kinds of texts answer, cut and with a byte behind them.
-/
import Derived.Test.YtjpglgemnaknhaaGreatDoorPdate
import Derived.Test.YtjpglgemnaknhaaGreatDoorCuS
import Derived.Test.YtjpglgemnaknhaaGreatDoorShelf
import Derived.Lib.AppendIntMem
import Derived.Test.YtjpglgemnaknhaaGreatDoorRnd1
import Derived.Test.YtjpglgemnaknhaaGreatDoorPd
import Derived.Test.YtjpglgemnaknhaaGreatDoorTm1
import Derived.Test.YtjpglgemnaknhaaGreatDoorTp3
import Derived.Test.YtjpglgemnaknhaaGreatDoorTk1
namespace Go.Proofs.YtjpglgemnaknhaaGreatDoor
open Go.RowKit
set_option maxRecDepth 100000

def mkL (n : Int) (c : UInt8) : List UInt8 := if n = 0 then [] else Lib.decDigits n.toNat ++ [c]

theorem nDig_le (n : Nat) (h : n ≤ 999999999) : Lib.nDigits n ≤ 9 := by
  rcases Nat.lt_or_ge 9 (Lib.nDigits n) with h9 | h9
  · exfalso
    have key : ∀ u : Nat, 10 ^ (Lib.nDigits u - 1) ≤ u ∨ u = 0 := by
      intro u
      induction u using Nat.strongRecOn with
      | _ u ih =>
        by_cases hu : u < 10
        · rw [Lib.nDigits_small hu]
          simp
          omega
        · rw [Lib.nDigits_big hu]
          have := ih (u / 10) (by omega)
          have hp := Lib.nDigits_pos (u / 10)
          rcases this with h1 | h1
          · refine .inl ?_
            have e : Lib.nDigits (u / 10) + 1 - 1 = (Lib.nDigits (u / 10) - 1) + 1 := by omega
            rw [e, Nat.pow_succ]
            omega
          · omega
    have hk := key n
    have hm : 10 ^ 9 ≤ 10 ^ (Lib.nDigits n - 1) := Nat.pow_le_pow_right (by omega) (by omega)
    have h0 : Lib.nDigits 0 = 1 := Lib.nDigits_small (by omega)
    rcases hk with hk | hk
    · have : (10 : Nat) ^ 9 = 1000000000 := by decide
      omega
    · rw [hk, h0] at h9
      omega
  · exact h9

theorem mkL_ok {n : Int} {c : UInt8} (h : n ≠ 0) : (⟨(Lib.decDigits n.toNat).toArray⟩ ++ (⟨#[c]⟩ : ByteArray) : ByteArray) = ⟨(mkL n c).toArray⟩ := by
  apply ba_ext
  rw [ByteArray.data_append, Array.toList_append]
  unfold mkL
  rw [if_neg h]

theorem marked_any (n : Int) (c : UInt8) (h0 : okN n) (w : World) (hT : HasPw w) :
    Calls Tryz.prog 30 #[.int .i64 n, .string ⟨#[c]⟩] w fun e w' => e = .returned (.string ⟨(mkL n c).toArray⟩) ∧ Below w.heap.size w w' := by
  unfold okN at h0
  by_cases hn : n = 0
  · subst hn
    go_enter Tryz.func30, Tryz.ntmps30
    go_wp2
    go_ret
    exact ⟨rfl, Below.refl _ _⟩
  · have hi : Lib.itoa n = Lib.decDigits n.toNat := by unfold Lib.itoa; rw [if_neg (by omega)]
    have HI := hid (Tryz.strconv_Itoa n (by omega) (by omega) w hT)
    rw [hi] at HI
    have HM := hid (mkL_ok (c := c) hn)
    have hb : (n == 0) = false := by simp [hn]
    have hd := nDig_le n.toNat (by omega)
    have hqs : (⟨(Lib.decDigits n.toNat).toArray⟩ : ByteArray).size ≤ 9 := by
      rw [← len_ba]; show (Lib.decDigits n.toNat).toArray.toList.length ≤ 9; rw [List.toList_toArray, Lib.decDigits_length]; exact hd
    generalize (⟨(Lib.decDigits n.toNat).toArray⟩ : ByteArray) = q at *
    have hsn : (q ++ (⟨#[c]⟩ : ByteArray)).size = q.size + 1 := by rw [ByteArray.size_append]; rfl
    clear hi hT hd
    go_enter Tryz.func30, Tryz.ntmps30
    go_wp2_with fail
    refine Calls.mono HI.out ?_
    rintro e w' ⟨rfl, k, os, rfl⟩
    go_wp2
    go_ret
    exact ⟨congrArg (fun x => Ending.returned (.string x)) HM.out, Lib.below_grow _ w (Nat.le_refl _) k os⟩

def LaterT (w w' : World) : Prop := Below w.heap.size w w'

/-- a span's text, out of its days' and its clock's -/
def psL (D C : List UInt8) : List UInt8 := if C ≠ [] then 80 :: (D ++ 84 :: C) else if D ≠ [] then 80 :: D else [80, 84, 48, 83]
def dayL (y m v d : Int) : List UInt8 := mkL y 89 ++ mkL m 77 ++ mkL v 87 ++ mkL d 68
def clkL (h i s : Int) : List UInt8 := mkL h 72 ++ mkL i 77 ++ mkL s 83

theorem mkL_len (n : Int) (c : UInt8) (h : okN n) : (mkL n c).length ≤ 10 := by
  unfold mkL
  unfold okN at h
  split
  · exact Nat.zero_le _
  · have := nDig_le n.toNat (by omega)
    rw [List.length_append, Lib.decDigits_length]
    show _ + 1 ≤ 10
    omega

/-- a number's text -/
theorem mkT (n : Int) (c : UInt8) (h : okN n) : ∃ T : ByteArray, T.data.toList = mkL n c ∧ T.size ≤ 10 ∧ (⟨(mkL n c).toArray⟩ : ByteArray) = T := by
  refine ⟨⟨(mkL n c).toArray⟩, by show (mkL n c).toArray.toList = _; rw [List.toList_toArray], ?_, rfl⟩
  rw [← len_ba]
  show (mkL n c).toArray.toList.length ≤ 10
  rw [List.toList_toArray]
  exact mkL_len n c h

theorem empty_ba (C : ByteArray) : C.toList.isEmpty = decide (C.data.toList = []) := by
  rw [ByteArray.toList_eq]
  cases h : C.data.toList with
  | nil => rfl
  | cons a l => rfl

end Go.Proofs.YtjpglgemnaknhaaGreatDoor

namespace Go.Proofs.YtjpglgemnaknhaaGreatDoor
open Go.RowKit
set_option maxRecDepth 100000

set_option maxHeartbeats 8000000 in
theorem printSpan_good (y m v d h i s : Int) (hf : FSx y m v d h i s) (w : World) (hT : HasPw w) :
    Calls Tryz.prog 10 #[sV y m v d h i s] w fun e w' => (∃ t : ByteArray, e = .returned (.tuple #[.string t, .int .i64 0]) ∧ t.data.toList = psL (dayL y m v d) (clkL h i s)) ∧ Below w.heap.size w w' := by
  have HS := hid (fun w => isSpan_any y m v d h i s w)
  rw [decide_eq_true hf] at HS
  have HM := hid (fun n c h w hT => marked_any n c h w hT)
  have HT := hid hT
  obtain ⟨⟨o0, o1, o2, o3, o4, o5, o6⟩, _⟩ := hf
  obtain ⟨T0, l0, z0, e0⟩ := mkT y 89 o0
  obtain ⟨T1, l1, z1, e1⟩ := mkT m 77 o1
  obtain ⟨T2, l2, z2, e2⟩ := mkT v 87 o2
  obtain ⟨T3, l3, z3, e3⟩ := mkT d 68 o3
  obtain ⟨T4, l4, z4, e4⟩ := mkT h 72 o4
  obtain ⟨T5, l5, z5, e5⟩ := mkT i 77 o5
  obtain ⟨T6, l6, z6, e6⟩ := mkT s 83 o6
  have M0 := hid (fun w hT => HM.out y 89 o0 w hT)
  have M1 := hid (fun w hT => HM.out m 77 o1 w hT)
  have M2 := hid (fun w hT => HM.out v 87 o2 w hT)
  have M3 := hid (fun w hT => HM.out d 68 o3 w hT)
  have M4 := hid (fun w hT => HM.out h 72 o4 w hT)
  have M5 := hid (fun w hT => HM.out i 77 o5 w hT)
  have M6 := hid (fun w hT => HM.out s 83 o6 w hT)
  rw [e0] at M0
  rw [e1] at M1
  rw [e2] at M2
  rw [e3] at M3
  rw [e4] at M4
  rw [e5] at M5
  rw [e6] at M6
  obtain ⟨D, eD⟩ : ∃ D, T0 ++ T1 ++ T2 ++ T3 = D := ⟨_, rfl⟩
  obtain ⟨C, eC⟩ : ∃ C, T4 ++ T5 ++ T6 = C := ⟨_, rfl⟩
  have zz1 : (T0 ++ T1).size ≤ 20 := by rw [ByteArray.size_append]; omega
  have zz2 : (T0 ++ T1 ++ T2).size ≤ 30 := by rw [ByteArray.size_append]; omega
  have zzD : D.size ≤ 40 := by rw [← eD, ByteArray.size_append]; omega
  have zz4 : (T4 ++ T5).size ≤ 20 := by rw [ByteArray.size_append]; omega
  have zzC : C.size ≤ 30 := by rw [← eC, ByteArray.size_append]; omega
  have LD := hid (show D.data.toList = dayL y m v d by rw [← eD, ba_app, ba_app, ba_app, l0, l1, l2, l3]; rfl)
  have LC := hid (show C.data.toList = clkL h i s by rw [← eC, ba_app, ba_app, l4, l5, l6]; rfl)
  clear e0 e1 e2 e3 e4 e5 e6 l0 l1 l2 l3 l4 l5 l6 HM hT
  have zP : ((⟨#[80]⟩ : ByteArray) ++ D).size ≤ 41 := by rw [ByteArray.size_append]; show 1 + D.size ≤ 41; omega
  have zPT : ((⟨#[80]⟩ : ByteArray) ++ D ++ (⟨#[84]⟩ : ByteArray)).size ≤ 42 := by rw [ByteArray.size_append]; show _ + 1 ≤ 42; omega
  have zPTC : ((⟨#[80]⟩ : ByteArray) ++ D ++ (⟨#[84]⟩ : ByteArray) ++ C).size ≤ 72 := by rw [ByteArray.size_append]; omega
  have nn0 : ¬ 9223372036854775807 < T0.size + T1.size := by omega
  have nn1 : ¬ 9223372036854775807 < T0.size + T1.size + T2.size := by omega
  have nn2 : ¬ 9223372036854775807 < T0.size + T1.size + T2.size + T3.size := by omega
  have nn3 : ¬ 9223372036854775807 < T4.size + T5.size := by omega
  have nn4 : ¬ 9223372036854775807 < T4.size + T5.size + T6.size := by omega
  have hCe := empty_ba C
  have hDe := empty_ba D
  rw [LC.out] at hCe
  rw [LD.out] at hDe
  have OK := hid (And.intro o0 (And.intro o1 (And.intro o2 (And.intro o3 (And.intro o4 (And.intro o5 o6))))))
  clear o0 o1 o2 o3 o4 o5 o6
  unfold sV at *
  go_enter Tryz.func10, Tryz.ntmps10
  go_wp2_with fail
  refine (HS.out _).mono ?_
  rintro e w1 ⟨rfl, hb1⟩
  have HX := hid ((SBox.new w y m v d h i s).later hb1)
  have HT1 := hid ((HT.out.alloc _).below hb1)
  have hB1 : Below w.heap.size w w1 := ((Below.refl _ _).alloc (Nat.le_refl _) _).trans (hb1.mono (by simp))
  clear hb1 HS HT
  have N0 : Hid (∀ wx, LaterT w1 wx → Calls Tryz.prog 30 #[.int .i64 y, .string ⟨#[89]⟩] wx fun e w' => e = .returned (.string T0) ∧ LaterT w1 w') := fun wx hx => (M0.out wx (HT1.out.below hx)).mono (by rintro e w' ⟨rfl, hb⟩; exact ⟨rfl, Below.trans hx (hb.mono (Below.size hx))⟩)
  have N1 : Hid (∀ wx, LaterT w1 wx → Calls Tryz.prog 30 #[.int .i64 m, .string ⟨#[77]⟩] wx fun e w' => e = .returned (.string T1) ∧ LaterT w1 w') := fun wx hx => (M1.out wx (HT1.out.below hx)).mono (by rintro e w' ⟨rfl, hb⟩; exact ⟨rfl, Below.trans hx (hb.mono (Below.size hx))⟩)
  have N2 : Hid (∀ wx, LaterT w1 wx → Calls Tryz.prog 30 #[.int .i64 v, .string ⟨#[87]⟩] wx fun e w' => e = .returned (.string T2) ∧ LaterT w1 w') := fun wx hx => (M2.out wx (HT1.out.below hx)).mono (by rintro e w' ⟨rfl, hb⟩; exact ⟨rfl, Below.trans hx (hb.mono (Below.size hx))⟩)
  have N3 : Hid (∀ wx, LaterT w1 wx → Calls Tryz.prog 30 #[.int .i64 d, .string ⟨#[68]⟩] wx fun e w' => e = .returned (.string T3) ∧ LaterT w1 w') := fun wx hx => (M3.out wx (HT1.out.below hx)).mono (by rintro e w' ⟨rfl, hb⟩; exact ⟨rfl, Below.trans hx (hb.mono (Below.size hx))⟩)
  have N4 : Hid (∀ wx, LaterT w1 wx → Calls Tryz.prog 30 #[.int .i64 h, .string ⟨#[72]⟩] wx fun e w' => e = .returned (.string T4) ∧ LaterT w1 w') := fun wx hx => (M4.out wx (HT1.out.below hx)).mono (by rintro e w' ⟨rfl, hb⟩; exact ⟨rfl, Below.trans hx (hb.mono (Below.size hx))⟩)
  have N5 : Hid (∀ wx, LaterT w1 wx → Calls Tryz.prog 30 #[.int .i64 i, .string ⟨#[77]⟩] wx fun e w' => e = .returned (.string T5) ∧ LaterT w1 w') := fun wx hx => (M5.out wx (HT1.out.below hx)).mono (by rintro e w' ⟨rfl, hb⟩; exact ⟨rfl, Below.trans hx (hb.mono (Below.size hx))⟩)
  have N6 : Hid (∀ wx, LaterT w1 wx → Calls Tryz.prog 30 #[.int .i64 s, .string ⟨#[83]⟩] wx fun e w' => e = .returned (.string T6) ∧ LaterT w1 w') := fun wx hx => (M6.out wx (HT1.out.below hx)).mono (by rintro e w' ⟨rfl, hb⟩; exact ⟨rfl, Below.trans hx (hb.mono (Below.size hx))⟩)
  have CC : Hid (∀ wx, LaterT w1 wx → wx.cell? ⟨w.heap.size, 0, none⟩ = some (.int .i64 y) ∧ wx.cell? ⟨w.heap.size, 1, none⟩ = some (.int .i64 m) ∧ wx.cell? ⟨w.heap.size, 2, none⟩ = some (.int .i64 v) ∧ wx.cell? ⟨w.heap.size, 3, none⟩ = some (.int .i64 d) ∧ wx.cell? ⟨w.heap.size, 4, none⟩ = some (.int .i64 h) ∧ wx.cell? ⟨w.heap.size, 5, none⟩ = some (.int .i64 i) ∧ wx.cell? ⟨w.heap.size, 6, none⟩ = some (.int .i64 s)) := fun wx hx => by
    obtain ⟨a, b, c, d, e, f, g, _⟩ := (HX.out.later hx).facts
    exact ⟨a, b, c, d, e, f, g⟩
  have s0 : LaterT w1 w1.drew := (Below.refl _ _).drew
  clear M0 M1 M2 M3 M4 M5 M6 HX HT1
  go_upto_region 3 with fail
  first | go_region_held (fun wx => LaterT w1 wx ∧ wx.cell? ⟨w.heap.size, 0, none⟩ = some (.int .i64 y) ∧ wx.cell? ⟨w.heap.size, 1, none⟩ = some (.int .i64 m) ∧ wx.cell? ⟨w.heap.size, 2, none⟩ = some (.int .i64 v) ∧ wx.cell? ⟨w.heap.size, 3, none⟩ = some (.int .i64 d) ∧ wx.cell? ⟨w.heap.size, 4, none⟩ = some (.int .i64 h) ∧ wx.cell? ⟨w.heap.size, 5, none⟩ = some (.int .i64 i) ∧ wx.cell? ⟨w.heap.size, 6, none⟩ = some (.int .i64 s)) (exact ⟨by assumption, CC.out _ (by assumption)⟩) (first
      | (go_at_call_of 30 (Value.int IntKind.i64 y); refine (N0.out _ (by assumption)).mono ?_; rintro e wa ⟨rfl, sa⟩)
      | (go_at_call_of 30 (Value.int IntKind.i64 m); refine (N1.out _ (by assumption)).mono ?_; rintro e wa ⟨rfl, sa⟩)
      | (go_at_call_of 30 (Value.int IntKind.i64 v); refine (N2.out _ (by assumption)).mono ?_; rintro e wa ⟨rfl, sa⟩)
      | (go_at_call_of 30 (Value.int IntKind.i64 d); refine (N3.out _ (by assumption)).mono ?_; rintro e wa ⟨rfl, sa⟩)) | fail
  all_goals (go_upto_region 4 with fail)
  all_goals (have s1 := Below.drew sa)
  all_goals (have s1' : LaterT w1 _ := s1)
  all_goals (first | go_region_held (fun wx => LaterT w1 wx ∧ wx.cell? ⟨w.heap.size, 0, none⟩ = some (.int .i64 y) ∧ wx.cell? ⟨w.heap.size, 1, none⟩ = some (.int .i64 m) ∧ wx.cell? ⟨w.heap.size, 2, none⟩ = some (.int .i64 v) ∧ wx.cell? ⟨w.heap.size, 3, none⟩ = some (.int .i64 d) ∧ wx.cell? ⟨w.heap.size, 4, none⟩ = some (.int .i64 h) ∧ wx.cell? ⟨w.heap.size, 5, none⟩ = some (.int .i64 i) ∧ wx.cell? ⟨w.heap.size, 6, none⟩ = some (.int .i64 s)) (exact ⟨by assumption, CC.out _ (by assumption)⟩) (first
      | (go_at_call_of 30 (Value.int IntKind.i64 h); refine (N4.out _ (by assumption)).mono ?_; rintro e wa ⟨rfl, sa⟩)
      | (go_at_call_of 30 (Value.int IntKind.i64 i); refine (N5.out _ (by assumption)).mono ?_; rintro e wa ⟨rfl, sa⟩)
      | (go_at_call_of 30 (Value.int IntKind.i64 s); refine (N6.out _ (by assumption)).mono ?_; rintro e wa ⟨rfl, sa⟩)) | fail)
  all_goals (
    by_cases hc : clkL h i s = []
    · rw [decide_eq_true hc] at hCe
      by_cases hd : dayL y m v d = []
      · rw [decide_eq_true hd] at hDe
        have HL := hid (show psL (dayL y m v d) (clkL h i s) = [80, 84, 48, 83] by unfold psL; rw [if_neg (by simp [hc]), if_neg (by simp [hd])])
        clear hc hd
        go_wp2
        go_ret2
        exact ⟨⟨_, rfl, by rw [HL.out]⟩, hB1.trans (Below.mono sa hB1.size)⟩
      · rw [decide_eq_false hd] at hDe
        have HL := hid (show psL (dayL y m v d) (clkL h i s) = 80 :: dayL y m v d by unfold psL; rw [if_neg (by simp [hc]), if_pos hd])
        clear hc hd
        go_wp2
        go_ret2
        exact ⟨⟨_, rfl, by rw [HL.out, ba_app, LD.out]; rfl⟩, hB1.trans (Below.mono sa hB1.size)⟩
    · rw [decide_eq_false hc] at hCe
      have HL := hid (show psL (dayL y m v d) (clkL h i s) = 80 :: (dayL y m v d ++ 84 :: clkL h i s) by unfold psL; rw [if_pos hc])
      clear hc
      go_wp2
      go_ret2
      exact ⟨⟨_, rfl, by rw [HL.out, ba_app, ba_app, ba_app, LD.out, LC.out]; simp⟩, hB1.trans (Below.mono sa hB1.size)⟩)
end Go.Proofs.YtjpglgemnaknhaaGreatDoor

namespace Go.Proofs.YtjpglgemnaknhaaGreatDoor
open Go.RowKit

theorem dec_ne (n : Nat) : 1 ≤ (Lib.decDigits n).length := by
  by_cases h : 10 ≤ n
  · rw [dec_big n h]; simp
  · rw [dec_small n (by omega)]; simp

theorem drop_len (t : List UInt8) (a : Nat) (x r : List UInt8) (h : t.drop a = x ++ r) (ha : a ≤ t.length) : a + x.length ≤ t.length ∧ t.drop (a + x.length) = r := by
  have hl := congrArg List.length h
  rw [List.length_drop, List.length_append] at hl
  refine ⟨by omega, ?_⟩
  rw [← List.drop_drop, h, List.drop_left]
theorem drop_at (t : List UInt8) (a : Nat) (c : UInt8) (r : List UInt8) (h : t.drop a = c :: r) : bt t a = c ∧ a < t.length := by
  have hl : a < t.length := by
    have := congrArg List.length h
    rw [List.length_drop, List.length_cons] at this
    omega
  refine ⟨?_, hl⟩
  unfold bt
  rw [List.getD_eq_getElem?_getD, List.getElem?_eq_getElem hl]
  have h2 := List.drop_eq_getElem_cons hl
  rw [h] at h2
  exact (List.cons.inj h2).1.symm

/-- one number and its letter -/
theorem part_go (t : List UInt8) (f a nx en j : Nat) (s : List Int) (n : Int) (c : UInt8) (r : List UInt8) (ha : a ≤ t.length) (h : t.drop a = mkL n c ++ r) (hn : okN n) (h0 : n ≠ 0) (hc : isDB c = false) (hne : nx ≠ en) (hj : nx ≤ j) (hz : slt nx en c = ((j - nx : Nat) : Int)) :
    ∃ a', a' ≤ t.length ∧ t.drop a' = r ∧ a < a' ∧ spF t (f + 1) a nx en s = spF t f a' (if c = 87 then 7 else j + 1) (if c = 87 then 7 else en) (s.set (fld j) n) := by
  have hk : mkL n c = Lib.decDigits n.toNat ++ [c] := by unfold mkL; rw [if_neg h0]
  rw [hk, List.append_assoc] at h
  have hd := dec_dig n.toNat
  have hnm := dec_nm n.toNat
  have hlen := dec_ne n.toNat
  have hl9 : (Lib.decDigits n.toNat).length ≤ 9 := by rw [Lib.decDigits_length]; exact nDig_le n.toNat (by unfold okN at hn; omega)
  generalize Lib.decDigits n.toNat = l at *
  obtain ⟨h1, h2⟩ := drop_len t a l ([c] ++ r) h ha
  obtain ⟨h3, h4⟩ := drop_at t (a + l.length) c r h2
  have hdg : dga (t.drop a) 9 = l.length := by
    rw [h]
    refine dga_at _ _ _ hl9 (by simp) (fun q hq hh => ?_) (.inr (.inr ⟨by simp, by simpa using hc⟩))
    rw [List.getElem_append_left hq]
    exact hd _ (List.getElem_mem hq)
  have hsub : sub t a l.length = l := by unfold sub; rw [h, List.take_left]
  have h84 : ¬ (bt t a = 84 ∧ en = 4) := by
    intro q
    match l, hlen, h, hd with
    | x :: l', _, h, hd =>
      have hx := (drop_at t a x (l' ++ ([c] ++ r)) h).1
      have hxd := hd x (by simp)
      rw [hx] at q
      rw [q.1] at hxd
      revert hxd
      decide
  have h5 := drop_len t (a + l.length) [c] r h2 (by omega)
  refine ⟨a + l.length + 1, by omega, h5.2, by omega, ?_⟩
  rw [spF_go (by omega) h84 hne (by rw [hdg]; omega) (by rw [hdg, h3, hz]; omega), hdg, h3, hz, hsub, hnm]
  have e1 : nx + (((j - nx : Nat) : Int)).toNat = j := by omega
  rw [e1]
  have e2 : ((n.toNat : Nat) : Int) = n := by unfold okN at hn; omega
  rw [e2]

/-- a part that may be missing: the state behind it -/
theorem part_any' (t : List UInt8) (f a nx en j : Nat) (s : List Int) (n : Int) (c : UInt8) (r : List UInt8) (ha : a ≤ t.length) (h : t.drop a = mkL n c ++ r) (hn : okN n) (hc : isDB c = false) (hW : c ≠ 87) (hne : nx ≠ en) (hj : nx ≤ j) (hz : slt nx en c = ((j - nx : Nat) : Int)) (hs : s.getD (fld j) 0 = 0) (hf : t.length ≤ a + f) :
    ∃ a' f' nx', a' ≤ t.length ∧ t.drop a' = r ∧ t.length ≤ a' + f' ∧ (nx' = nx ∨ nx' = j + 1) ∧ spF t f a nx en s = spF t f' a' nx' en (s.set (fld j) n) := by
  by_cases h0 : n = 0
  · subst h0
    have hk : mkL 0 c = [] := by unfold mkL; rw [if_pos rfl]
    rw [hk, List.nil_append] at h
    refine ⟨a, f, nx, ha, h, hf, .inl rfl, ?_⟩
    congr 1
    by_cases hl : fld j < s.length
    · have : s[fld j] = 0 := by rw [List.getD_eq_getElem?_getD, List.getElem?_eq_getElem hl] at hs; exact hs
      rw [← this, List.set_getElem_self]
    · rw [List.set_eq_of_length_le (by omega)]
  · have hlt : a < t.length := by
      have := congrArg List.length h
      have hk : mkL n c = Lib.decDigits n.toNat ++ [c] := by unfold mkL; rw [if_neg h0]
      rw [hk, List.length_drop] at this
      simp at this
      omega
    obtain ⟨f', rfl⟩ : ∃ f', f = f' + 1 := ⟨f - 1, by omega⟩
    obtain ⟨a', h1, h2, h3, h4⟩ := part_go t f' a nx en j s n c r ha h hn h0 hc hne hj hz
    rw [if_neg hW, if_neg hW] at h4
    exact ⟨a', f', j + 1, h1, h2, by omega, .inr rfl, h4⟩
end Go.Proofs.YtjpglgemnaknhaaGreatDoor

namespace Go.Proofs.YtjpglgemnaknhaaGreatDoor
open Go.RowKit

theorem days_go (t : List UInt8) (f : Nat) (y m d : Int) (r : List UInt8) (ha : 1 ≤ t.length) (h : t.drop 1 = mkL y 89 ++ (mkL m 77 ++ (mkL d 68 ++ r))) (hy : okN y) (hm : okN m) (hd : okN d) (hf : t.length ≤ 1 + f) :
    ∃ a' f' nx', a' ≤ t.length ∧ t.drop a' = r ∧ t.length ≤ a' + f' ∧ spF t f 1 0 4 zs7 = spF t f' a' nx' 4 [y, m, 0, d, 0, 0, 0] := by
  obtain ⟨a1, f1, n1, h1, h2, h3, h4, h5⟩ := part_any' t f 1 0 4 1 zs7 y 89 _ ha h hy (by decide) (by decide) (by decide) (by decide) (by decide) (by decide) hf
  have z2 : slt n1 4 77 = ((2 - n1 : Nat) : Int) := by rcases h4 with rfl | rfl <;> decide
  obtain ⟨a2, f2, n2, g1, g2, g3, g4, g5⟩ := part_any' t f1 a1 n1 4 2 (zs7.set (fld 1) y) m 77 _ h1 h2 hm (by decide) (by decide) (by omega) (by omega) z2 rfl h3
  have hn2 : n2 = 0 ∨ n2 = 2 ∨ n2 = 3 := by omega
  have z3 : slt n2 4 68 = ((3 - n2 : Nat) : Int) := by rcases hn2 with rfl | rfl | rfl <;> decide
  obtain ⟨a3, f3, n3, k1, k2, k3, k4, k5⟩ := part_any' t f2 a2 n2 4 3 ((zs7.set (fld 1) y).set (fld 2) m) d 68 r g1 g2 hd (by decide) (by decide) (by omega) (by omega) z3 rfl g3
  exact ⟨a3, f3, n3, k1, k2, k3, by rw [h5, g5, k5]; rfl⟩

theorem clock_go (t : List UInt8) (f a nx : Nat) (y m d h i s : Int) (ha : a ≤ t.length) (hh : t.drop a = 84 :: (mkL h 72 ++ (mkL i 77 ++ (mkL s 83 ++ [])))) (h1 : okN h) (h2 : okN i) (h3 : okN s) (hf : t.length ≤ a + f) :
    spF t f a nx 4 [y, m, 0, d, 0, 0, 0] = ([y, m, 0, d, h, i, s], t.length) := by
  obtain ⟨hb, hl⟩ := drop_at t a 84 _ hh
  obtain ⟨f', rfl⟩ : ∃ f', f = f' + 1 := ⟨f - 1, by omega⟩
  rw [spF_T hl ⟨hb, rfl⟩]
  have hd := (drop_len t a [84] _ hh ha).2
  obtain ⟨a1, f1, n1, e1, e2, e3, e4, e5⟩ := part_any' t f' (a + 1) 4 7 4 [y, m, 0, d, 0, 0, 0] h 72 _ (by omega) hd h1 (by decide) (by decide) (by decide) (by decide) (by decide) rfl (by omega)
  have hn1 : n1 = 4 ∨ n1 = 5 := by omega
  have z2 : slt n1 7 77 = ((5 - n1 : Nat) : Int) := by rcases hn1 with rfl | rfl <;> decide
  obtain ⟨a2, f2, n2, g1, g2, g3, g4, g5⟩ := part_any' t f1 a1 n1 7 5 ([y, m, 0, d, 0, 0, 0].set (fld 4) h) i 77 _ e1 e2 h2 (by decide) (by decide) (by omega) (by omega) z2 rfl e3
  have hn2 : n2 = 4 ∨ n2 = 5 ∨ n2 = 6 := by omega
  have z3 : slt n2 7 83 = ((6 - n2 : Nat) : Int) := by rcases hn2 with rfl | rfl | rfl <;> decide
  obtain ⟨a3, f3, n3, k1, k2, k3, k4, k5⟩ := part_any' t f2 a2 n2 7 6 (([y, m, 0, d, 0, 0, 0].set (fld 4) h).set (fld 5) i) s 83 [] g1 g2 h3 (by decide) (by decide) (by omega) (by omega) z3 rfl g3
  have ha3 : a3 = t.length := by
    have := congrArg List.length k2
    rw [List.length_drop] at this
    simp at this
    omega
  rw [e5, g5, k5, spF_end (by omega), ha3]
  rfl

theorem mkL_nil (n : Int) (c : UInt8) : mkL n c = [] ↔ n = 0 := by
  unfold mkL
  by_cases h : n = 0
  · simp [h]
  · simp [h]

/-- it ends with a letter, if there is something -/
def EM (l : List UInt8) : Prop := l = [] ∨ ∃ x c, l = x ++ [c] ∧ c ∈ mrk
theorem EM.app {a b : List UInt8} (ha : EM a) (hb : EM b) : EM (a ++ b) := by
  rcases hb with rfl | ⟨x, c, rfl, hc⟩
  · rw [List.append_nil]; exact ha
  · exact .inr ⟨a ++ x, c, by rw [List.append_assoc], hc⟩
theorem EM.mk (n : Int) (c : UInt8) (hc : c ∈ mrk) : EM (mkL n c) := by
  by_cases h : n = 0
  · exact .inl ((mkL_nil n c).2 h)
  · exact .inr ⟨Lib.decDigits n.toNat, c, by unfold mkL; rw [if_neg h], hc⟩
theorem EM.last {l : List UInt8} (h : EM l) (hl : l ≠ []) (x : List UInt8) : bt (x ++ l) ((x ++ l).length - 1) ∈ mrk := by
  rcases h with h | ⟨y, c, rfl, hc⟩
  · exact absurd h hl
  · unfold bt
    have e : (x ++ (y ++ [c])).length - 1 = (x ++ y).length := by simp
    rw [e, ← List.append_assoc, List.getD_eq_getElem?_getD, List.getElem?_append_right (Nat.le_refl _)]
    simpa using hc

theorem spR_P (t : List UInt8) (r : List UInt8) (h : t = 80 :: r) : spR t = spF t 64 1 0 4 zs7 := by
  subst h
  unfold spR
  rw [if_pos ⟨rfl, by simp⟩]

theorem spk (y m v d h i s : Int) (hf : FSx y m v d h i s) (T : List UInt8) (hT : T = psL (dayL y m v d) (clkL h i s)) : spR T = ([y, m, v, d, h, i, s], T.length) ∧ bt T (T.length - 1) ∈ mrk ∧ T.length ≤ 64 ∧ 0 < T.length := by
  obtain ⟨⟨o0, o1, o2, o3, o4, o5, o6⟩, hw⟩ := hf
  have l0 := mkL_len y 89 o0
  have l1 := mkL_len m 77 o1
  have l2 := mkL_len v 87 o2
  have l3 := mkL_len d 68 o3
  have l4 := mkL_len h 72 o4
  have l5 := mkL_len i 77 o5
  have l6 := mkL_len s 83 o6
  have m89 : (89 : UInt8) ∈ mrk := by decide
  have m77 : (77 : UInt8) ∈ mrk := by decide
  have m87 : (87 : UInt8) ∈ mrk := by decide
  have m68 : (68 : UInt8) ∈ mrk := by decide
  have m72 : (72 : UInt8) ∈ mrk := by decide
  have m83 : (83 : UInt8) ∈ mrk := by decide
  by_cases hv : v = 0
  · subst hv
    have eD : dayL y m 0 d = mkL y 89 ++ (mkL m 77 ++ (mkL d 68 ++ [])) := by
      unfold dayL
      rw [(mkL_nil 0 87).2 rfl]
      simp
    have eC : clkL h i s = mkL h 72 ++ (mkL i 77 ++ (mkL s 83 ++ [])) := by unfold clkL; simp
    have EC : EM (clkL h i s) := by unfold clkL; exact ((EM.mk h 72 m72).app (EM.mk i 77 m77)).app (EM.mk s 83 m83)
    have ED : EM (dayL y m 0 d) := by unfold dayL; exact (((EM.mk y 89 m89).app (EM.mk m 77 m77)).app (EM.mk 0 87 m87)).app (EM.mk d 68 m68)
    by_cases hC : clkL h i s = []
    · have h0 : h = 0 ∧ i = 0 ∧ s = 0 := by
        rw [eC] at hC
        simp only [List.append_eq_nil_iff] at hC
        exact ⟨(mkL_nil h 72).1 hC.1, (mkL_nil i 77).1 hC.2.1, (mkL_nil s 83).1 hC.2.2.1⟩
      obtain ⟨rfl, rfl, rfl⟩ := h0
      by_cases hD : dayL y m 0 d = []
      · have h0 : y = 0 ∧ m = 0 ∧ d = 0 := by
          rw [eD] at hD
          simp only [List.append_eq_nil_iff] at hD
          exact ⟨(mkL_nil y 89).1 hD.1, (mkL_nil m 77).1 hD.2.1, (mkL_nil d 68).1 hD.2.2.1⟩
        obtain ⟨rfl, rfl, rfl⟩ := h0
        have e : T = [80, 84, 48, 83] := by rw [hT]; unfold psL; rw [if_neg (by simp [hC]), if_neg (by simp [hD])]
        subst e
        exact ⟨by decide +kernel, by decide +kernel, by decide, by decide⟩
      · have e : T = 80 :: dayL y m 0 d := by rw [hT]; unfold psL; rw [if_neg (by simp [hC]), if_pos hD]
        have hlen : T.length ≤ 64 := by rw [e, eD]; simp; omega
        have hpos : 1 ≤ T.length := by rw [e]; simp
        obtain ⟨a', f', nx', h1, h2, h3, h4⟩ := days_go T 64 y m d [] hpos (by rw [e, eD]; rfl) o0 o1 o3 (by omega)
        have ha : a' = T.length := by
          have := congrArg List.length h2
          rw [List.length_drop] at this
          simp at this
          omega
        refine ⟨?_, ?_, hlen, hpos⟩
        · rw [spR_P T _ e, h4, spF_end (by omega), ha]
        · have := ED.last hD [80]
          rw [e]
          exact this
    · have e : T = 80 :: (dayL y m 0 d ++ 84 :: clkL h i s) := by rw [hT]; unfold psL; rw [if_pos hC]
      have hlen : T.length ≤ 64 := by rw [e, eD, eC]; simp; omega
      have hpos : 1 ≤ T.length := by rw [e]; simp
      obtain ⟨a', f', nx', h1, h2, h3, h4⟩ := days_go T 64 y m d (84 :: clkL h i s) hpos (by rw [e, eD]; simp) o0 o1 o3 (by omega)
      refine ⟨?_, ?_, hlen, hpos⟩
      · rw [spR_P T _ e, h4]
        exact clock_go T f' a' nx' y m d h i s h1 (by rw [h2, eC]) o4 o5 o6 h3
      · have := EC.last hC (80 :: (dayL y m 0 d ++ [84]))
        rw [e]
        simpa using this
  · have h0 : y = 0 ∧ m = 0 ∧ d = 0 ∧ h = 0 ∧ i = 0 ∧ s = 0 := by omega
    obtain ⟨rfl, rfl, rfl, rfl, rfl, rfl⟩ := h0
    have z : ∀ c : UInt8, mkL 0 c = [] := fun c => (mkL_nil 0 c).2 rfl
    have eD : dayL 0 0 v 0 = mkL v 87 := by unfold dayL; rw [z, z, z]; simp
    have eC : clkL 0 0 0 = [] := by unfold clkL; rw [z, z, z]; rfl
    have hD : mkL v 87 ≠ [] := fun q => hv ((mkL_nil v 87).1 q)
    have e : T = 80 :: mkL v 87 := by rw [hT, eD, eC]; unfold psL; rw [if_neg (by simp), if_pos hD]
    have hlen : T.length ≤ 64 := by rw [e]; simp; omega
    have hpos : 1 ≤ T.length := by rw [e]; simp
    obtain ⟨a', h1, h2, h3, h4⟩ := part_go T 63 1 0 4 0 zs7 v 87 [] hpos (by rw [e]; simp) o2 hv (by decide) (by decide) (by decide) (by decide)
    have ha : a' = T.length := by
      have := congrArg List.length h2
      rw [List.length_drop] at this
      simp at this
      omega
    refine ⟨?_, ?_, hlen, hpos⟩
    · rw [spR_P T _ e, h4, spF_end (by omega), ha]
      rfl
    · have := (EM.mk v 87 m87).last hD [80]
      rw [e]
      exact this
end Go.Proofs.YtjpglgemnaknhaaGreatDoor

namespace Go.Proofs.YtjpglgemnaknhaaGreatDoor

theorem dga_take : ∀ (l : List UInt8) (m k : Nat), dga (l.take k) m = min (dga l m) k
  | [], m, k => by rw [List.take_nil]; unfold dga; simp
  | c :: r, 0, k => by cases k <;> simp [dga]
  | c :: r, m + 1, 0 => by simp [dga]
  | c :: r, m + 1, k + 1 => by
    rw [List.take_succ_cons]
    show (if isDB c then dga (r.take k) m + 1 else 0) = min (if isDB c then dga r m + 1 else 0) (k + 1)
    rw [dga_take r m k]
    split <;> omega
theorem dga_app (x : UInt8) (h : isDB x = false) : ∀ (l : List UInt8) (m : Nat), dga (l ++ [x]) m = dga l m
  | [], 0 => rfl
  | [], m + 1 => by show (if isDB x then _ else 0) = 0; rw [h]; rfl
  | c :: r, 0 => rfl
  | c :: r, m + 1 => by
    show (if isDB c then dga (r ++ [x]) m + 1 else 0) = (if isDB c then dga r m + 1 else 0)
    rw [dga_app x h r m]
theorem bt_take (t : List UInt8) (k a : Nat) (h : a < k) : bt (t.take k) a = bt t a := by
  unfold bt; rw [List.getD_eq_getElem?_getD, List.getD_eq_getElem?_getD, List.getElem?_take, if_pos h]
theorem bt_app (t : List UInt8) (x : UInt8) (a : Nat) (h : a < t.length) : bt (t ++ [x]) a = bt t a := by
  unfold bt; rw [List.getD_eq_getElem?_getD, List.getD_eq_getElem?_getD, List.getElem?_append_left h]
theorem bt_last (t : List UInt8) (x : UInt8) : bt (t ++ [x]) t.length = x := by
  unfold bt; rw [List.getD_eq_getElem?_getD, List.getElem?_append_right (Nat.le_refl _), Nat.sub_self]; rfl

theorem spF_cut (t : List UInt8) (k : Nat) (hk : k ≤ t.length) : ∀ (f a nx en : Nat) (s s' : List Int), a ≤ k → (spF t f a nx en s).2 = t.length → (spF (t.take k) f a nx en s').2 = k
  | 0, a, nx, en, s, s', ha, h => by
    have h' : a = t.length := h
    show a = k
    omega
  | f + 1, a, nx, en, s, s', ha, h => by
    have hl : (t.take k).length = k := by rw [List.length_take]; omega
    by_cases hak : a < k
    · have h0 : a < t.length := by omega
      have h0' : a < (t.take k).length := by omega
      have hb := bt_take t k a hak
      by_cases h1 : bt t a = 84 ∧ en = 4
      · rw [spF_T h0 h1] at h
        rw [spF_T h0' (by rw [hb]; exact h1)]
        exact spF_cut t k hk f _ _ _ _ _ (by omega) h
      · have h1' : ¬ (bt (t.take k) a = 84 ∧ en = 4) := by rw [hb]; exact h1
        by_cases h2 : nx = en
        · rw [spF_full h0 h1 h2] at h
          have h' : a = t.length := h
          omega
        · have hd : dga ((t.take k).drop a) 9 = min (dga (t.drop a) 9) (k - a) := by rw [List.drop_take, dga_take]
          have hn := (dga_le (t.drop a) 9).2
          rw [List.length_drop] at hn
          by_cases h3 : dga (t.drop a) 9 = 0 ∨ a + dga (t.drop a) 9 = t.length
          · rw [spF_num h0 h1 h2 h3] at h
            have h' : a + dga (t.drop a) 9 = t.length := h
            rw [spF_num h0' h1' h2 (by rw [hd, hl]; omega)]
            show a + _ = k
            rw [hd]
            omega
          · by_cases h4 : slt nx en (bt t (a + dga (t.drop a) 9)) < 0
            · rw [spF_bad h0 h1 h2 h3 h4] at h
              exact absurd (.inr h) h3
            · rw [spF_go h0 h1 h2 h3 h4] at h
              by_cases h5 : k ≤ a + dga (t.drop a) 9
              · rw [spF_num h0' h1' h2 (by rw [hd, hl]; omega)]
                show a + _ = k
                rw [hd]
                omega
              · have hd' : dga ((t.take k).drop a) 9 = dga (t.drop a) 9 := by rw [hd]; omega
                have hb' := bt_take t k (a + dga (t.drop a) 9) (by omega)
                rw [spF_go h0' h1' h2 (by rw [hd', hl]; omega) (by rw [hd', hb']; exact h4), hd', hb']
                exact spF_cut t k hk f _ _ _ _ _ (by omega) h
    · have hak' : a = k := by omega
      rw [spF_end (by omega)]
      exact hak'

theorem spF_more (t : List UInt8) (x : UInt8) (hx : isDB x = false) (hx2 : x ≠ 84) (hlast : isDB (bt t (t.length - 1)) = false) : ∀ (f a nx en : Nat) (s s' : List Int), a ≤ t.length → (spF t f a nx en s).2 = t.length → (spF (t ++ [x]) f a nx en s').2 = t.length
  | 0, a, nx, en, s, s', ha, h => h
  | f + 1, a, nx, en, s, s', ha, h => by
    have hl : (t ++ [x]).length = t.length + 1 := by simp
    by_cases h0 : a < t.length
    · have h0' : a < (t ++ [x]).length := by omega
      have hb := bt_app t x a h0
      by_cases h1 : bt t a = 84 ∧ en = 4
      · rw [spF_T h0 h1] at h
        rw [spF_T h0' (by rw [hb]; exact h1)]
        exact spF_more t x hx hx2 hlast f _ _ _ _ _ (by omega) h
      · have h1' : ¬ (bt (t ++ [x]) a = 84 ∧ en = 4) := by rw [hb]; exact h1
        by_cases h2 : nx = en
        · rw [spF_full h0 h1 h2] at h
          have h' : a = t.length := h
          omega
        · have hd : dga ((t ++ [x]).drop a) 9 = dga (t.drop a) 9 := by rw [List.drop_append_of_le_length (by omega), dga_app x hx]
          have hn := (dga_le (t.drop a) 9).2
          rw [List.length_drop] at hn
          by_cases h3 : dga (t.drop a) 9 = 0 ∨ a + dga (t.drop a) 9 = t.length
          · rw [spF_num h0 h1 h2 h3] at h
            have h' : a + dga (t.drop a) 9 = t.length := h
            have hdg := dga_dig (t.drop a) 9 (bt t (t.length - 1)) (by
              rw [List.take_of_length_le (by rw [List.length_drop]; omega)]
              have : bt t (t.length - 1) = t[t.length - 1]'(by omega) := by unfold bt; rw [List.getD_eq_getElem?_getD, List.getElem?_eq_getElem (by omega)]; rfl
              rw [this, List.mem_iff_getElem]
              refine ⟨t.length - 1 - a, by rw [List.length_drop]; omega, ?_⟩
              rw [List.getElem_drop]
              congr 1
              omega)
            rw [hlast] at hdg
            cases hdg
          · by_cases h4 : slt nx en (bt t (a + dga (t.drop a) 9)) < 0
            · rw [spF_bad h0 h1 h2 h3 h4] at h
              exact absurd (.inr h) h3
            · rw [spF_go h0 h1 h2 h3 h4] at h
              have hb' := bt_app t x (a + dga (t.drop a) 9) (by omega)
              rw [spF_go h0' h1' h2 (by rw [hd, hl]; omega) (by rw [hd, hb']; exact h4), hd, hb']
              exact spF_more t x hx hx2 hlast f _ _ _ _ _ (by omega) h
    · have hae : a = t.length := by omega
      subst hae
      have h0' : t.length < (t ++ [x]).length := by omega
      have h1' : ¬ (bt (t ++ [x]) t.length = 84 ∧ en = 4) := by rw [bt_last]; exact fun q => hx2 q.1
      by_cases h2 : nx = en
      · rw [spF_full h0' h1' h2]
      · have hd : dga ((t ++ [x]).drop t.length) 9 = 0 := by
          rw [List.drop_append_of_le_length (Nat.le_refl _), dga_app x hx, List.drop_length]; rfl
        rw [spF_num h0' h1' h2 (.inl hd)]
        show t.length + _ = _
        rw [hd]; omega

theorem spR_cut (t : List UInt8) (k : Nat) (hk : k ≤ t.length) (h0 : 0 < t.length) (h : (spR t).2 = t.length) : (spR (t.take k)).2 = k := by
  unfold spR at h
  by_cases hp : bt t 0 = 80 ∧ 0 < t.length
  · rw [if_pos hp] at h
    have hl : (t.take k).length = k := by rw [List.length_take]; omega
    unfold spR
    by_cases h1 : 0 < k
    · rw [if_pos ⟨by rw [bt_take t k 0 h1]; exact hp.1, by omega⟩]
      exact spF_cut t k hk _ _ _ _ _ _ (by omega) h
    · rw [if_neg (by rw [hl]; exact fun q => h1 q.2)]
      show 0 = k
      omega
  · rw [if_neg hp] at h
    have h' : 0 = t.length := h
    omega
theorem mrk_nd : ∀ c ∈ mrk, isDB c = false := by decide
theorem spR_more (t : List UInt8) (h0 : 0 < t.length) (h : (spR t).2 = t.length) (hm : bt t (t.length - 1) ∈ mrk) : (spR (t ++ [33])).2 = t.length := by
  unfold spR at h
  by_cases hp : bt t 0 = 80 ∧ 0 < t.length
  · rw [if_pos hp] at h
    unfold spR
    rw [if_pos ⟨by rw [bt_app t 33 0 h0]; exact hp.1, by simp⟩]
    exact spF_more t 33 (by decide) (by decide) (mrk_nd _ hm) _ _ _ _ _ _ (by omega) h
  · rw [if_neg hp] at h
    have h' : 0 = t.length := h
    omega
end Go.Proofs.YtjpglgemnaknhaaGreatDoor

namespace Go.Proofs.YtjpglgemnaknhaaGreatDoor
open Go.RowKit
set_option maxRecDepth 100000

theorem rl_take : ∀ (t s : List UInt8) (k : Nat), rl (t.take k) s = min (rl t s) k
  | [], s, k => by rw [List.take_nil]; unfold rl; simp
  | c :: r, [], k => by cases k <;> simp [rl]
  | c :: r, x :: s, 0 => by simp [rl]
  | c :: r, x :: s, k + 1 => by
    rw [List.take_succ_cons]
    show (if fitB c x then rl (r.take k) s + 1 else 0) = min (if fitB c x then rl r s + 1 else 0) (k + 1)
    rw [rl_take r s k]
    split <;> omega
theorem rl_more : ∀ (t s y : List UInt8), s.length ≤ t.length → rl (t ++ y) s = rl t s
  | [], s, y, h => by
    have : s = [] := List.length_eq_zero_iff.1 (by simpa using h)
    subst this
    simp [rl]
  | c :: r, [], y, _ => by simp [rl]
  | c :: r, x :: s, y, h => by
    show (if fitB c x then rl (r ++ y) s + 1 else 0) = if fitB c x then rl r s + 1 else 0
    rw [rl_more r s y (by simpa using h)]
theorem rl_bang (b : UInt8) : ∀ (t s : List UInt8), (∀ x ∈ s, fitB b x = false) → rl (t ++ [b]) s ≤ t.length
  | [], [], _ => by simp [rl]
  | [], x :: s, h => by
    show (if fitB b x then rl [] s + 1 else 0) ≤ 0
    rw [h x (List.mem_cons_self ..)]
    simp
  | c :: r, [], _ => by simp [rl]
  | c :: r, x :: s, h => by
    show (if fitB c x then rl (r ++ [b]) s + 1 else 0) ≤ r.length + 1
    have := rl_bang b r s (fun y hy => h y (List.mem_cons_of_mem _ hy))
    split <;> omega
theorem fitL_ge (t : List UInt8) : ∀ (r : List (List UInt8)) (i p : Nat), (fitL t r i p).1 = -1 → p ≤ (fitL t r i p).2 ∧ ∀ s ∈ r, rl t s ≤ (fitL t r i p).2
  | [], i, p, _ => ⟨Nat.le_refl _, fun s hs => absurd hs (by simp)⟩
  | s :: r, i, p, h => by
    by_cases hc : rl t s = t.length ∧ rl t s = s.length
    · have e : fitL t (s :: r) i p = ((i : Int), 0) := by show (if _ then _ else _) = _; rw [if_pos hc]
      rw [e] at h
      have h' : (i : Int) = -1 := h
      omega
    · have e : fitL t (s :: r) i p = fitL t r (i + 1) (max p (rl t s)) := by show (if _ then _ else _) = _; rw [if_neg hc]
      rw [e] at h ⊢
      obtain ⟨h1, h2⟩ := fitL_ge t r _ _ h
      refine ⟨by omega, fun x hx => ?_⟩
      rcases List.mem_cons.1 hx with rfl | hx
      · omega
      · exact h2 x hx
theorem fitL_up (t : List UInt8) (n : Nat) : ∀ (r : List (List UInt8)) (i p : Nat), p ≤ n → (∀ s ∈ r, rl t s ≤ n) → (fitL t r i p).2 ≤ n
  | [], i, p, h, _ => h
  | s :: r, i, p, h, hs => by
    show (if _ then ((i : Int), 0) else fitL t r (i + 1) (max p (rl t s))).2 ≤ n
    split
    · exact Nat.zero_le _
    · have := hs s (List.mem_cons_self ..)
      exact fitL_up t n r _ _ (by omega) (fun x hx => hs x (List.mem_cons_of_mem _ hx))

/-- a text that fits a shape, cut: it fits another one, or is told where it ends -/
theorem fit_cut (L : List UInt8) (R : List (List UInt8)) (s : List UInt8) (hs : s ∈ R) (h : rl L s = L.length) (k : Nat) (hk : k ≤ L.length) (hn : (fitL (L.take k) R 0 0).1 = -1) : fitL (L.take k) R 0 0 = (-1, k) := by
  have hl : (L.take k).length = k := by rw [List.length_take]; omega
  have h1 := (fitL_ge (L.take k) R 0 0 hn).2 s hs
  rw [rl_take, h] at h1
  have h2 := fitL_le (L.take k) R 0 0 (Nat.zero_le _)
  rw [hl] at h2
  exact Prod.ext hn (by show (fitL (L.take k) R 0 0).2 = k; omega)
/-- and with a byte behind it that stands in no shape -/
theorem fit_bang (L : List UInt8) (b : UInt8) (R : List (List UInt8)) (s : List UInt8) (hs : s ∈ R) (h : rl L s = L.length) (h' : rl L s = s.length) (hb : ∀ s ∈ R, ∀ x ∈ s, fitB b x = false) : fitL (L ++ [b]) R 0 0 = (-1, L.length) := by
  have hl : (L ++ [b]).length = L.length + 1 := by simp
  have up : ∀ s ∈ R, rl (L ++ [b]) s ≤ L.length := fun s hs => rl_bang b L s (hb s hs)
  have hn : (fitL (L ++ [b]) R 0 0).1 = -1 := by
    rcases fitL_hit (L ++ [b]) R 0 0 with h1 | ⟨k, hk, _, h2, _⟩
    · exact h1
    · have := up R[k] (List.getElem_mem hk)
      omega
  have h1 := (fitL_ge (L ++ [b]) R 0 0 hn).2 s hs
  rw [rl_more L s [b] (by omega), h] at h1
  have h2 := fitL_up (L ++ [b]) L.length R 0 0 (Nat.zero_le _) up
  exact Prod.ext hn (by show (fitL (L ++ [b]) R 0 0).2 = L.length; omega)

theorem ds_bang : ∀ s ∈ SS DS, ∀ x ∈ s, fitB 33 x = false := by decide +kernel
theorem ds_hit (L : List UInt8) (f : Nat) (h : fitL L (SS DS) 0 0 = ((f : Int), 0)) : ∃ s ∈ SS DS, rl L s = L.length ∧ rl L s = s.length := by
  rcases fitL_hit L (SS DS) 0 0 with h1 | ⟨k, hk, _, h2, h3⟩
  · rw [h] at h1
    have h1' : (f : Int) = -1 := h1
    omega
  · exact ⟨_, List.getElem_mem hk, h2, h3⟩
def msk (f : Nat) : List Bool := ((SS DS).getD f []).map (fun x => x == 100)
theorem msk_dec : ∀ f : Fin 6, ∀ k : Fin 10, ∀ j : Fin 6, k.val < (msk f.val).length → (msk f.val).take k.val = msk j.val → j.val = 3 ∧ f.val = 1 := by decide +kernel
theorem msk_len : ∀ f, f < 6 → (msk f).length ≤ 10 ∧ 7 ≤ (msk f).length := by decide +kernel
theorem msk_cut (f : Nat) (hf : f < 6) (k : Nat) (hk : k < (msk f).length) (j : Nat) (hj : j < 6) (h : (msk f).take k = msk j) : j = 3 ∧ f = 1 :=
  msk_dec ⟨f, hf⟩ ⟨k, by have := (msk_len f hf).1; omega⟩ ⟨j, hj⟩ hk h

/-- what ParseDate answers -/
def PrE (D : ByteArray) (y m d e p : Int) : Prop := ∀ w, HasAh w → Calls Tryz.prog 7 #[.string D] w fun x w' => x = .returned (rT y m d e p) ∧ Below w.heap.size w w'

theorem date_cut (t : ByteArray) (f : Nat) (hf : f < 6) (hm : MK t f) (hfit : fitL t.data.toList (SS DS) 0 0 = ((f : Int), 0)) (k : Nat) (hk : k < t.size) (u : ByteArray) (hu : u.data.toList = t.data.toList.take k) :
    ∃ y m d e p : Int, PrE u y m d e p ∧ ((e = 0 ∧ f = 1) ∨ (e = 31 ∧ p = (k : Int)) ∨ (e = 30 ∧ p < (k : Int) ∧ f = 1)) := by
  have lt : t.data.toList.length = t.size := Array.length_toList
  have lu : u.data.toList.length = u.size := Array.length_toList
  have hm' : t.data.toList.map isDB = msk f := hm
  have hml : (msk f).length = t.size := by rw [← hm', List.length_map]; exact lt
  have h10 := msk_len f hf
  have hus : u.size = k := by rw [← lu, hu, List.length_take]; omega
  obtain ⟨s, hs, h1, h2⟩ := ds_hit _ f hfit
  rcases ds_cases u.data.toList with ⟨p, hp⟩ | ⟨j, hj, hp, hmj⟩
  · have hc := fit_cut t.data.toList (SS DS) s hs h1 k (by omega) (by rw [← hu, hp])
    rw [← hu] at hc
    exact ⟨0, 0, 0, 31, (k : Int), fun w _ => parse_none u (by omega) k hc w, .inr (.inl ⟨rfl, rfl⟩)⟩
  · have hjm : (msk f).take k = msk j := by
      have : u.data.toList.map isDB = msk j := hmj
      rw [← this, hu, ← hm', List.map_take]
    obtain ⟨rfl, rfl⟩ := msk_cut f hf k (by omega) j hj hjm
    have h7 := mk_size u 3 7 hmj (by decide +kernel)
    have hP := fun w hA => parse_3 u hmj hp w hA
    have hsh : shA u 3 = ryV 4 (nt u 0 4) (nt u 4 3) := rfl
    by_cases hv : 1 ≤ nt u 4 3 ∧ nt u 4 3 ≤ 365 + lpN (nt u 0 4)
    · refine ⟨dY (ys (nt u 0 4) + nt u 4 3 - 1), dM (ys (nt u 0 4) + nt u 4 3 - 1), dD (ys (nt u 0 4) + nt u 4 3 - 1), 0, 0, fun w hA => ?_, .inl ⟨rfl, rfl⟩⟩
      have h := hP w hA
      rw [hsh] at h
      unfold ryV at h
      rw [if_pos hv] at h
      exact h
    · refine ⟨0, 0, 0, 30, 4, fun w hA => ?_, .inr (.inr ⟨rfl, by omega, rfl⟩)⟩
      have h := hP w hA
      rw [hsh] at h
      unfold ryV at h
      rw [if_neg hv] at h
      exact h
theorem date_bang (t : ByteArray) (f : Nat) (hf : f < 6) (hm : MK t f) (hfit : fitL t.data.toList (SS DS) 0 0 = ((f : Int), 0)) (u : ByteArray) (hu : u.data.toList = t.data.toList ++ [33]) :
    PrE u 0 0 0 31 (t.size : Int) := by
  have lt : t.data.toList.length = t.size := Array.length_toList
  have lu : u.data.toList.length = u.size := Array.length_toList
  have hm' : t.data.toList.map isDB = msk f := hm
  have hml : (msk f).length = t.size := by rw [← hm', List.length_map]; exact lt
  have h10 := msk_len f hf
  have hus : u.size = t.size + 1 := by rw [← lu, hu, List.length_append, lt]; rfl
  obtain ⟨s, hs, h1, h2⟩ := ds_hit _ f hfit
  have hc := fit_bang t.data.toList 33 (SS DS) s hs h1 h2 ds_bang
  rw [← hu, lt] at hc
  exact fun w _ => parse_none u (by omega) t.size hc w
end Go.Proofs.YtjpglgemnaknhaaGreatDoor

namespace Go.Proofs.YtjpglgemnaknhaaGreatDoor
open Go.RowKit
set_option maxRecDepth 100000

theorem ia_none : ∀ {A : List UInt8}, (∀ c ∈ A, ([90, 43, 45] : List UInt8).contains c = false) → Lib.indexAny A [90, 43, 45] = -1
  | [], _ => rfl
  | a :: A, h => by
    have h1 := h a (by simp)
    have ih := ia_none (A := A) (fun c hc => h c (List.mem_cons_of_mem _ hc))
    show (if ([90, 43, 45] : List UInt8).contains a then (0 : Int) else if Lib.indexAny A [90, 43, 45] == -1 then -1 else Lib.indexAny A [90, 43, 45] + 1) = _
    rw [ih, if_neg (by rw [h1]; decide)]
    rfl
theorem cutsN_of (t : ByteArray) (DL R : List UInt8) (ht : t.data.toList = DL ++ 84 :: R) (hs : t.size ≤ 64) (h84 : 84 ∉ DL) (hT : ∀ c ∈ R, ([90, 43, 45] : List UInt8).contains c = false) (hasc : ∀ c ∈ R, c.toNat < 128) :
    CutsN t ⟨DL.toArray⟩ ⟨R.toArray⟩ (DL.contains 45) := by
  have hlen : t.size = DL.length + 1 + R.length := by
    have : t.data.toList.length = t.size := Array.length_toList
    rw [← this, ht]
    simp
    omega
  have e1 : t.extract 0 DL.length = ⟨DL.toArray⟩ := ba_eq (by rw [ext_list, ht]; simp)
  have e2 : t.extract (DL.length + 1) t.size = ⟨R.toArray⟩ := ba_eq (by
    rw [ext_list, ht, hlen]
    have : (DL ++ 84 :: R).drop (DL.length + 1) = R := by
      rw [show DL ++ 84 :: R = (DL ++ [84]) ++ R by simp]
      exact List.drop_left' (by simp)
    rw [this]
    exact List.take_of_length_le (by omega))
  refine ⟨hs, ?_, fun w => ?_, ib_ext DL, fun w => ?_⟩
  · show DL.length ≤ 64
    omega
  · have := cut_yes t 84 DL.length (by omega) hs (by rw [ht]; exact ib_app h84) w
    rw [e1, e2] at this
    exact this
  · have := Tryz.strings_IndexAny_laid ⟨R.toArray⟩ ⟨#[90, 43, 45]⟩ w (by show R.length < 4294967281; omega) (by decide) (fun j b hb => hasc b (List.mem_of_getElem? hb)) (fun j b hb => by
      match j, hb with
      | 0, hb => cases hb; decide
      | 1, hb => cases hb; decide
      | 2, hb => cases hb; decide)
    have e3 : Lib.indexAny (⟨R.toArray⟩ : ByteArray).data.toList (⟨#[90, 43, 45]⟩ : ByteArray).data.toList = -1 := ia_none hT
    rw [e3] at this
    exact this

theorem te_len : ∀ s ∈ SS TE, s.length = 2 ∨ s.length = 5 ∨ s.length = 8 := by decide +kernel
section
theorem time_cut (a b c d e f : UInt8) (ha : isDB a = true) (hb : isDB b = true) (hc : isDB c = true) (hd : isDB d = true) (he : isDB e = true) (hf : isDB f = true) (h0 : nm [a, b] ≤ 23) (h1 : nm [c, d] ≤ 59) (h2 : nm [e, f] ≤ 59) (n : Nat) (hn : n ≤ 8) (R : ByteArray) (hR : R.data.toList = ([a, b, 58, c, d, 58, e, f] : List UInt8).take n) :
    ∃ (x er : Int) (pt : Nat), Reads3 26 #[.string R, .bool true] (tup (x, er, (pt : Int))) ∧ pt ≤ n ∧ ((er = 0 ∧ pt = 0 ∧ 0 ≤ x ∧ x ≤ 1000000) ∨ er ≠ 0) := by
  have okh : ∀ t : ByteArray, okH t (nm [a, b]) = true := fun t => by unfold okH; rw [decide_eq_true h0]; rfl
  by_cases n2' : n = 2
  · subst n2'
    obtain ⟨q1, q2, q3⟩ := tmE1 a b ha hb R hR
    rw [tmP_ok1 R 2 2 (by omega) (by omega) (by rw [q3]; exact okh R)] at q1
    exact ⟨_, 0, 0, q1, by omega, .inl ⟨rfl, rfl, by rw [q3]; omega, by rw [q3]; omega⟩⟩
  by_cases n5 : n = 5
  · subst n5
    obtain ⟨q1, q2, q3, q4⟩ := tmE2 a b c d ha hb hc hd R hR
    rw [tmP_ok2 R 3 5 (by omega) (by omega) (by omega) (by rw [q3]; exact okh R) (by rw [q4]; exact h1)] at q1
    exact ⟨_, 0, 0, q1, by omega, .inl ⟨rfl, rfl, by rw [q3, q4]; omega, by rw [q3, q4]; omega⟩⟩
  by_cases n8 : n = 8
  · subst n8
    obtain ⟨q1, q2, q3, q4, q5⟩ := tmE3 a b c d e f ha hb hc hd he hf R hR
    rw [tmP_ok3 R 3 6 (by omega) (by omega) (by omega) (by rw [q3]; exact okh R) (by rw [q4]; exact h1) (by rw [q5]; exact h2)] at q1
    exact ⟨_, 0, 0, q1, by omega, .inl ⟨rfl, rfl, by rw [q3, q4, q5]; omega, by rw [q3, q4, q5]; omega⟩⟩
  have lR : R.data.toList.length = R.size := Array.length_toList
  have hRn : R.data.toList.length = n := by
    rw [hR, List.length_take]
    show min n 8 = n
    omega
  have hno : (fitL R.data.toList (SS TE) 0 0).1 = -1 := by
    rcases fitL_hit R.data.toList (SS TE) 0 0 with h | ⟨k, hk, _, q1, q2⟩
    · exact h
    · have := te_len _ (List.getElem_mem hk)
      omega
  have hr : rl ([a, b, 58, c, d, 58, e, f] : List UInt8) [100, 100, 58, 100, 100, 58, 100, 100] = 8 := by simp [rl, fitB, ha, hb, hc, hd, he, hf]
  rw [hR] at hno
  have hfit := fit_cut [a, b, 58, c, d, 58, e, f] (SS TE) [100, 100, 58, 100, 100, 58, 100, 100] (by decide +kernel) hr n hn hno
  rw [← hR] at hfit
  exact ⟨0, 32, n, fun w => readTime_noE R (by omega) n hfit w, by omega, .inr (by decide)⟩

theorem inst_cut (a b c d e f : UInt8) (ha : isDB a = true) (hb : isDB b = true) (hc : isDB c = true) (hd : isDB d = true) (he : isDB e = true) (hf : isDB f = true) (h0 : nm [a, b] ≤ 23) (h1 : nm [c, d] ≤ 59) (h2 : nm [e, f] ≤ 59) (DL : List UInt8) (y m g : Int) (hm : MK ⟨DL.toArray⟩ 0) (hfit : fitL DL (SS DS) 0 0 = (((0 : Nat) : Int), 0)) (hp : PrD ⟨DL.toArray⟩ y m g) (h84 : (84 : UInt8) ∉ DL) (hcon : DL.contains 45 = true) (hlen : DL.length = 10) (t : ByteArray) (ht : t.data.toList = DL ++ 84 :: ([a, b, 58, c, d, 58, e, f] ++ [90])) (k : Nat) (hk : k < 20) (u : ByteArray) (hu : u.data.toList = t.data.toList.take k) : ∃ v : Int × Int × Int, PrI u v ∧ v.2.1 ≠ 0 ∧ v.2.2 ≤ (k : Int) := by
  have lu : u.data.toList.length = u.size := Array.length_toList
  have hus : u.size = k := by
    rw [← lu, hu, List.length_take, ht, List.length_append, hlen]
    show min k 20 = k
    omega
  by_cases h10 : k ≤ 10
  · have hu' : u.data.toList = DL.take k := by rw [hu, ht, List.take_append_of_le_length (by omega)]
    have hib : Lib.indexByte u.data.toList 84 = -1 := ib_none (by rw [hu']; exact fun q => h84 (List.mem_of_mem_take q))
    by_cases h9 : k < 10
    · obtain ⟨y', m', d', er, p, hP, hcs⟩ := date_cut ⟨DL.toArray⟩ 0 (by decide) hm hfit k (by show k < DL.length; omega) u hu'
      rcases hcs with ⟨_, q⟩ | ⟨rfl, rfl⟩ | ⟨_, _, q⟩
      · cases q
      · refine ⟨(0, 31, (k : Int)), fun w hA => ?_, by show (31 : Int) ≠ 0; decide, Int.le_refl _⟩
        exact pin_date u u ⟨#[]⟩ false (by omega) (fun w => cut_no u 84 hib w) y' m' d' 31 (k : Int) hP (.inl (by decide)) w hA
      · cases q
    · have hk10 : k = 10 := by omega
      have hD : u = ⟨DL.toArray⟩ := ba_eq (by rw [hu', List.take_of_length_le (by omega)])
      refine ⟨(0, 32, (u.size : Int)), fun w hA => ?_, by show (32 : Int) ≠ 0; decide, by show (u.size : Int) ≤ _; omega⟩
      exact pin_date u u ⟨#[]⟩ false (by omega) (fun w => cut_no u 84 hib w) y m g 0 0 (by rw [hD]; exact hp) (.inr ⟨rfl, rfl⟩) w hA
  · obtain ⟨n, rfl⟩ : ∃ n, k = 11 + n := ⟨k - 11, by omega⟩
    have hu' : u.data.toList = DL ++ 84 :: (([a, b, 58, c, d, 58, e, f] : List UInt8).take n) := by
      rw [hu, ht, show DL ++ 84 :: (([a, b, 58, c, d, 58, e, f] : List UInt8) ++ [90]) = (DL ++ [84]) ++ (([a, b, 58, c, d, 58, e, f] : List UInt8) ++ [90]) by simp]
      have h11 : (DL ++ [84]).length = 11 := by rw [List.length_append, hlen]; rfl
      rw [List.take_append, List.take_of_length_le (by omega), h11, show 11 + n - 11 = n by omega, List.take_append_of_le_length (by show n ≤ 8; omega)]
      simp
    have hmem : ∀ z ∈ ([a, b, 58, c, d, 58, e, f] : List UInt8).take n, 48 ≤ z.toNat ∧ z.toNat ≤ 58 := fun z hz => by
      have hz' := List.mem_of_mem_take hz
      have i1 := isDB_in ha
      have i2 := isDB_in hb
      have i3 := isDB_in hc
      have i4 := isDB_in hd
      have i5 := isDB_in he
      have i6 := isDB_in hf
      simp only [List.mem_cons, List.not_mem_nil, or_false] at hz'
      rcases hz' with rfl | rfl | rfl | rfl | rfl | rfl | rfl | rfl
      all_goals first | omega | decide
    have hC := cutsN_of u DL _ hu' (by omega) h84 (fun z hz => by
      have := hmem z hz
      rw [List.contains_eq_any_beq]
      simp only [List.any_cons, List.any_nil, Bool.or_false, Bool.or_eq_false_iff, beq_eq_false_iff_ne]
      refine ⟨fun q => ?_, fun q => ?_, fun q => ?_⟩ <;> (subst q; simp at this)) (fun z hz => by have := hmem z hz; omega)
    rw [hcon] at hC
    obtain ⟨x, er, pt, hR, hpt, hcs⟩ := time_cut a b c d e f ha hb hc hd he hf h0 h1 h2 n (by omega) ⟨(([a, b, 58, c, d, 58, e, f] : List UInt8).take n).toArray⟩ rfl
    rcases hcs with ⟨rfl, rfl, _, _⟩ | hne
    · refine ⟨(0, 33, (u.size : Int)), fun w hA => pin_noZ u _ _ true hC y m g hp x hR w hA, by show (33 : Int) ≠ 0; decide, by show (u.size : Int) ≤ _; omega⟩
    · refine ⟨_, fun w hA => pin_noZt u _ _ true hC y m g hp x er pt (by omega) hne hR w hA, hne, ?_⟩
      show (((⟨DL.toArray⟩ : ByteArray).size : Int) + 1 + (pt : Int)) ≤ _
      have : (⟨DL.toArray⟩ : ByteArray).size = 10 := hlen
      omega
theorem inst_bang (a b c d e f : UInt8) (ha : isDB a = true) (hb : isDB b = true) (hc : isDB c = true) (hd : isDB d = true) (he : isDB e = true) (hf : isDB f = true) (h0 : nm [a, b] ≤ 23) (h1 : nm [c, d] ≤ 59) (h2 : nm [e, f] ≤ 59) (DL : List UInt8) (y m g : Int) (hp : PrD ⟨DL.toArray⟩ y m g) (h84 : (84 : UInt8) ∉ DL) (hcon : DL.contains 45 = true) (hlen : DL.length = 10) (t : ByteArray) (ht : t.data.toList = DL ++ 84 :: ([a, b, 58, c, d, 58, e, f] ++ [90])) (u : ByteArray) (hu : u.data.toList = t.data.toList ++ [33]) : PrI u (0, 33, 20) := by
  have lu : u.data.toList.length = u.size := Array.length_toList
  have hu' : u.data.toList = DL ++ 84 :: ([a, b, 58, c, d, 58, e, f] ++ 90 :: [33]) := by rw [hu, ht]; simp
  have hus : u.size = 21 := by
    rw [← lu, hu', List.length_append, hlen]
    rfl
  have i1 := isDB_in ha
  have i2 := isDB_in hb
  have i3 := isDB_in hc
  have i4 := isDB_in hd
  have i5 := isDB_in he
  have i6 := isDB_in hf
  have hC := cuts_of u DL [a, b, 58, c, d, 58, e, f] [33] 90 hu' (by omega) h84 (fun z hz => by
    have : 48 ≤ z.toNat ∧ z.toNat ≤ 58 := by
      simp only [List.mem_cons, List.not_mem_nil, or_false] at hz
      rcases hz with rfl | rfl | rfl | rfl | rfl | rfl | rfl | rfl
      all_goals first | omega | decide
    rw [List.contains_eq_any_beq]
    simp only [List.any_cons, List.any_nil, Bool.or_false, Bool.or_eq_false_iff, beq_eq_false_iff_ne]
    refine ⟨fun q => ?_, fun q => ?_, fun q => ?_⟩ <;> (subst q; simp at this)) (by decide) (fun z hz => by
      simp only [List.mem_append, List.mem_cons, List.not_mem_nil, or_false] at hz
      rcases hz with (rfl | rfl | rfl | rfl | rfl | rfl | rfl | rfl) | rfl | rfl
      all_goals first | omega | decide)
  rw [hcon] at hC
  have okh : ∀ t : ByteArray, okH t (nm [a, b]) = true := fun t => by unfold okH; rw [decide_eq_true h0]; rfl
  obtain ⟨q1, q2, q3, q4, q5⟩ := tmE3 a b c d e f ha hb hc hd he hf ⟨([a, b, 58, c, d, 58, e, f] : List UInt8).toArray⟩ rfl
  rw [tmP_ok3 _ 3 6 (by rw [q2]; decide) (by rw [q2]; decide) (by rw [q2]; decide) (by rw [q3]; exact okh _) (by rw [q4]; exact h1) (by rw [q5]; exact h2), q3, q4, q5] at q1
  have hz : fitL (⟨(90 :: [33]).toArray⟩ : ByteArray).data.toList (SS ZE) 0 0 = (-1, 1) := by decide +kernel
  have hZ : Reads3 27 #[.string ⟨(90 :: [33]).toArray⟩, .bool true] (tup (0, 33, ((1 : Nat) : Int))) := fun w => readZone_noE _ (by decide) 1 hz w
  intro w hA
  have h := pin_zone u _ _ true _ hC y m g hp (3600 * (nm [a, b] : Int) + 60 * (nm [c, d] : Int) + (nm [e, f] : Int)) 0 33 1 (by omega) (by omega) (by rw [cut_left]; exact q1) (by rw [cut_right]; exact hZ) (by decide) (by omega) (by show ([a, b, 58, c, d, 58, e, f] ++ 90 :: [33]).length ≤ 64; simp) w hA
  have e1 : (((⟨DL.toArray⟩ : ByteArray).size : Int) + 1 + ((([a, b, 58, c, d, 58, e, f] : List UInt8).length : Nat) : Int) + ((1 : Nat) : Int)) = 20 := by
    have : (⟨DL.toArray⟩ : ByteArray).size = 10 := hlen
    rw [this]
    rfl
  rw [e1] at h
  exact h
end
end Go.Proofs.YtjpglgemnaknhaaGreatDoor

namespace Go.Proofs.YtjpglgemnaknhaaGreatDoor
open Go.RowKit
set_option maxRecDepth 100000

theorem ba_bang (t : ByteArray) : (t ++ (⟨#[33]⟩ : ByteArray)).data.toList = t.data.toList ++ [33] := by rw [ByteArray.data_append, Array.toList_append]
theorem ba_cut (t : ByteArray) (k : Nat) : (t.extract 0 k).data.toList = t.data.toList.take k := by rw [ext_list]; simp

/-- days -/
def DC (t : ByteArray) : Prop := (7 ≤ t.size ∧ t.size ≤ 10) ∧ (∀ k : Nat, k < t.size → ∃ y m d e p : Int, PrE (t.extract 0 k) y m d e p ∧ (e = 0 ∨ (e = 31 ∧ p = (k : Int)) ∨ (e = 30 ∧ p < (k : Int)))) ∧ PrE (t ++ ⟨#[33]⟩) 0 0 0 31 (t.size : Int)
theorem dc_of (t : ByteArray) (f : Nat) (hf : f < 6) (hm : MK t f) (hfit : fitL t.data.toList (SS DS) 0 0 = ((f : Int), 0)) : DC t := by
  have hm' : t.data.toList.map isDB = msk f := hm
  have lt : t.data.toList.length = t.size := Array.length_toList
  have hml : (msk f).length = t.size := by rw [← hm', List.length_map]; exact lt
  have h10 := msk_len f hf
  refine ⟨by omega, fun k hk => ?_, date_bang t f hf hm hfit _ (ba_bang t)⟩
  obtain ⟨y, m, d, e, p, h, hc⟩ := date_cut t f hf hm hfit k hk _ (ba_cut t k)
  refine ⟨y, m, d, e, p, h, ?_⟩
  rcases hc with q | q | q
  · exact .inl q.1
  · exact .inr (.inl q)
  · exact .inr (.inr ⟨q.1, q.2.1⟩)
theorem dc_all (y m d : Int) (hv : VD y m d) (hw : 0 ≤ wkY y (nb y m d)) (k : Nat) (hk : k < 6) : DC (pdT k y m d) := by
  match k, hk with
  | 0, _ => obtain ⟨h1, h2, _⟩ := rnd_0 y m d hv hw (pdT 0 y m d) (pdT_list 0 y m d); exact dc_of _ 0 (by decide) h1 h2
  | 1, _ => obtain ⟨h1, h2, _⟩ := rnd_1 y m d hv hw (pdT 1 y m d) (pdT_list 1 y m d); exact dc_of _ 1 (by decide) h1 h2
  | 2, _ => obtain ⟨h1, h2, _⟩ := rnd_2 y m d hv hw (pdT 2 y m d) (pdT_list 2 y m d); exact dc_of _ 2 (by decide) h1 h2
  | 3, _ => obtain ⟨h1, h2, _⟩ := rnd_3 y m d hv hw (pdT 3 y m d) (pdT_list 3 y m d); exact dc_of _ 3 (by decide) h1 h2
  | 4, _ => obtain ⟨h1, h2, _⟩ := rnd_4 y m d hv hw (pdT 4 y m d) (pdT_list 4 y m d); exact dc_of _ 4 (by decide) h1 h2
  | 5, _ => obtain ⟨h1, h2, _⟩ := rnd_5 y m d hv hw (pdT 5 y m d) (pdT_list 5 y m d); exact dc_of _ 5 (by decide) h1 h2

/-- instants -/
def IC (t : ByteArray) : Prop := t.size = 20 ∧ (∀ k : Nat, k < 20 → ∃ v : Int × Int × Int, PrI (t.extract 0 k) v ∧ v.2.1 ≠ 0 ∧ v.2.2 ≤ (k : Int)) ∧ PrI (t ++ ⟨#[33]⟩) (0, 33, 20)
theorem ic_all (X : Int) (hX : InstS X) (t : ByteArray) (ht : t.data.toList = piL X 0) : IC t := by
  have hn : 0 ≤ X / 86400 ∧ X / 86400 ≤ 3652424 := by omega
  obtain ⟨hv, hnb⟩ := dt_is (X / 86400) hn
  unfold piL at ht
  have hl := lg_le (dY (X / 86400)) (dM (X / 86400))
  have z0 : zL 0 = [90] := rfl
  rw [z0] at ht
  generalize dY (X / 86400) = y at *
  generalize dM (X / 86400) = m at *
  generalize dD (X / 86400) = d at *
  obtain ⟨ha, hb, eh, qa, qb, n0⟩ := pad_2 (X % 86400 / 3600) (by omega) (by show (X % 86400 / 3600).toNat < 100; omega)
  obtain ⟨ia, ib, ei, qc, qd, n1⟩ := pad_2 (X % 86400 / 60 % 60) (by omega) (by show (X % 86400 / 60 % 60).toNat < 100; omega)
  obtain ⟨sa, sb, es, qe, qf, n2⟩ := pad_2 (X % 86400 % 60) (by omega) (by show (X % 86400 % 60).toNat < 100; omega)
  have p2 : ckL (X % 86400 / 3600) (X % 86400 / 60 % 60) (X % 86400 % 60) = [ha, hb, 58, ia, ib, 58, sa, sb] := by unfold ckL; rw [eh, ei, es]; rfl
  rw [p2] at ht
  have ht' : t.data.toList = pdL 0 y m d ++ 84 :: ([ha, hb, 58, ia, ib, 58, sa, sb] ++ [90]) := by rw [ht]; simp
  obtain ⟨hm, hfit, _⟩ := rnk_0 y m d hv ⟨(pdL 0 y m d).toArray⟩ List.toList_toArray
  obtain ⟨h84, hcon, _⟩ := pdk_0 y m d hv
  have hlen : (pdL 0 y m d).length = 10 := mk_size _ 0 10 hm (by decide)
  have hp := prd_0 y m d hv
  have lt : t.data.toList.length = t.size := Array.length_toList
  refine ⟨?_, fun k hk => ?_, ?_⟩
  · rw [← lt, ht', List.length_append, hlen]
    rfl
  · exact inst_cut ha hb ia ib sa sb qa qb qc qd qe qf (by omega) (by omega) (by omega) (pdL 0 y m d) y m d hm hfit hp h84 hcon hlen t ht' k hk _ (ba_cut t k)
  · exact inst_bang ha hb ia ib sa sb qa qb qc qd qe qf (by omega) (by omega) (by omega) (pdL 0 y m d) y m d hp h84 hcon hlen t ht' _ (ba_bang t)

/-- spans -/
def PrS (t : ByteArray) (l : List Int) (e p : Int) : Prop := ∀ w, HasES w → Calls Tryz.prog 11 #[.string t] w fun x w' => x = .returned (sT l e p) ∧ Below w.heap.size w w'
def SC (t : ByteArray) : Prop := (3 ≤ t.size ∧ t.size ≤ 63) ∧ (∀ k : Nat, k < t.size → ∃ (l : List Int) (e p : Int), PrS (t.extract 0 k) l e p ∧ (e = 0 ∨ (e = 34 ∧ p = (k : Int)))) ∧ PrS (t ++ ⟨#[33]⟩) zs7 34 (t.size : Int)
theorem sc_of (t : ByteArray) (h3 : 3 ≤ t.size) (h63 : t.size ≤ 63) (h : (spR t.data.toList).2 = t.data.toList.length) (hm : bt t.data.toList (t.data.toList.length - 1) ∈ mrk) : SC t := by
  have lt : t.data.toList.length = t.size := Array.length_toList
  refine ⟨⟨h3, h63⟩, fun k hk => ?_, fun w hE => ?_⟩
  · have hc := spR_cut t.data.toList k (by omega) (by omega) h
    rw [← ba_cut] at hc
    have hs : (t.extract 0 k).size = k := by rw [ByteArray.size_extract]; omega
    by_cases ho : spOk (t.extract 0 k).data.toList = true
    · refine ⟨(spR (t.extract 0 k).data.toList).1, 0, 0, fun w hE => ?_, .inl rfl⟩
      have q := parseSpan_any (t.extract 0 k) w hE
      unfold spV at q
      rw [if_neg (by omega), if_pos ho] at q
      exact q
    · refine ⟨zs7, 34, (k : Int), fun w hE => ?_, .inr ⟨rfl, rfl⟩⟩
      have q := parseSpan_any (t.extract 0 k) w hE
      unfold spV at q
      rw [if_neg (by omega), if_neg ho, hc] at q
      exact q
  · have hc := spR_more t.data.toList (by omega) h hm
    rw [← ba_bang] at hc
    have hs : (t ++ (⟨#[33]⟩ : ByteArray)).data.toList.length = t.size + 1 := by rw [ba_bang, List.length_append, lt]; rfl
    have hs' : (t ++ (⟨#[33]⟩ : ByteArray)).size = t.size + 1 := by rw [← hs]; exact Array.length_toList.symm
    have q := parseSpan_any (t ++ ⟨#[33]⟩) w hE
    unfold spV at q
    rw [if_neg (by omega), if_neg (by
      unfold spOk
      rw [hc, decide_eq_false (by rw [hs]; omega)]
      simp), hc, lt] at q
    exact q
/-- a span's own text -/
def tx (x0 x1 x2 x3 x4 x5 x6 : Int) : ByteArray := ⟨(psL (dayL x0 x1 x2 x3) (clkL x4 x5 x6)).toArray⟩
theorem tx_len (y m v d h i s : Int) (hf : FSx y m v d h i s) : 3 ≤ (psL (dayL y m v d) (clkL h i s)).length ∧ (psL (dayL y m v d) (clkL h i s)).length ≤ 63 := by
  obtain ⟨⟨o0, o1, o2, o3, o4, o5, o6⟩, hw⟩ := hf
  have l0 := mkL_len y 89 o0
  have l1 := mkL_len m 77 o1
  have l2 := mkL_len v 87 o2
  have l3 := mkL_len d 68 o3
  have l4 := mkL_len h 72 o4
  have l5 := mkL_len i 77 o5
  have l6 := mkL_len s 83 o6
  have two : ∀ (n : Int) (c : UInt8), (mkL n c).length = 0 ∨ 2 ≤ (mkL n c).length := fun n c => by
    unfold mkL
    split
    · exact .inl rfl
    · refine .inr ?_
      have := dec_ne n.toNat
      rw [List.length_append]
      show 2 ≤ _ + 1
      omega
  have hv : (mkL v 87).length = 0 ∨ ((mkL y 89).length = 0 ∧ (mkL m 77).length = 0 ∧ (mkL d 68).length = 0) := by
    rcases hw with q | ⟨q1, q2, q3, _⟩
    · left; rw [(mkL_nil v 87).2 q]; rfl
    · right; rw [(mkL_nil y 89).2 q1, (mkL_nil m 77).2 q2, (mkL_nil d 68).2 q3]; exact ⟨rfl, rfl, rfl⟩
  have eD : (dayL y m v d).length = (mkL y 89).length + (mkL m 77).length + (mkL v 87).length + (mkL d 68).length := by unfold dayL; simp only [List.length_append]
  have eC : (clkL h i s).length = (mkL h 72).length + (mkL i 77).length + (mkL s 83).length := by unfold clkL; simp only [List.length_append]
  have t0 := two y 89
  have t1 := two m 77
  have t2 := two v 87
  have t3 := two d 68
  have t4 := two h 72
  have t5 := two i 77
  have t6 := two s 83
  unfold psL
  by_cases hC : clkL h i s = []
  · rw [if_neg (by simp [hC])]
    by_cases hD : dayL y m v d = []
    · rw [if_neg (by simp [hD])]
      decide
    · rw [if_pos hD]
      have := List.length_pos_iff.2 hD
      rw [List.length_cons]
      omega
  · rw [if_pos hC]
    have := List.length_pos_iff.2 hC
    rw [List.length_cons, List.length_append, List.length_cons]
    omega
theorem sc_tx (x0 x1 x2 x3 x4 x5 x6 : Int) (hf : FSx x0 x1 x2 x3 x4 x5 x6) : SC (tx x0 x1 x2 x3 x4 x5 x6) := by
  obtain ⟨h1, h2, _, _⟩ := spk x0 x1 x2 x3 x4 x5 x6 hf _ rfl
  have hl := tx_len x0 x1 x2 x3 x4 x5 x6 hf
  exact sc_of (tx x0 x1 x2 x3 x4 x5 x6) hl.1 hl.2 (by show (spR (psL _ _)).2 = _; rw [h1]; rfl) h2
abbrev kText : ByteArray := ⟨#[80, 49, 89, 50, 77, 51, 68, 84, 52, 72, 53, 77, 54, 83]⟩
theorem sc_k : SC kText := sc_of kText (by decide) (by decide) (by decide +kernel) (by decide +kernel)

theorem printSpan_bad (y m v d h i s : Int) (hf : ¬ FSx y m v d h i s) (w : World) :
    Calls Tryz.prog 10 #[sV y m v d h i s] w fun e w' => e = .returned (.tuple #[.string ⟨#[]⟩, .int .i64 34]) ∧ Below w.heap.size w w' := by
  have HS := hid (fun w => isSpan_any y m v d h i s w)
  rw [decide_eq_false hf] at HS
  clear hf
  unfold sV at *
  go_enter Tryz.func10, Tryz.ntmps10
  go_wp2_with fail
  refine (HS.out _).mono ?_
  rintro e w1 ⟨rfl, hb1⟩
  go_wp2
  go_ret2
  exact ⟨rfl, ((Below.refl _ _).alloc (Nat.le_refl _) _).trans (hb1.mono (by simp))⟩
theorem printSpan_tx (x0 x1 x2 x3 x4 x5 x6 : Int) (hf : FSx x0 x1 x2 x3 x4 x5 x6) (w : World) (hT : HasPw w) :
    Calls Tryz.prog 10 #[sV x0 x1 x2 x3 x4 x5 x6] w fun q w' => q = .returned (.tuple #[.string (tx x0 x1 x2 x3 x4 x5 x6), .int .i64 0]) ∧ Below w.heap.size w w' := by
  refine (printSpan_good x0 x1 x2 x3 x4 x5 x6 hf w hT).mono ?_
  rintro e w' ⟨⟨t, rfl, ht⟩, hb⟩
  have : t = tx x0 x1 x2 x3 x4 x5 x6 := ba_ext (by rw [ht]; exact List.toList_toArray.symm)
  rw [this]
  exact ⟨rfl, hb⟩
end Go.Proofs.YtjpglgemnaknhaaGreatDoor
