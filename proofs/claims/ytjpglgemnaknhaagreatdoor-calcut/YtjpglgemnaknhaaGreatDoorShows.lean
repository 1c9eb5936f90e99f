/-
  CalShows: PrintInstant on both sides, and the law's own walk.
-/
import Derived.Test.YtjpglgemnaknhaaGreatDoorRprint
import Derived.Test.YtjpglgemnaknhaaGreatDoorIns
namespace Go.Proofs.YtjpglgemnaknhaaGreatDoor
open Go.RowKit
set_option maxRecDepth 100000

def ckL (h i s : Int) : List UInt8 := padD h.toNat 2 ++ [58] ++ padD i.toNat 2 ++ [58] ++ padD s.toNat 2
def znL (c : UInt8) (a b : Int) : List UInt8 := [c] ++ padD a.toNat 2 ++ [58] ++ padD b.toNat 2

theorem two_pT (n : Int) (h0 : 0 ≤ n) (h1 : n ≤ 99) : (pT n 2).size = 2 := pT_size n 2 (nDig_lt 2 n.toNat (by omega) (by show n.toNat < 100; omega))
theorem pad2 (n : Int) (h0 : 0 ≤ n) (h1 : n ≤ 99) (w1 w : World) (hT : HasPw w1) (hx : LaterP w1 w) :
    Calls Tryz.prog 33 #[.int .i64 n, .int .i64 2] w fun e w' => e = .returned (.string (pT n 2)) ∧ LaterP w1 w' :=
  padded_since n 2 2 rfl h0 (by omega) (by omega) (by show n.toNat < 100; omega) w1 w hT hx
set_option maxHeartbeats 1000000 in
theorem clockText_any (r q h i s : Int) (hq : r.tdiv 60 = q) (hh : q.tdiv 60 = h) (hi : q.tmod 60 = i) (hs : r.tmod 60 = s) (bq : 0 ≤ q ∧ q ≤ 1439) (bh : 0 ≤ h ∧ h ≤ 23) (bi : 0 ≤ i ∧ i ≤ 59) (bs : 0 ≤ s ∧ s ≤ 59) (w : World) (hT : HasPw w) :
    Calls Tryz.prog 21 #[.int .i64 r] w fun e w' => (∃ t : ByteArray, e = .returned (.string t) ∧ t.data.toList = ckL h i s ∧ t.size = 8) ∧ LaterP w w' := by
  have PH := hid (fun wx hx => pad2 h (by omega) (by omega) w wx hT hx)
  have PI := hid (fun wx hx => pad2 i (by omega) (by omega) w wx hT hx)
  have PS := hid (fun wx hx => pad2 s (by omega) (by omega) w wx hT hx)
  have zh := two_pT h (by omega) (by omega)
  have zi := two_pT i (by omega) (by omega)
  have zs := two_pT s (by omega) (by omega)
  have lh := pT_list h 2
  have li := pT_list i 2
  have ls := pT_list s 2
  generalize pT h 2 = TH at *
  generalize pT i 2 = TI at *
  generalize pT s 2 = TS at *
  have HL := hid (show (TH ++ (⟨#[58]⟩ : ByteArray) ++ TI ++ (⟨#[58]⟩ : ByteArray) ++ TS).data.toList = ckL h i s by rw [ba_app, ba_app, ba_app, ba_app, lh, li, ls]; rfl)
  have HZ := hid (show (TH ++ (⟨#[58]⟩ : ByteArray) ++ TI ++ (⟨#[58]⟩ : ByteArray) ++ TS).size = 8 by
    rw [ByteArray.size_append, ByteArray.size_append, ByteArray.size_append, ByteArray.size_append, zh, zi, zs]; rfl)
  clear lh li ls hT
  go_enter Tryz.func21, Tryz.ntmps21
  go_wp2_with fail
  refine (PH.out _ (Below.refl _ _)).mono ?_
  rintro e w1 ⟨rfl, s1⟩
  go_wp2_with fail
  refine (PI.out _ s1).mono ?_
  rintro e w2 ⟨rfl, s2⟩
  go_wp2_with fail
  refine (PS.out _ s2).mono ?_
  rintro e w3 ⟨rfl, s3⟩
  go_wp2
  go_ret
  exact ⟨⟨_, rfl, HL.out, HZ.out⟩, s3⟩

set_option maxHeartbeats 1000000 in
theorem zoneText_pos (Z a b : Int) (hZ : 1 ≤ Z ∧ Z ≤ 1439) (ha : Z.tdiv 60 = a) (hb : Z.tmod 60 = b) (ba : 0 ≤ a ∧ a ≤ 23) (bb : 0 ≤ b ∧ b ≤ 59) (w : World) (hT : HasPw w) :
    Calls Tryz.prog 22 #[.int .i64 Z] w fun e w' => (∃ t : ByteArray, e = .returned (.string t) ∧ t.data.toList = znL 43 a b ∧ t.size = 6) ∧ LaterP w w' := by
  have PA := hid (fun wx hx => pad2 a (by omega) (by omega) w wx hT hx)
  have PB := hid (fun wx hx => pad2 b (by omega) (by omega) w wx hT hx)
  have za := two_pT a (by omega) (by omega)
  have zb := two_pT b (by omega) (by omega)
  have la := pT_list a 2
  have lb := pT_list b 2
  generalize pT a 2 = TA at *
  generalize pT b 2 = TB at *
  have HL := hid (show ((⟨#[43]⟩ : ByteArray) ++ TA ++ (⟨#[58]⟩ : ByteArray) ++ TB).data.toList = znL 43 a b by rw [ba_app, ba_app, ba_app, la, lb]; rfl)
  have HZ := hid (show ((⟨#[43]⟩ : ByteArray) ++ TA ++ (⟨#[58]⟩ : ByteArray) ++ TB).size = 6 by
    rw [ByteArray.size_append, ByteArray.size_append, ByteArray.size_append, za, zb]; rfl)
  have e0 : (Z == 0) = false := by simp; omega
  have e1 : decide (Z < 0) = false := by exact decide_eq_false (by omega)
  clear la lb hT
  go_enter Tryz.func22, Tryz.ntmps22
  go_wp2_with fail
  refine (PA.out _ (Below.refl _ _)).mono ?_
  rintro e w1 ⟨rfl, s1⟩
  go_wp2_with fail
  refine (PB.out _ s1).mono ?_
  rintro e w2 ⟨rfl, s2⟩
  go_wp2
  go_ret
  exact ⟨⟨_, rfl, HL.out, HZ.out⟩, s2⟩

set_option maxHeartbeats 1000000 in
theorem zoneText_neg (Z a b : Int) (hZ : 1 ≤ Z ∧ Z ≤ 1439) (ha : Z.tdiv 60 = a) (hb : Z.tmod 60 = b) (ba : 0 ≤ a ∧ a ≤ 23) (bb : 0 ≤ b ∧ b ≤ 59) (w : World) (hT : HasPw w) :
    Calls Tryz.prog 22 #[.int .i64 (-Z)] w fun e w' => (∃ t : ByteArray, e = .returned (.string t) ∧ t.data.toList = znL 45 a b ∧ t.size = 6) ∧ LaterP w w' := by
  have PA := hid (fun wx hx => pad2 a (by omega) (by omega) w wx hT hx)
  have PB := hid (fun wx hx => pad2 b (by omega) (by omega) w wx hT hx)
  have za := two_pT a (by omega) (by omega)
  have zb := two_pT b (by omega) (by omega)
  have la := pT_list a 2
  have lb := pT_list b 2
  generalize pT a 2 = TA at *
  generalize pT b 2 = TB at *
  have HL := hid (show ((⟨#[45]⟩ : ByteArray) ++ TA ++ (⟨#[58]⟩ : ByteArray) ++ TB).data.toList = znL 45 a b by rw [ba_app, ba_app, ba_app, la, lb]; rfl)
  have HZ := hid (show ((⟨#[45]⟩ : ByteArray) ++ TA ++ (⟨#[58]⟩ : ByteArray) ++ TB).size = 6 by
    rw [ByteArray.size_append, ByteArray.size_append, ByteArray.size_append, za, zb]; rfl)
  have e0 : ((-Z) == 0) = false := by simp; omega
  have e1 : decide ((-Z) < 0) = true := by exact decide_eq_true (by omega)
  clear la lb hT
  go_enter Tryz.func22, Tryz.ntmps22
  go_wp2_with fail
  refine (PA.out _ (Below.refl _ _)).mono ?_
  rintro e w1 ⟨rfl, s1⟩
  go_wp2_with fail
  refine (PB.out _ s1).mono ?_
  rintro e w2 ⟨rfl, s2⟩
  go_wp2
  go_ret
  exact ⟨⟨_, rfl, HL.out, HZ.out⟩, s2⟩

theorem zoneText_zero (w : World) :
    Calls Tryz.prog 22 #[.int .i64 0] w fun e w' => (∃ t : ByteArray, e = .returned (.string t) ∧ t.data.toList = [90] ∧ t.size ≤ 6) ∧ LaterP w w' := by
  go_enter Tryz.func22, Tryz.ntmps22
  go_wp2
  go_ret
  exact ⟨⟨_, rfl, rfl, by decide⟩, Below.refl _ _⟩

/-- a zone's text -/
def zL (z : Int) : List UInt8 := if z = 0 then [90] else if z < 0 then znL 45 ((-z) / 60) ((-z) % 60) else znL 43 (z / 60) (z % 60)

theorem zoneText_any (z : Int) (hz : -1439 ≤ z ∧ z ≤ 1439) (w : World) (hT : HasPw w) :
    Calls Tryz.prog 22 #[.int .i64 z] w fun e w' => (∃ t : ByteArray, e = .returned (.string t) ∧ t.data.toList = zL z ∧ t.size ≤ 6) ∧ LaterP w w' := by
  unfold zL
  by_cases h0 : z = 0
  · subst h0
    rw [if_pos rfl]
    exact zoneText_zero w
  · rw [if_neg h0]
    by_cases hn : z < 0
    · rw [if_pos hn]
      obtain ⟨Z, rfl⟩ : ∃ Z : Int, z = -Z := ⟨-z, by omega⟩
      rw [Int.neg_neg]
      refine (zoneText_neg Z (Z / 60) (Z % 60) (by omega) (Int.tdiv_eq_ediv_of_nonneg (by omega)) (Int.tmod_eq_emod_of_nonneg (by omega)) (by omega) (by omega) w hT).mono ?_
      rintro e w' ⟨⟨t, rfl, hl, hs⟩, hb⟩
      exact ⟨⟨t, rfl, hl, by omega⟩, hb⟩
    · rw [if_neg hn]
      refine (zoneText_pos z (z / 60) (z % 60) (by omega) (Int.tdiv_eq_ediv_of_nonneg (by omega)) (Int.tmod_eq_emod_of_nonneg (by omega)) (by omega) (by omega) w hT).mono ?_
      rintro e w' ⟨⟨t, rfl, hl, hs⟩, hb⟩
      exact ⟨⟨t, rfl, hl, by omega⟩, hb⟩

theorem pd0_len (y m d : Int) (h : VD y m d) : (pdL 0 y m d).length = 10 := by
  have hl := lg_le y m
  obtain ⟨h1, h2, h3, h4, h5, h6⟩ := h
  show (padD y.toNat 4 ++ [45] ++ padD m.toNat 2 ++ [45] ++ padD d.toNat 2).length = 10
  simp only [List.length_append, List.length_cons, List.length_nil]
  rw [padD_len _ _ (nDig_lt 4 y.toNat (by omega) (by show y.toNat < 10000; omega)), padD_len _ _ (nDig_lt 2 m.toNat (by omega) (by show m.toNat < 100; omega)), padD_len _ _ (nDig_lt 2 d.toNat (by omega) (by show d.toNat < 100; omega))]

/-- an instant's text -/
def piL (x z : Int) : List UInt8 := pdL 0 (dY (x / 86400)) (dM (x / 86400)) (dD (x / 86400)) ++ [84] ++ ckL (x % 86400 / 3600) (x % 86400 / 60 % 60) (x % 86400 % 60) ++ zL z

set_option maxHeartbeats 1000000 in
theorem printInstant_good (t z : Int) (ht : InstS t) (hz : -1439 ≤ z ∧ z ≤ 1439) (hx : InstS (t + 60 * z)) (w : World) (hA : HasAh w) (hT : HasPw w) :
    Calls Tryz.prog 8 #[.int .i64 t, .int .i64 z] w fun e w' => (∃ u : ByteArray, e = .returned (.tuple #[.string u, .int .i64 0]) ∧ u.data.toList = piL (t + 60 * z) z) ∧ Below w.heap.size w w' := by
  have S0 := hid (show Su w w from ⟨hA, hT, Below.refl _ _⟩)
  have I1 := hid (fun w => isInstantS_any t w)
  have I2 := hid (fun w => isInstantS_any (t + 60 * z) w)
  rw [decide_eq_true (show 0 ≤ t ∧ t ≤ 315569519999 from ht)] at I1
  rw [decide_eq_true (show 0 ≤ t + 60 * z ∧ t + 60 * z ≤ 315569519999 from hx)] at I2
  unfold InstS at ht hx
  have hpi : piL (t + 60 * z) z = pdL 0 (dY ((t + 60 * z) / 86400)) (dM ((t + 60 * z) / 86400)) (dD ((t + 60 * z) / 86400)) ++ [84] ++ ckL ((t + 60 * z) % 86400 / 3600) ((t + 60 * z) % 86400 / 60 % 60) ((t + 60 * z) % 86400 % 60) ++ zL z := rfl
  obtain ⟨x, hxe⟩ : ∃ x, t + 60 * z = x := ⟨_, rfl⟩
  rw [hxe] at hx hpi I2 ⊢
  have hn : 0 ≤ x / 86400 ∧ x / 86400 ≤ 3652424 := by omega
  have HD := hid (fun w hA => dateOf_any (x / 86400) hn.1 hn.2 w hA)
  obtain ⟨hv, _⟩ := dt_is (x / 86400) hn
  have HP := hid (fun w hA hT => printDate_0 _ _ _ hv w hA hT)
  have hl10 := pd0_len _ _ _ hv
  have hr : 0 ≤ x % 86400 ∧ x % 86400 ≤ 86399 := by omega
  have q1 : x.tdiv 86400 = x / 86400 := Int.tdiv_eq_ediv_of_nonneg hx.1
  have q2 : x.tmod 86400 = x % 86400 := Int.tmod_eq_emod_of_nonneg hx.1
  have HC := hid (fun w hT => clockText_any (x % 86400) (x % 86400 / 60) (x % 86400 / 3600) (x % 86400 / 60 % 60) (x % 86400 % 60) (Int.tdiv_eq_ediv_of_nonneg (by omega)) (by rw [Int.tdiv_eq_ediv_of_nonneg (by omega)]; omega) (Int.tmod_eq_emod_of_nonneg (by omega)) (Int.tmod_eq_emod_of_nonneg (by omega)) (by omega) (by omega) (by omega) (by omega) w hT)
  have HZ := hid (fun w hT => zoneText_any z hz w hT)
  have HPI := hid hpi
  clear hpi hv hA hT
  generalize piL x z = RL at *
  generalize zL z = ZL at *
  generalize ckL (x % 86400 / 3600) (x % 86400 / 60 % 60) (x % 86400 % 60) = CL at *
  generalize pdL 0 (dY (x / 86400)) (dM (x / 86400)) (dD (x / 86400)) = PL at *
  generalize dY (x / 86400) = y at *
  generalize dM (x / 86400) = m at *
  generalize dD (x / 86400) = d at *
  generalize x / 86400 = n at *
  generalize x % 86400 = r at *
  have b1 : decide (z < -1439) = false := decide_eq_false (by omega)
  have b2 : decide (1439 < z) = false := decide_eq_false (by omega)
  unfold dV at *
  go_enter Tryz.func8, Tryz.ntmps8
  go_wp2_with fail
  refine (I1.out _).mono ?_
  rintro e w' ⟨rfl, rfl⟩
  go_wp2_with fail
  refine (I2.out _).mono ?_
  rintro e w' ⟨rfl, rfl⟩
  go_wp2_with fail
  refine (HD.out _ S0.out.1).mono ?_
  rintro e w1 ⟨rfl, hb1⟩
  have S1 := hid (S0.out.call hb1)
  clear hb1 HD
  go_wp2_with fail
  refine (HP.out _ S1.out.1 S1.out.2.1).mono ?_
  rintro e w2 ⟨⟨T, rfl, hT⟩, hb2⟩
  have S2 := hid (S1.out.call hb2)
  have hTs : T.size = 10 := by rw [← len_ba, hT, hl10]
  have LT := hid hT
  clear hb2 HP hT
  go_wp2_with fail
  refine (HC.out _ S2.out.2.1).mono ?_
  rintro e w3 ⟨⟨C, rfl, hC, hCs⟩, hb3⟩
  have S3 := hid (S2.out.call hb3)
  have LC := hid hC
  clear hb3 HC hC
  go_wp2_with fail
  refine (HZ.out _ S3.out.2.1).mono ?_
  rintro e w4 ⟨⟨Q, rfl, hQ, hQs⟩, hb4⟩
  have S4 := hid (S3.out.call hb4)
  have LQ := hid hQ
  clear hb4 HZ hQ
  go_wp2
  go_ret2
  exact ⟨⟨_, rfl, by rw [HPI.out, ba_app, ba_app, ba_app, LT.out, LC.out, LQ.out]⟩, S4.out.2.2⟩

set_option maxHeartbeats 1000000 in
theorem printInstant_bad (t z : Int) (hb : ¬ (InstS t ∧ (-1439 ≤ z ∧ z ≤ 1439) ∧ InstS (t + 60 * z))) (w : World) :
    Calls Tryz.prog 8 #[.int .i64 t, .int .i64 z] w fun e w' => e = .returned (.tuple #[.string ⟨#[]⟩, .int .i64 (if InstS t ∧ ¬ (-1439 ≤ z ∧ z ≤ 1439) then 33 else 35)]) ∧ Below w.heap.size w w' := by
  have I1 := hid (fun w => isInstantS_any t w)
  by_cases ht : InstS t
  · rw [decide_eq_true (show 0 ≤ t ∧ t ≤ 315569519999 from ht)] at I1
    by_cases hz : -1439 ≤ z ∧ z ≤ 1439
    · have hx : ¬ InstS (t + 60 * z) := fun h => hb ⟨ht, hz, h⟩
      rw [if_neg (fun h => h.2 hz)]
      have I2 := hid (fun w => isInstantS_any (t + 60 * z) w)
      rw [decide_eq_false (show ¬ (0 ≤ t + 60 * z ∧ t + 60 * z ≤ 315569519999) from hx)] at I2
      have b1 : decide (z < -1439) = false := decide_eq_false (by omega)
      have b2 : decide (1439 < z) = false := decide_eq_false (by omega)
      unfold InstS at ht
      clear hb hx
      go_enter Tryz.func8, Tryz.ntmps8
      go_wp2_with fail
      refine (I1.out _).mono ?_
      rintro e w' ⟨rfl, rfl⟩
      go_wp2_with fail
      refine (I2.out _).mono ?_
      rintro e w' ⟨rfl, rfl⟩
      go_wp2
      go_ret2
      exact ⟨rfl, Below.refl _ _⟩
    · rw [if_pos ⟨ht, hz⟩]
      clear hb
      by_cases h1 : z < -1439
      · go_enter Tryz.func8, Tryz.ntmps8
        go_wp2_with fail
        refine (I1.out _).mono ?_
        rintro e w' ⟨rfl, rfl⟩
        go_wp2
        go_ret2
        exact ⟨rfl, Below.refl _ _⟩
      · have h2 : 1439 < z := by omega
        clear hz
        go_enter Tryz.func8, Tryz.ntmps8
        go_wp2_with fail
        refine (I1.out _).mono ?_
        rintro e w' ⟨rfl, rfl⟩
        go_wp2
        go_ret2
        exact ⟨rfl, Below.refl _ _⟩
  · rw [decide_eq_false (show ¬ (0 ≤ t ∧ t ≤ 315569519999) from ht)] at I1
    rw [if_neg (fun h => ht h.1)]
    clear hb ht
    go_enter Tryz.func8, Tryz.ntmps8
    go_wp2_with fail
    refine (I1.out _).mono ?_
    rintro e w' ⟨rfl, rfl⟩
    go_wp2
    go_ret2
    exact ⟨rfl, Below.refl _ _⟩
end Go.Proofs.YtjpglgemnaknhaaGreatDoor
