/-
  CalShows: the document's own PrintInstant, and the law's own walk.
-/
import Derived.Test.YtjjkfhpiapnjlacDoorShows
import Derived.Stop.LaidErr
namespace Go.Proofs.YtjjkfhpiapnjlacDoor
open Go.RowKit
set_option maxRecDepth 100000

set_option maxHeartbeats 2000000 in
theorem refPrintInstant_zero (t : Int) (ht : InstS t) (hx : InstS (t + 60 * 0)) (w : World) :
    Calls Tryd.prog 20 #[.int .i64 t, .int .i64 0] w fun e w' => (∃ u : ByteArray, e = .returned (.tuple #[.string u, .int .i64 0]) ∧ u.data.toList = piL (t + 60 * 0) 0) ∧ Below w.heap.size w w' := by
  unfold InstS at ht hx
  have hpi : piL (t + 60 * 0) 0 = pdL 0 (dY ((t + 60 * 0) / 86400)) (dM ((t + 60 * 0) / 86400)) (dD ((t + 60 * 0) / 86400)) ++ [84] ++ ckL ((t + 60 * 0) % 86400 / 3600) ((t + 60 * 0) % 86400 / 60 % 60) ((t + 60 * 0) % 86400 % 60) ++ zL 0 := rfl
  have hxe : t + 60 * 0 = t := by omega
  rw [hxe] at hx hpi ⊢
  clear hxe
  obtain ⟨x, hxt⟩ : ∃ x, x = t := ⟨t, rfl⟩
  subst hxt
  have hn : 0 ≤ x / 86400 ∧ x / 86400 ≤ 3652424 := by omega
  have HD := hid (fun w => refDate_any (x / 86400) hn.1 hn.2 w)
  obtain ⟨hv, _⟩ := dt_is (x / 86400) hn
  have HP := hid (fun w => refPrintDate_0 _ _ _ hv w)
  have hl10 := pd0_len _ _ _ hv
  have hr : 0 ≤ x % 86400 ∧ x % 86400 ≤ 86399 := by omega
  have q1 : x.tdiv 86400 = x / 86400 := Int.tdiv_eq_ediv_of_nonneg hx.1
  have q2 : x.tmod 86400 = x % 86400 := Int.tmod_eq_emod_of_nonneg hx.1
  have q3 : (x % 86400).tdiv 3600 = x % 86400 / 3600 := Int.tdiv_eq_ediv_of_nonneg hr.1
  have q4 : (x % 86400).tdiv 60 = x % 86400 / 60 := Int.tdiv_eq_ediv_of_nonneg hr.1
  have q5 : (x % 86400 / 60).tmod 60 = x % 86400 / 60 % 60 := Int.tmod_eq_emod_of_nonneg (by omega)
  have q6 : (x % 86400).tmod 60 = x % 86400 % 60 := Int.tmod_eq_emod_of_nonneg hr.1
  have b4 : 0 ≤ x % 86400 / 60 ∧ x % 86400 / 60 ≤ 1439 := by omega
  have b3 : 0 ≤ x % 86400 / 3600 ∧ x % 86400 / 3600 ≤ 23 := by omega
  have b5 : 0 ≤ x % 86400 / 60 % 60 ∧ x % 86400 / 60 % 60 ≤ 59 := by omega
  have b6 : 0 ≤ x % 86400 % 60 ∧ x % 86400 % 60 ≤ 59 := by omega
  have HPI := hid hpi
  clear hpi hv
  generalize piL x 0 = RL at *
  generalize x % 86400 / 60 % 60 = i at *
  generalize x % 86400 / 60 = q at *
  generalize x % 86400 / 3600 = h at *
  generalize x % 86400 % 60 = s at *
  have hck : ckL h i s = padD h.toNat 2 ++ [58] ++ padD i.toNat 2 ++ [58] ++ padD s.toNat 2 := rfl
  have HCK := hid hck
  clear hck
  generalize ckL h i s = CL at *
  generalize pdL 0 (dY (x / 86400)) (dM (x / 86400)) (dD (x / 86400)) = PL at *
  generalize dY (x / 86400) = y at *
  generalize dM (x / 86400) = m at *
  generalize dD (x / 86400) = d at *
  generalize x / 86400 = n at *
  generalize x % 86400 = r at *
  have PH := hid (fun w1 w hx => rpad2 h (by omega) (by omega) w1 w hx)
  have PI := hid (fun w1 w hx => rpad2 i (by omega) (by omega) w1 w hx)
  have PS := hid (fun w1 w hx => rpad2 s (by omega) (by omega) w1 w hx)
  have zh := two_pT h (by omega) (by omega)
  have zi := two_pT i (by omega) (by omega)
  have zs := two_pT s (by omega) (by omega)
  have LH := hid (pT_list h 2)
  have LI := hid (pT_list i 2)
  have LS := hid (pT_list s 2)
  generalize pT h 2 = TH at *
  generalize pT i 2 = TI at *
  generalize pT s 2 = TS at *
  unfold dV at *
  go_enter Tryd.func20, Tryd.ntmps20
  go_wp2_with fail
  refine (HD.out _).mono ?_
  rintro e w1 ⟨rfl, hb1⟩
  clear HD
  go_wp2_with fail
  refine (HP.out _).mono ?_
  rintro e w2 ⟨⟨T, rfl, hT⟩, hb2⟩
  have hTs : T.size = 10 := by rw [← len_ba, hT, hl10]
  have LT := hid hT
  have B2 := hb1.trans (hb2.mono hb1.size)
  clear hb1 hb2 HP hT
  go_wp2_with fail
  refine (PH.out w2 _ (Below.refl _ _)).mono ?_
  rintro e w3 ⟨rfl, s3⟩
  go_wp2_with fail
  refine (PI.out w2 _ s3).mono ?_
  rintro e w4 ⟨rfl, s4⟩
  go_wp2_with fail
  refine (PS.out w2 _ s4).mono ?_
  rintro e w5 ⟨rfl, s5⟩
  go_wp2
  go_ret2
  refine ⟨⟨_, rfl, ?_⟩, B2.trans (Below.mono s5 B2.size)⟩
  rw [HPI.out, HCK.out]
  simp only [ba_app, LT.out, LH.out, LI.out, LS.out]
  simp [zL]

set_option maxHeartbeats 2000000 in
theorem refPrintInstant_pos (t Z : Int) (ht : InstS t) (hz : 1 ≤ Z ∧ Z ≤ 1439) (hx : InstS (t + 60 * Z)) (w : World) :
    Calls Tryd.prog 20 #[.int .i64 t, .int .i64 Z] w fun e w' => (∃ u : ByteArray, e = .returned (.tuple #[.string u, .int .i64 0]) ∧ u.data.toList = piL (t + 60 * Z) Z) ∧ Below w.heap.size w w' := by
  unfold InstS at ht hx
  have hpi : piL (t + 60 * Z) Z = pdL 0 (dY ((t + 60 * Z) / 86400)) (dM ((t + 60 * Z) / 86400)) (dD ((t + 60 * Z) / 86400)) ++ [84] ++ ckL ((t + 60 * Z) % 86400 / 3600) ((t + 60 * Z) % 86400 / 60 % 60) ((t + 60 * Z) % 86400 % 60) ++ zL Z := rfl
  obtain ⟨x, hxe⟩ : ∃ x, t + 60 * Z = x := ⟨_, rfl⟩
  rw [hxe] at hx hpi ⊢
  have hn : 0 ≤ x / 86400 ∧ x / 86400 ≤ 3652424 := by omega
  have HD := hid (fun w => refDate_any (x / 86400) hn.1 hn.2 w)
  obtain ⟨hv, _⟩ := dt_is (x / 86400) hn
  have HP := hid (fun w => refPrintDate_0 _ _ _ hv w)
  have hl10 := pd0_len _ _ _ hv
  have hr : 0 ≤ x % 86400 ∧ x % 86400 ≤ 86399 := by omega
  have q1 : x.tdiv 86400 = x / 86400 := Int.tdiv_eq_ediv_of_nonneg hx.1
  have q2 : x.tmod 86400 = x % 86400 := Int.tmod_eq_emod_of_nonneg hx.1
  have q3 : (x % 86400).tdiv 3600 = x % 86400 / 3600 := Int.tdiv_eq_ediv_of_nonneg hr.1
  have q4 : (x % 86400).tdiv 60 = x % 86400 / 60 := Int.tdiv_eq_ediv_of_nonneg hr.1
  have q5 : (x % 86400 / 60).tmod 60 = x % 86400 / 60 % 60 := Int.tmod_eq_emod_of_nonneg (by omega)
  have q6 : (x % 86400).tmod 60 = x % 86400 % 60 := Int.tmod_eq_emod_of_nonneg hr.1
  have b4 : 0 ≤ x % 86400 / 60 ∧ x % 86400 / 60 ≤ 1439 := by omega
  have b3 : 0 ≤ x % 86400 / 3600 ∧ x % 86400 / 3600 ≤ 23 := by omega
  have b5 : 0 ≤ x % 86400 / 60 % 60 ∧ x % 86400 / 60 % 60 ≤ 59 := by omega
  have b6 : 0 ≤ x % 86400 % 60 ∧ x % 86400 % 60 ≤ 59 := by omega
  have HPI := hid hpi
  clear hpi hv
  generalize piL x Z = RL at *
  generalize x % 86400 / 60 % 60 = i at *
  generalize x % 86400 / 60 = q at *
  generalize x % 86400 / 3600 = h at *
  generalize x % 86400 % 60 = s at *
  have hck : ckL h i s = padD h.toNat 2 ++ [58] ++ padD i.toNat 2 ++ [58] ++ padD s.toNat 2 := rfl
  have HCK := hid hck
  clear hck
  generalize ckL h i s = CL at *
  generalize pdL 0 (dY (x / 86400)) (dM (x / 86400)) (dD (x / 86400)) = PL at *
  generalize dY (x / 86400) = y at *
  generalize dM (x / 86400) = m at *
  generalize dD (x / 86400) = d at *
  generalize x / 86400 = n at *
  generalize x % 86400 = r at *
  have PH := hid (fun w1 w hx => rpad2 h (by omega) (by omega) w1 w hx)
  have PI := hid (fun w1 w hx => rpad2 i (by omega) (by omega) w1 w hx)
  have PS := hid (fun w1 w hx => rpad2 s (by omega) (by omega) w1 w hx)
  have zh := two_pT h (by omega) (by omega)
  have zi := two_pT i (by omega) (by omega)
  have zs := two_pT s (by omega) (by omega)
  have LH := hid (pT_list h 2)
  have LI := hid (pT_list i 2)
  have LS := hid (pT_list s 2)
  generalize pT h 2 = TH at *
  generalize pT i 2 = TI at *
  generalize pT s 2 = TS at *
  have ha : Z.tdiv 60 = Z / 60 := Int.tdiv_eq_ediv_of_nonneg (by omega)
  have hb : Z.tmod 60 = Z % 60 := Int.tmod_eq_emod_of_nonneg (by omega)
  have bza : 0 ≤ Z / 60 ∧ Z / 60 ≤ 23 := by omega
  have bzb : 0 ≤ Z % 60 ∧ Z % 60 ≤ 59 := by omega
  have HZL := hid (show zL Z = znL 43 (Z / 60) (Z % 60) by unfold zL; rw [if_neg (by omega), if_neg (by omega)])
  have PA := hid (fun w1 w hx => rpad2 (Z / 60) (by omega) (by omega) w1 w hx)
  have PB := hid (fun w1 w hx => rpad2 (Z % 60) (by omega) (by omega) w1 w hx)
  have za := two_pT (Z / 60) (by omega) (by omega)
  have zb := two_pT (Z % 60) (by omega) (by omega)
  have LA := hid (pT_list (Z / 60) 2)
  have LB := hid (pT_list (Z % 60) 2)
  generalize pT (Z / 60) 2 = TA at *
  generalize pT (Z % 60) 2 = TB at *
  generalize Z / 60 = a at *
  generalize Z % 60 = b at *
  have e0 : (Z == 0) = false := by simp; omega
  have e1 : decide (Z < 0) = false := by exact decide_eq_false (by omega)
  unfold dV at *
  go_enter Tryd.func20, Tryd.ntmps20
  go_wp2_with fail
  refine (HD.out _).mono ?_
  rintro e w1 ⟨rfl, hb1⟩
  clear HD
  go_wp2_with fail
  refine (HP.out _).mono ?_
  rintro e w2 ⟨⟨T, rfl, hT⟩, hb2⟩
  have hTs : T.size = 10 := by rw [← len_ba, hT, hl10]
  have LT := hid hT
  have B2 := hb1.trans (hb2.mono hb1.size)
  clear hb1 hb2 HP hT
  go_wp2_with fail
  refine (PH.out w2 _ (Below.refl _ _)).mono ?_
  rintro e w3 ⟨rfl, s3⟩
  go_wp2_with fail
  refine (PI.out w2 _ s3).mono ?_
  rintro e w4 ⟨rfl, s4⟩
  go_wp2_with fail
  refine (PS.out w2 _ s4).mono ?_
  rintro e w5 ⟨rfl, s5⟩
  go_wp2_with fail
  refine (PA.out w2 _ s5).mono ?_
  rintro e w6 ⟨rfl, s6⟩
  go_wp2_with fail
  refine (PB.out w2 _ s6).mono ?_
  rintro e w7 ⟨rfl, s7⟩
  go_wp2
  go_ret2
  refine ⟨⟨_, rfl, ?_⟩, B2.trans (Below.mono s7 B2.size)⟩
  rw [HPI.out, HCK.out, HZL.out]
  simp only [ba_app, LT.out, LH.out, LI.out, LS.out, LA.out, LB.out]
  simp [znL]

set_option maxHeartbeats 2000000 in
theorem refPrintInstant_neg (t Z : Int) (ht : InstS t) (hz : 1 ≤ Z ∧ Z ≤ 1439) (hx : InstS (t + 60 * (-Z))) (w : World) :
    Calls Tryd.prog 20 #[.int .i64 t, .int .i64 (-Z)] w fun e w' => (∃ u : ByteArray, e = .returned (.tuple #[.string u, .int .i64 0]) ∧ u.data.toList = piL (t + 60 * (-Z)) (-Z)) ∧ Below w.heap.size w w' := by
  unfold InstS at ht hx
  have hpi : piL (t + 60 * (-Z)) (-Z) = pdL 0 (dY ((t + 60 * (-Z)) / 86400)) (dM ((t + 60 * (-Z)) / 86400)) (dD ((t + 60 * (-Z)) / 86400)) ++ [84] ++ ckL ((t + 60 * (-Z)) % 86400 / 3600) ((t + 60 * (-Z)) % 86400 / 60 % 60) ((t + 60 * (-Z)) % 86400 % 60) ++ zL (-Z) := rfl
  obtain ⟨x, hxe⟩ : ∃ x, t + 60 * (-Z) = x := ⟨_, rfl⟩
  rw [hxe] at hx hpi ⊢
  have hn : 0 ≤ x / 86400 ∧ x / 86400 ≤ 3652424 := by omega
  have HD := hid (fun w => refDate_any (x / 86400) hn.1 hn.2 w)
  obtain ⟨hv, _⟩ := dt_is (x / 86400) hn
  have HP := hid (fun w => refPrintDate_0 _ _ _ hv w)
  have hl10 := pd0_len _ _ _ hv
  have hr : 0 ≤ x % 86400 ∧ x % 86400 ≤ 86399 := by omega
  have q1 : x.tdiv 86400 = x / 86400 := Int.tdiv_eq_ediv_of_nonneg hx.1
  have q2 : x.tmod 86400 = x % 86400 := Int.tmod_eq_emod_of_nonneg hx.1
  have q3 : (x % 86400).tdiv 3600 = x % 86400 / 3600 := Int.tdiv_eq_ediv_of_nonneg hr.1
  have q4 : (x % 86400).tdiv 60 = x % 86400 / 60 := Int.tdiv_eq_ediv_of_nonneg hr.1
  have q5 : (x % 86400 / 60).tmod 60 = x % 86400 / 60 % 60 := Int.tmod_eq_emod_of_nonneg (by omega)
  have q6 : (x % 86400).tmod 60 = x % 86400 % 60 := Int.tmod_eq_emod_of_nonneg hr.1
  have b4 : 0 ≤ x % 86400 / 60 ∧ x % 86400 / 60 ≤ 1439 := by omega
  have b3 : 0 ≤ x % 86400 / 3600 ∧ x % 86400 / 3600 ≤ 23 := by omega
  have b5 : 0 ≤ x % 86400 / 60 % 60 ∧ x % 86400 / 60 % 60 ≤ 59 := by omega
  have b6 : 0 ≤ x % 86400 % 60 ∧ x % 86400 % 60 ≤ 59 := by omega
  have HPI := hid hpi
  clear hpi hv
  generalize piL x (-Z) = RL at *
  generalize x % 86400 / 60 % 60 = i at *
  generalize x % 86400 / 60 = q at *
  generalize x % 86400 / 3600 = h at *
  generalize x % 86400 % 60 = s at *
  have hck : ckL h i s = padD h.toNat 2 ++ [58] ++ padD i.toNat 2 ++ [58] ++ padD s.toNat 2 := rfl
  have HCK := hid hck
  clear hck
  generalize ckL h i s = CL at *
  generalize pdL 0 (dY (x / 86400)) (dM (x / 86400)) (dD (x / 86400)) = PL at *
  generalize dY (x / 86400) = y at *
  generalize dM (x / 86400) = m at *
  generalize dD (x / 86400) = d at *
  generalize x / 86400 = n at *
  generalize x % 86400 = r at *
  have PH := hid (fun w1 w hx => rpad2 h (by omega) (by omega) w1 w hx)
  have PI := hid (fun w1 w hx => rpad2 i (by omega) (by omega) w1 w hx)
  have PS := hid (fun w1 w hx => rpad2 s (by omega) (by omega) w1 w hx)
  have zh := two_pT h (by omega) (by omega)
  have zi := two_pT i (by omega) (by omega)
  have zs := two_pT s (by omega) (by omega)
  have LH := hid (pT_list h 2)
  have LI := hid (pT_list i 2)
  have LS := hid (pT_list s 2)
  generalize pT h 2 = TH at *
  generalize pT i 2 = TI at *
  generalize pT s 2 = TS at *
  have ha : Z.tdiv 60 = Z / 60 := Int.tdiv_eq_ediv_of_nonneg (by omega)
  have hb : Z.tmod 60 = Z % 60 := Int.tmod_eq_emod_of_nonneg (by omega)
  have bza : 0 ≤ Z / 60 ∧ Z / 60 ≤ 23 := by omega
  have bzb : 0 ≤ Z % 60 ∧ Z % 60 ≤ 59 := by omega
  have HZL := hid (show zL (-Z) = znL 45 (Z / 60) (Z % 60) by unfold zL; rw [if_neg (by omega), if_pos (by omega), Int.neg_neg])
  have PA := hid (fun w1 w hx => rpad2 (Z / 60) (by omega) (by omega) w1 w hx)
  have PB := hid (fun w1 w hx => rpad2 (Z % 60) (by omega) (by omega) w1 w hx)
  have za := two_pT (Z / 60) (by omega) (by omega)
  have zb := two_pT (Z % 60) (by omega) (by omega)
  have LA := hid (pT_list (Z / 60) 2)
  have LB := hid (pT_list (Z % 60) 2)
  generalize pT (Z / 60) 2 = TA at *
  generalize pT (Z % 60) 2 = TB at *
  generalize Z / 60 = a at *
  generalize Z % 60 = b at *
  have e0 : ((-Z) == 0) = false := by simp; omega
  have e1 : decide ((-Z) < 0) = true := by exact decide_eq_true (by omega)
  unfold dV at *
  go_enter Tryd.func20, Tryd.ntmps20
  go_wp2_with fail
  refine (HD.out _).mono ?_
  rintro e w1 ⟨rfl, hb1⟩
  clear HD
  go_wp2_with fail
  refine (HP.out _).mono ?_
  rintro e w2 ⟨⟨T, rfl, hT⟩, hb2⟩
  have hTs : T.size = 10 := by rw [← len_ba, hT, hl10]
  have LT := hid hT
  have B2 := hb1.trans (hb2.mono hb1.size)
  clear hb1 hb2 HP hT
  go_wp2_with fail
  refine (PH.out w2 _ (Below.refl _ _)).mono ?_
  rintro e w3 ⟨rfl, s3⟩
  go_wp2_with fail
  refine (PI.out w2 _ s3).mono ?_
  rintro e w4 ⟨rfl, s4⟩
  go_wp2_with fail
  refine (PS.out w2 _ s4).mono ?_
  rintro e w5 ⟨rfl, s5⟩
  go_wp2_with fail
  refine (PA.out w2 _ s5).mono ?_
  rintro e w6 ⟨rfl, s6⟩
  go_wp2_with fail
  refine (PB.out w2 _ s6).mono ?_
  rintro e w7 ⟨rfl, s7⟩
  go_wp2
  go_ret2
  refine ⟨⟨_, rfl, ?_⟩, B2.trans (Below.mono s7 B2.size)⟩
  rw [HPI.out, HCK.out, HZL.out]
  simp only [ba_app, LT.out, LH.out, LI.out, LS.out, LA.out, LB.out]
  simp [znL]

set_option maxHeartbeats 1000000 in
theorem refPrintInstant_bad (t z : Int) (hb : ¬ (InstS t ∧ (-1439 ≤ z ∧ z ≤ 1439) ∧ InstS (t + 60 * z))) (w : World) :
    Calls Tryd.prog 20 #[.int .i64 t, .int .i64 z] w fun e w' => e = .returned (.tuple #[.string ⟨#[]⟩, .int .i64 (if InstS t ∧ ¬ (-1439 ≤ z ∧ z ≤ 1439) then 33 else 35)]) ∧ Below w.heap.size w w' := by
  by_cases ht : InstS t
  · by_cases hz : -1439 ≤ z ∧ z ≤ 1439
    · have hx : ¬ InstS (t + 60 * z) := fun h => hb ⟨ht, hz, h⟩
      rw [if_neg (fun h => h.2 hz)]
      unfold InstS at ht hx
      clear hb
      by_cases h0 : t + 60 * z < 0
      · clear hx
        go_enter Tryd.func20, Tryd.ntmps20
        go_wp2
        go_ret2
        exact ⟨rfl, Below.refl _ _⟩
      · have h1 : 315569519999 < t + 60 * z := by omega
        clear hx
        go_enter Tryd.func20, Tryd.ntmps20
        go_wp2
        go_ret2
        exact ⟨rfl, Below.refl _ _⟩
    · rw [if_pos ⟨ht, hz⟩]
      unfold InstS at ht
      clear hb
      by_cases h1 : z < -1439
      · clear hz
        go_enter Tryd.func20, Tryd.ntmps20
        go_wp2
        go_ret2
        exact ⟨rfl, Below.refl _ _⟩
      · have h2 : 1439 < z := by omega
        clear hz
        go_enter Tryd.func20, Tryd.ntmps20
        go_wp2
        go_ret2
        exact ⟨rfl, Below.refl _ _⟩
  · rw [if_neg (fun h => ht h.1)]
    unfold InstS at ht
    clear hb
    by_cases h0 : t < 0
    · clear ht
      go_enter Tryd.func20, Tryd.ntmps20
      go_wp2
      go_ret2
      exact ⟨rfl, Below.refl _ _⟩
    · have h1 : 315569519999 < t := by omega
      clear ht
      go_enter Tryd.func20, Tryd.ntmps20
      go_wp2
      go_ret2
      exact ⟨rfl, Below.refl _ _⟩

theorem list_ba {t : ByteArray} {l : List UInt8} (h : t.data.toList = l) : t = ⟨l.toArray⟩ := ba_ext (by rw [h])

/-- both sides answer the same -/
theorem shows_both (t z : Int) : ∃ (u : ByteArray) (n : Int), (∀ w, HasAh w → HasPw w → Calls Tryd.prog 19 #[.int .i64 t, .int .i64 z] w fun x w' => x = .returned (.tuple #[.string u, .int .i64 n]) ∧ Below w.heap.size w w') ∧
    (∀ w, Calls Tryd.prog 20 #[.int .i64 t, .int .i64 z] w fun x w' => x = .returned (.tuple #[.string u, .int .i64 n]) ∧ Below w.heap.size w w') := by
  by_cases hb : InstS t ∧ (-1439 ≤ z ∧ z ≤ 1439) ∧ InstS (t + 60 * z)
  · obtain ⟨h1, h2, h3⟩ := hb
    refine ⟨⟨(piL (t + 60 * z) z).toArray⟩, 0, fun w hA hT => ?_, fun w => ?_⟩
    · refine (printInstant_good t z h1 h2 h3 w hA hT).mono ?_
      rintro e w' ⟨⟨u, rfl, hu⟩, hb⟩
      exact ⟨by rw [list_ba hu], hb⟩
    · by_cases h0 : z = 0
      · subst h0
        refine (refPrintInstant_zero t h1 h3 w).mono ?_
        rintro e w' ⟨⟨u, rfl, hu⟩, hb⟩
        exact ⟨by rw [list_ba hu], hb⟩
      · by_cases hn : z < 0
        · obtain ⟨Z, rfl⟩ : ∃ Z : Int, z = -Z := ⟨-z, by omega⟩
          refine (refPrintInstant_neg t Z h1 (by omega) h3 w).mono ?_
          rintro e w' ⟨⟨u, rfl, hu⟩, hb⟩
          exact ⟨by rw [list_ba hu], hb⟩
        · refine (refPrintInstant_pos t z h1 (by omega) h3 w).mono ?_
          rintro e w' ⟨⟨u, rfl, hu⟩, hb⟩
          exact ⟨by rw [list_ba hu], hb⟩
  · exact ⟨_, _, fun w _ _ => printInstant_bad t z hb w, fun w => refPrintInstant_bad t z hb w⟩

theorem shows_any (t z : Int) (w : World) (hA : HasAh w) (hT : HasPw w) :
    Calls Tryd.prog 6 #[.int .i64 t, .int .i64 z] w fun e w' => e = .returned (.bool true) ∧ Below w.heap.size w w' := by
  obtain ⟨u, n, p, q⟩ := shows_both t z
  have P := hid p
  have Q := hid q
  have HA := hid hA
  have HT := hid hT
  have heq : (u.toList == u.toList) = true := by simp
  clear p q hA hT
  go_enter Tryd.func6, Tryd.ntmps6
  go_wp2_with fail
  refine (P.out _ HA.out HT.out).mono ?_
  rintro e w1 ⟨rfl, hb1⟩
  go_wp2_with fail
  refine (Q.out _).mono ?_
  rintro e w2 ⟨rfl, hb2⟩
  go_wp2
  go_ret
  exact ⟨rfl, hb1.trans (hb2.mono hb1.size)⟩
end Go.Proofs.YtjjkfhpiapnjlacDoor
