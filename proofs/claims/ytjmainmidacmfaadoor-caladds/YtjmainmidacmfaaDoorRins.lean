/-
  The document's own AddSpan.
-/
import Derived.Test.YtjmainmidacmfaaDoorCins
import Derived.Test.YtjmainmidacmfaaDoorRday
import Derived.Test.YtjmainmidacmfaaDoorRspan
namespace Go.Proofs.YtjmainmidacmfaaDoor
open Go.RowKit
set_option maxRecDepth 100000

theorem refAddSpan_noInst (t y m v d h i s : Int) (back : Bool) (ht : ¬ Inst t) (w : World) :
    Calls Tryd.prog 18 #[.int .i64 t, sV y m v d h i s, .bool back] w fun e w' => e = .returned (rV 0 35) ∧ Below w.heap.size w w' := by
  unfold Inst at ht
  unfold sV rV
  by_cases h0 : t < 0
  · clear ht
    go_enter Tryd.func18, Tryd.ntmps18
    go_wp2
    go_ret2
    exact ⟨rfl, (Below.refl _ _).alloc (Nat.le_refl _) _⟩
  · have h1 : 315569519999 < t := by omega
    clear ht
    go_enter Tryd.func18, Tryd.ntmps18
    go_wp2
    go_ret2
    exact ⟨rfl, (Below.refl _ _).alloc (Nat.le_refl _) _⟩

theorem refAddSpan_noSpan (t y m v d h i s : Int) (back : Bool) (ht : Inst t) (hf : ¬ FSx y m v d h i s) (w : World) :
    Calls Tryd.prog 18 #[.int .i64 t, sV y m v d h i s, .bool back] w fun e w' => e = .returned (rV 0 34) ∧ Below w.heap.size w w' := by
  have HS := hid (fun w => refFits_any y m v d h i s w)
  rw [decide_eq_false hf] at HS
  unfold Inst at ht
  clear hf
  unfold sV rV at *
  go_enter Tryd.func18, Tryd.ntmps18
  go_wp2_with fail
  refine (HS.out _).mono ?_
  rintro e w' ⟨rfl, hb⟩
  go_wp2
  go_ret2
  exact ⟨rfl, ((Below.refl _ _).alloc (Nat.le_refl _) _).trans (hb.mono (by simp))⟩

set_option maxHeartbeats 12000000 in
theorem refAddSpan_good (t y m v d h i s : Int) (back : Bool) (ht : Inst t) (hf : FSx y m v d h i s) (w : World) (mo se : Int) (hmo : mo = if back then -(12 * y + m) else 12 * y + m) (hse : se = if back then -(spSe v d h i s) else spSe v d h i s) :
    Calls Tryd.prog 18 #[.int .i64 t, sV y m v d h i s, .bool back] w fun e w' => e = .returned (addV t mo se) ∧ Below w.heap.size w w' := by
  have HS := hid (fun w => refFits_any y m v d h i s w)
  rw [decide_eq_true hf] at HS
  have hsb := span_bounds y m v d h i s hf
  have hmb : -13000000000 ≤ mo ∧ mo ≤ 13000000000 := by cases back <;> simp at hmo <;> omega
  have hsb2 : -2000000000000000 ≤ se ∧ se ≤ 2000000000000000 := by cases back <;> simp at hse <;> omega
  unfold Inst at ht
  have hn : 0 ≤ t / 86400 ∧ t / 86400 ≤ 3652424 := by omega
  have HD := hid (fun w => refDate_any (t / 86400) hn.1 hn.2 w)
  have hq : t.tdiv 86400 = t / 86400 := Int.tdiv_eq_ediv_of_nonneg ht.1
  have hr : t.tmod 86400 = t % 86400 := Int.tmod_eq_emod_of_nonneg ht.1
  have hr1 : 0 ≤ t % 86400 ∧ t % 86400 < 86400 := by omega
  have hamr := am_range (t / 86400) mo hn
  obtain ⟨⟨a1, a2, a3, a4, a5, a6, a7⟩, _⟩ := hf
  unfold okN at a1 a2 a3 a4 a5 a6 a7
  have hq1 : (7 * v + d) * 86400 + h * 3600 + i * 60 + s = spSe v d h i s := by unfold spSe; omega
  have HHS := hid hsb
  clear hsb
  have hvd := am_vd (t / 86400) mo hn
  obtain ⟨hdv, _⟩ := dt_is (t / 86400) hn
  have hy0 : 0 ≤ dY (t / 86400) ∧ dY (t / 86400) ≤ 9999 := ⟨hdv.1, hdv.2.1⟩
  have hm0 : 1 ≤ dM (t / 86400) ∧ dM (t / 86400) ≤ 12 := ⟨hdv.2.2.1, hdv.2.2.2.1⟩
  have hd0 : 1 ≤ dD (t / 86400) ∧ dD (t / 86400) ≤ 31 := ⟨hdv.2.2.2.2.1, by have := hdv.2.2.2.2.2; have := lg_le (dY (t / 86400)) (dM (t / 86400)); omega⟩
  have hmk : 12 * dY (t / 86400) + dM (t / 86400) - 1 + mo = mk (t / 86400) mo := rfl
  clear hdv
  by_cases hmon : Mon (mk (t / 86400) mo)
  · have hamr := hamr hmon.1 hmon.2
    have hvd := hvd hmon.1 hmon.2
    have hX : am (t / 86400) mo * 86400 + t % 86400 + se = isum t mo se := by unfold isum; omega
    have hv1 : Inst (isum t mo se) → addV t mo se = rV (isum t mo se) 0 := fun x => by unfold addV; rw [if_pos hmon, if_pos x]
    have hv2 : ¬ Inst (isum t mo se) → addV t mo se = rV 0 35 := fun x => by unfold addV; rw [if_pos hmon, if_neg x]
    have HV1 := hid hv1
    have HV2 := hid hv2
    have HN := hid (fun w => refNumber_any _ _ _ hvd w)
    have hnn : nb (mk (t / 86400) mo / 12) (mk (t / 86400) mo % 12 + 1) (aD (t / 86400) mo) = am (t / 86400) mo := rfl
    rw [hnn] at HN
    have hk0 := hmon.1
    have hk1 := hmon.2
    have HL := hid (fun w => refLong_any (mk (t / 86400) mo / 12) (mk (t / 86400) mo % 12 + 1) (by omega) w)
    have hg := lg_le (mk (t / 86400) mo / 12) (mk (t / 86400) mo % 12 + 1)
    have had : (dD (t / 86400) ≤ lg (mk (t / 86400) mo / 12) (mk (t / 86400) mo % 12 + 1) ∧ aD (t / 86400) mo = dD (t / 86400)) ∨ (lg (mk (t / 86400) mo / 12) (mk (t / 86400) mo % 12 + 1) < dD (t / 86400) ∧ aD (t / 86400) mo = lg (mk (t / 86400) mo / 12) (mk (t / 86400) mo % 12 + 1)) := by unfold aD; omega
    have q12 : (mk (t / 86400) mo).tdiv 12 = mk (t / 86400) mo / 12 := Int.tdiv_eq_ediv_of_nonneg hk0
    have r12 : (mk (t / 86400) mo).tmod 12 = mk (t / 86400) mo % 12 := Int.tmod_eq_emod_of_nonneg hk0
    have q12b : 0 ≤ mk (t / 86400) mo / 12 ∧ mk (t / 86400) mo / 12 ≤ 9999 := by omega
    have r12b : 0 ≤ mk (t / 86400) mo % 12 ∧ mk (t / 86400) mo % 12 ≤ 11 := by omega
    clear hmon hv1 hv2 hnn hvd
    generalize lg (mk (t / 86400) mo / 12) (mk (t / 86400) mo % 12 + 1) = g at *
    generalize addV t mo se = V at *
    generalize isum t mo se = X at *
    generalize am (t / 86400) mo = a at *
    generalize aD (t / 86400) mo = d2 at *
    generalize mk (t / 86400) mo = k at *
    generalize dY (t / 86400) = yy at *
    generalize dM (t / 86400) = mm at *
    generalize dD (t / 86400) = dd at *
    generalize t / 86400 = n at *
    generalize t % 86400 = rr at *
    unfold sV rV dV at *
    by_cases hin : Inst X
    · have HIN := hid hin
      have x0 := hin.1
      have x1 := hin.2
      clear hin
      cases back
      · have hmo' : 12 * y + m = mo := hmo.symm
        have hse' : spSe v d h i s = se := hse.symm
        rw [hse'] at hq1
        clear hmo hse hse'
        rcases had with ⟨hdg, rfl⟩ | ⟨hdg, rfl⟩
        · have bb : decide (g < d2) = false := decide_eq_false (by omega)
          go_enter Tryd.func18, Tryd.ntmps18
          go_wp2_with fail
          refine (HS.out _).mono ?_
          rintro e w1 ⟨rfl, hb1⟩
          have HX := hid ((SBox.new w y m v d h i s).later hb1)
          have hB1 : Below w.heap.size w w1 := ((Below.refl _ _).alloc (Nat.le_refl _) _).trans (hb1.mono (by simp))
          clear hb1 HS
          go_wp2_with fail
          refine (HD.out _).mono ?_
          rintro e w2 ⟨rfl, hb2⟩
          obtain ⟨k0, k1, k2, k3, k4, k5, k6, kz⟩ := (HX.out.later hb2).facts
          have hB2 := hB1.trans (hb2.mono hB1.size)
          clear hb2 HX HD hB1
          go_wp2_with fail
          go_quiet (first
            | (go_at_call 35; exact Calls.quiet_of_same (HL.out _)))
          have HB := hid ((Box.new w2 (k / 12) (k % 12 + 1) d2).later (below_drewN (Below.refl _ _) nq))
          have hB3 : Below w.heap.size w (World.drewN (w2.alloc (.cells #[.int .i64 (k / 12), .int .i64 (k % 12 + 1), .int .i64 d2] 36)) nq) := below_drewN (hB2.alloc hB2.size _) nq
          have hz2 := hB2.size
          clear hB2 k0 k1 k2 k3 k4 k5 k6 kz
          generalize World.drewN (w2.alloc (.cells #[.int .i64 (k / 12), .int .i64 (k % 12 + 1), .int .i64 d2] 36)) nq = w3 at *
          generalize w2.heap.size = p2 at *
          obtain ⟨c0, c1, c2, f0, f1, f2, cz⟩ := HB.out.facts
          go_wp2_with fail
          refine (HN.out _).mono ?_
          rintro e w4 ⟨rfl, hb4⟩
          go_wp2
          go_ret2
          exact ⟨by rw [HV1.out HIN.out]; rfl, hB3.trans (hb4.mono hB3.size)⟩
        · have bb : decide (d2 < dd) = true := decide_eq_true hdg
          go_enter Tryd.func18, Tryd.ntmps18
          go_wp2_with fail
          refine (HS.out _).mono ?_
          rintro e w1 ⟨rfl, hb1⟩
          have HX := hid ((SBox.new w y m v d h i s).later hb1)
          have hB1 : Below w.heap.size w w1 := ((Below.refl _ _).alloc (Nat.le_refl _) _).trans (hb1.mono (by simp))
          clear hb1 HS
          go_wp2_with fail
          refine (HD.out _).mono ?_
          rintro e w2 ⟨rfl, hb2⟩
          obtain ⟨k0, k1, k2, k3, k4, k5, k6, kz⟩ := (HX.out.later hb2).facts
          have hB2 := hB1.trans (hb2.mono hB1.size)
          clear hb2 HX HD hB1
          go_wp2_with fail
          go_quiet (first
            | (go_at_call 35; exact Calls.quiet_of_same (HL.out _)))
          have HB := hid ((Box.new w2 (k / 12) (k % 12 + 1) dd).later (below_drewN (Below.refl _ _) nq))
          have hB3 : Below w.heap.size w (World.drewN (w2.alloc (.cells #[.int .i64 (k / 12), .int .i64 (k % 12 + 1), .int .i64 dd] 36)) nq) := below_drewN (hB2.alloc hB2.size _) nq
          have hz2 := hB2.size
          clear hB2 k0 k1 k2 k3 k4 k5 k6 kz
          generalize World.drewN (w2.alloc (.cells #[.int .i64 (k / 12), .int .i64 (k % 12 + 1), .int .i64 dd] 36)) nq = w3 at *
          generalize w2.heap.size = p2 at *
          obtain ⟨c0, c1, c2, f0, f1, f2, cz⟩ := HB.out.facts
          go_wp2_with fail
          refine (HL.out _).mono ?_
          rintro e w5 ⟨rfl, rfl⟩
          obtain ⟨g0, g1, g2, _⟩ := (HB.out.put2 d2).facts
          have hB4 := hB3.setCell (p := ⟨p2, 2, none⟩) hz2 (.int .i64 d2)
          go_wp2_with fail
          refine (HN.out _).mono ?_
          rintro e w4 ⟨rfl, hb4⟩
          go_wp2
          go_ret2
          exact ⟨by rw [HV1.out HIN.out]; rfl, hB4.trans (hb4.mono hB4.size)⟩
      · have hmo' : -(12 * y + m) = mo := hmo.symm
        have hse' : -(spSe v d h i s) = se := hse.symm
        have hsb3 : 0 ≤ spSe v d h i s ∧ spSe v d h i s ≤ 2000000000000000 := HHS.out.2
        generalize spSe v d h i s = z at *
        clear hmo hse
        rcases had with ⟨hdg, rfl⟩ | ⟨hdg, rfl⟩
        · have bb : decide (g < d2) = false := decide_eq_false (by omega)
          go_enter Tryd.func18, Tryd.ntmps18
          go_wp2_with fail
          refine (HS.out _).mono ?_
          rintro e w1 ⟨rfl, hb1⟩
          have HX := hid ((SBox.new w y m v d h i s).later hb1)
          have hB1 : Below w.heap.size w w1 := ((Below.refl _ _).alloc (Nat.le_refl _) _).trans (hb1.mono (by simp))
          clear hb1 HS
          go_wp2_with fail
          refine (HD.out _).mono ?_
          rintro e w2 ⟨rfl, hb2⟩
          obtain ⟨k0, k1, k2, k3, k4, k5, k6, kz⟩ := (HX.out.later hb2).facts
          have hB2 := hB1.trans (hb2.mono hB1.size)
          clear hb2 HX HD hB1
          go_wp2_with fail
          go_quiet (first
            | (go_at_call 35; exact Calls.quiet_of_same (HL.out _)))
          have HB := hid ((Box.new w2 (k / 12) (k % 12 + 1) d2).later (below_drewN (Below.refl _ _) nq))
          have hB3 : Below w.heap.size w (World.drewN (w2.alloc (.cells #[.int .i64 (k / 12), .int .i64 (k % 12 + 1), .int .i64 d2] 36)) nq) := below_drewN (hB2.alloc hB2.size _) nq
          have hz2 := hB2.size
          clear hB2 k0 k1 k2 k3 k4 k5 k6 kz
          generalize World.drewN (w2.alloc (.cells #[.int .i64 (k / 12), .int .i64 (k % 12 + 1), .int .i64 d2] 36)) nq = w3 at *
          generalize w2.heap.size = p2 at *
          obtain ⟨c0, c1, c2, f0, f1, f2, cz⟩ := HB.out.facts
          go_wp2_with fail
          refine (HN.out _).mono ?_
          rintro e w4 ⟨rfl, hb4⟩
          go_wp2
          go_ret2
          exact ⟨by rw [HV1.out HIN.out]; rfl, hB3.trans (hb4.mono hB3.size)⟩
        · have bb : decide (d2 < dd) = true := decide_eq_true hdg
          go_enter Tryd.func18, Tryd.ntmps18
          go_wp2_with fail
          refine (HS.out _).mono ?_
          rintro e w1 ⟨rfl, hb1⟩
          have HX := hid ((SBox.new w y m v d h i s).later hb1)
          have hB1 : Below w.heap.size w w1 := ((Below.refl _ _).alloc (Nat.le_refl _) _).trans (hb1.mono (by simp))
          clear hb1 HS
          go_wp2_with fail
          refine (HD.out _).mono ?_
          rintro e w2 ⟨rfl, hb2⟩
          obtain ⟨k0, k1, k2, k3, k4, k5, k6, kz⟩ := (HX.out.later hb2).facts
          have hB2 := hB1.trans (hb2.mono hB1.size)
          clear hb2 HX HD hB1
          go_wp2_with fail
          go_quiet (first
            | (go_at_call 35; exact Calls.quiet_of_same (HL.out _)))
          have HB := hid ((Box.new w2 (k / 12) (k % 12 + 1) dd).later (below_drewN (Below.refl _ _) nq))
          have hB3 : Below w.heap.size w (World.drewN (w2.alloc (.cells #[.int .i64 (k / 12), .int .i64 (k % 12 + 1), .int .i64 dd] 36)) nq) := below_drewN (hB2.alloc hB2.size _) nq
          have hz2 := hB2.size
          clear hB2 k0 k1 k2 k3 k4 k5 k6 kz
          generalize World.drewN (w2.alloc (.cells #[.int .i64 (k / 12), .int .i64 (k % 12 + 1), .int .i64 dd] 36)) nq = w3 at *
          generalize w2.heap.size = p2 at *
          obtain ⟨c0, c1, c2, f0, f1, f2, cz⟩ := HB.out.facts
          go_wp2_with fail
          refine (HL.out _).mono ?_
          rintro e w5 ⟨rfl, rfl⟩
          obtain ⟨g0, g1, g2, _⟩ := (HB.out.put2 d2).facts
          have hB4 := hB3.setCell (p := ⟨p2, 2, none⟩) hz2 (.int .i64 d2)
          go_wp2_with fail
          refine (HN.out _).mono ?_
          rintro e w4 ⟨rfl, hb4⟩
          go_wp2
          go_ret2
          exact ⟨by rw [HV1.out HIN.out]; rfl, hB4.trans (hb4.mono hB4.size)⟩
    · have HIN := hid hin
      unfold Inst at hin
      cases back
      · have hmo' : 12 * y + m = mo := hmo.symm
        have hse' : spSe v d h i s = se := hse.symm
        rw [hse'] at hq1
        clear hmo hse hse'
        rcases had with ⟨hdg, rfl⟩ | ⟨hdg, rfl⟩
        · have bb : decide (g < d2) = false := decide_eq_false (by omega)
          go_enter Tryd.func18, Tryd.ntmps18
          go_wp2_with fail
          refine (HS.out _).mono ?_
          rintro e w1 ⟨rfl, hb1⟩
          have HX := hid ((SBox.new w y m v d h i s).later hb1)
          have hB1 : Below w.heap.size w w1 := ((Below.refl _ _).alloc (Nat.le_refl _) _).trans (hb1.mono (by simp))
          clear hb1 HS
          go_wp2_with fail
          refine (HD.out _).mono ?_
          rintro e w2 ⟨rfl, hb2⟩
          obtain ⟨k0, k1, k2, k3, k4, k5, k6, kz⟩ := (HX.out.later hb2).facts
          have hB2 := hB1.trans (hb2.mono hB1.size)
          clear hb2 HX HD hB1
          go_wp2_with fail
          go_quiet (first
            | (go_at_call 35; exact Calls.quiet_of_same (HL.out _)))
          have HB := hid ((Box.new w2 (k / 12) (k % 12 + 1) d2).later (below_drewN (Below.refl _ _) nq))
          have hB3 : Below w.heap.size w (World.drewN (w2.alloc (.cells #[.int .i64 (k / 12), .int .i64 (k % 12 + 1), .int .i64 d2] 36)) nq) := below_drewN (hB2.alloc hB2.size _) nq
          have hz2 := hB2.size
          clear hB2 k0 k1 k2 k3 k4 k5 k6 kz
          generalize World.drewN (w2.alloc (.cells #[.int .i64 (k / 12), .int .i64 (k % 12 + 1), .int .i64 d2] 36)) nq = w3 at *
          generalize w2.heap.size = p2 at *
          obtain ⟨c0, c1, c2, f0, f1, f2, cz⟩ := HB.out.facts
          go_wp2_with fail
          refine (HN.out _).mono ?_
          rintro e w4 ⟨rfl, hb4⟩
          go_wp2
          go_ret2
          exact ⟨by rw [HV2.out HIN.out]; rfl, hB3.trans (hb4.mono hB3.size)⟩
        · have bb : decide (d2 < dd) = true := decide_eq_true hdg
          go_enter Tryd.func18, Tryd.ntmps18
          go_wp2_with fail
          refine (HS.out _).mono ?_
          rintro e w1 ⟨rfl, hb1⟩
          have HX := hid ((SBox.new w y m v d h i s).later hb1)
          have hB1 : Below w.heap.size w w1 := ((Below.refl _ _).alloc (Nat.le_refl _) _).trans (hb1.mono (by simp))
          clear hb1 HS
          go_wp2_with fail
          refine (HD.out _).mono ?_
          rintro e w2 ⟨rfl, hb2⟩
          obtain ⟨k0, k1, k2, k3, k4, k5, k6, kz⟩ := (HX.out.later hb2).facts
          have hB2 := hB1.trans (hb2.mono hB1.size)
          clear hb2 HX HD hB1
          go_wp2_with fail
          go_quiet (first
            | (go_at_call 35; exact Calls.quiet_of_same (HL.out _)))
          have HB := hid ((Box.new w2 (k / 12) (k % 12 + 1) dd).later (below_drewN (Below.refl _ _) nq))
          have hB3 : Below w.heap.size w (World.drewN (w2.alloc (.cells #[.int .i64 (k / 12), .int .i64 (k % 12 + 1), .int .i64 dd] 36)) nq) := below_drewN (hB2.alloc hB2.size _) nq
          have hz2 := hB2.size
          clear hB2 k0 k1 k2 k3 k4 k5 k6 kz
          generalize World.drewN (w2.alloc (.cells #[.int .i64 (k / 12), .int .i64 (k % 12 + 1), .int .i64 dd] 36)) nq = w3 at *
          generalize w2.heap.size = p2 at *
          obtain ⟨c0, c1, c2, f0, f1, f2, cz⟩ := HB.out.facts
          go_wp2_with fail
          refine (HL.out _).mono ?_
          rintro e w5 ⟨rfl, rfl⟩
          obtain ⟨g0, g1, g2, _⟩ := (HB.out.put2 d2).facts
          have hB4 := hB3.setCell (p := ⟨p2, 2, none⟩) hz2 (.int .i64 d2)
          go_wp2_with fail
          refine (HN.out _).mono ?_
          rintro e w4 ⟨rfl, hb4⟩
          go_wp2
          go_ret2
          exact ⟨by rw [HV2.out HIN.out]; rfl, hB4.trans (hb4.mono hB4.size)⟩
      · have hmo' : -(12 * y + m) = mo := hmo.symm
        have hse' : -(spSe v d h i s) = se := hse.symm
        have hsb3 : 0 ≤ spSe v d h i s ∧ spSe v d h i s ≤ 2000000000000000 := HHS.out.2
        generalize spSe v d h i s = z at *
        clear hmo hse
        rcases had with ⟨hdg, rfl⟩ | ⟨hdg, rfl⟩
        · have bb : decide (g < d2) = false := decide_eq_false (by omega)
          go_enter Tryd.func18, Tryd.ntmps18
          go_wp2_with fail
          refine (HS.out _).mono ?_
          rintro e w1 ⟨rfl, hb1⟩
          have HX := hid ((SBox.new w y m v d h i s).later hb1)
          have hB1 : Below w.heap.size w w1 := ((Below.refl _ _).alloc (Nat.le_refl _) _).trans (hb1.mono (by simp))
          clear hb1 HS
          go_wp2_with fail
          refine (HD.out _).mono ?_
          rintro e w2 ⟨rfl, hb2⟩
          obtain ⟨k0, k1, k2, k3, k4, k5, k6, kz⟩ := (HX.out.later hb2).facts
          have hB2 := hB1.trans (hb2.mono hB1.size)
          clear hb2 HX HD hB1
          go_wp2_with fail
          go_quiet (first
            | (go_at_call 35; exact Calls.quiet_of_same (HL.out _)))
          have HB := hid ((Box.new w2 (k / 12) (k % 12 + 1) d2).later (below_drewN (Below.refl _ _) nq))
          have hB3 : Below w.heap.size w (World.drewN (w2.alloc (.cells #[.int .i64 (k / 12), .int .i64 (k % 12 + 1), .int .i64 d2] 36)) nq) := below_drewN (hB2.alloc hB2.size _) nq
          have hz2 := hB2.size
          clear hB2 k0 k1 k2 k3 k4 k5 k6 kz
          generalize World.drewN (w2.alloc (.cells #[.int .i64 (k / 12), .int .i64 (k % 12 + 1), .int .i64 d2] 36)) nq = w3 at *
          generalize w2.heap.size = p2 at *
          obtain ⟨c0, c1, c2, f0, f1, f2, cz⟩ := HB.out.facts
          go_wp2_with fail
          refine (HN.out _).mono ?_
          rintro e w4 ⟨rfl, hb4⟩
          go_wp2
          go_ret2
          exact ⟨by rw [HV2.out HIN.out]; rfl, hB3.trans (hb4.mono hB3.size)⟩
        · have bb : decide (d2 < dd) = true := decide_eq_true hdg
          go_enter Tryd.func18, Tryd.ntmps18
          go_wp2_with fail
          refine (HS.out _).mono ?_
          rintro e w1 ⟨rfl, hb1⟩
          have HX := hid ((SBox.new w y m v d h i s).later hb1)
          have hB1 : Below w.heap.size w w1 := ((Below.refl _ _).alloc (Nat.le_refl _) _).trans (hb1.mono (by simp))
          clear hb1 HS
          go_wp2_with fail
          refine (HD.out _).mono ?_
          rintro e w2 ⟨rfl, hb2⟩
          obtain ⟨k0, k1, k2, k3, k4, k5, k6, kz⟩ := (HX.out.later hb2).facts
          have hB2 := hB1.trans (hb2.mono hB1.size)
          clear hb2 HX HD hB1
          go_wp2_with fail
          go_quiet (first
            | (go_at_call 35; exact Calls.quiet_of_same (HL.out _)))
          have HB := hid ((Box.new w2 (k / 12) (k % 12 + 1) dd).later (below_drewN (Below.refl _ _) nq))
          have hB3 : Below w.heap.size w (World.drewN (w2.alloc (.cells #[.int .i64 (k / 12), .int .i64 (k % 12 + 1), .int .i64 dd] 36)) nq) := below_drewN (hB2.alloc hB2.size _) nq
          have hz2 := hB2.size
          clear hB2 k0 k1 k2 k3 k4 k5 k6 kz
          generalize World.drewN (w2.alloc (.cells #[.int .i64 (k / 12), .int .i64 (k % 12 + 1), .int .i64 dd] 36)) nq = w3 at *
          generalize w2.heap.size = p2 at *
          obtain ⟨c0, c1, c2, f0, f1, f2, cz⟩ := HB.out.facts
          go_wp2_with fail
          refine (HL.out _).mono ?_
          rintro e w5 ⟨rfl, rfl⟩
          obtain ⟨g0, g1, g2, _⟩ := (HB.out.put2 d2).facts
          have hB4 := hB3.setCell (p := ⟨p2, 2, none⟩) hz2 (.int .i64 d2)
          go_wp2_with fail
          refine (HN.out _).mono ?_
          rintro e w4 ⟨rfl, hb4⟩
          go_wp2
          go_ret2
          exact ⟨by rw [HV2.out HIN.out]; rfl, hB4.trans (hb4.mono hB4.size)⟩
  · have hav : addV t mo se = rV 0 35 := by unfold addV; rw [if_neg hmon]
    rw [hav]
    have hkk : ¬ (0 ≤ mk (t / 86400) mo ∧ mk (t / 86400) mo < 120000) := hmon
    clear hmon hav hamr hvd
    generalize mk (t / 86400) mo = k at *
    generalize dY (t / 86400) = yy at *
    generalize dM (t / 86400) = mm at *
    generalize dD (t / 86400) = dd at *
    generalize t / 86400 = n at *
    generalize t % 86400 = rr at *
    unfold sV rV dV at *
    cases back
    · have hmo' : 12 * y + m = mo := hmo.symm
      have hse' : spSe v d h i s = se := hse.symm
      rw [hse'] at hq1
      clear hmo hse hse'
      go_enter Tryd.func18, Tryd.ntmps18
      go_wp2_with fail
      refine (HS.out _).mono ?_
      rintro e w1 ⟨rfl, hb1⟩
      have HX := hid ((SBox.new w y m v d h i s).later hb1)
      have hB1 : Below w.heap.size w w1 := ((Below.refl _ _).alloc (Nat.le_refl _) _).trans (hb1.mono (by simp))
      clear hb1 HS
      go_wp2_with fail
      refine (HD.out _).mono ?_
      rintro e w2 ⟨rfl, hb2⟩
      obtain ⟨k0, k1, k2, k3, k4, k5, k6, kz⟩ := (HX.out.later hb2).facts
      have hB2 := hB1.trans (hb2.mono hB1.size)
      clear hb2 HX HD hB1
      go_wp2
      go_ret2
      exact ⟨rfl, hB2.alloc hB2.size _⟩
    · have hmo' : -(12 * y + m) = mo := hmo.symm
      have hse' : -(spSe v d h i s) = se := hse.symm
      have hsb3 : 0 ≤ spSe v d h i s ∧ spSe v d h i s ≤ 2000000000000000 := HHS.out.2
      generalize spSe v d h i s = z at *
      clear hmo hse
      go_enter Tryd.func18, Tryd.ntmps18
      go_wp2_with fail
      refine (HS.out _).mono ?_
      rintro e w1 ⟨rfl, hb1⟩
      have HX := hid ((SBox.new w y m v d h i s).later hb1)
      have hB1 : Below w.heap.size w w1 := ((Below.refl _ _).alloc (Nat.le_refl _) _).trans (hb1.mono (by simp))
      clear hb1 HS
      go_wp2_with fail
      refine (HD.out _).mono ?_
      rintro e w2 ⟨rfl, hb2⟩
      obtain ⟨k0, k1, k2, k3, k4, k5, k6, kz⟩ := (HX.out.later hb2).facts
      have hB2 := hB1.trans (hb2.mono hB1.size)
      clear hb2 HX HD hB1
      go_wp2
      go_ret2
      exact ⟨rfl, hB2.alloc hB2.size _⟩
end Go.Proofs.YtjmainmidacmfaaDoor
