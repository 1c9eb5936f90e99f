/-
  CalMonths: the law's own walk, out of the contracts.
-/
import Derived.Test.YtjmainmidacmfaaDoorLawForth0
import Derived.Test.YtjmainmidacmfaaDoorCweek
namespace Go.Proofs.YtjmainmidacmfaaDoor
open Go.RowKit
set_option maxRecDepth 100000

theorem addV_day (N c mo T : Int) (h : 0 ≤ N ∧ N ≤ 3652424) (hc : 0 ≤ c ∧ c ≤ 86399) (hT : T = N * 86400 + c) :
    addV T mo 0 = if Mon (mk N mo) then rV (86400 * am N mo + c) 0 else rV 0 35 := by
  have e1 : T / 86400 = N := by omega
  have e2 : T % 86400 = c := by omega
  unfold addV
  rw [e1]
  by_cases hm : Mon (mk N mo)
  · have hr := am_range N mo h hm.1 hm.2
    have hs : isum T mo 0 = 86400 * am N mo + c := by unfold isum; rw [e1, e2]; omega
    rw [if_pos hm, if_pos hm, hs, if_pos (show Inst (86400 * am N mo + c) from ⟨by omega, by omega⟩)]
  · rw [if_neg hm, if_neg hm]

theorem se_zero (back : Bool) : (0 : Int) = if back then -(spSe 0 0 0 0 0) else spSe 0 0 0 0 0 := by cases back <;> rfl

theorem addSpan_day (N c a b T mo : Int) (back : Bool) (h : 0 ≤ N ∧ N ≤ 3652424) (hc : 0 ≤ c ∧ c ≤ 86399) (hT : T = N * 86400 + c) (ha : okN a) (hb : okN b) (hmo : mo = if back then -(12 * a + b) else 12 * a + b) (w : World) (hA : HasAh w) :
    Calls Tryd.prog 13 #[.int .i64 T, sV a b 0 0 0 0 0, .bool back] w fun e w' => e = .returned (if Mon (mk N mo) then rV (86400 * am N mo + c) 0 else rV 0 35) ∧ Below w.heap.size w w' := by
  rw [← addV_day N c mo T h hc hT]
  exact addSpan_good T a b 0 0 0 0 0 back ⟨by omega, by omega⟩ ⟨⟨ha, hb, by decide, by decide, by decide, by decide, by decide⟩, .inl rfl⟩ w hA mo 0 hmo (se_zero back)

/-- the day's number behind so many months is that of a day in the month wanted -/
theorem am_day (N mo : Int) (h : 0 ≤ N ∧ N ≤ 3652424) (hm : Mon (mk N mo)) :
    dY (am N mo) = mk N mo / 12 ∧ dM (am N mo) = mk N mo % 12 + 1 ∧ dD (am N mo) = aD N mo := by
  obtain ⟨a, b, c⟩ := dt_eq _ _ _ (am N mo) (am_vd N mo h hm.1 hm.2) rfl
  exact ⟨a.symm, b.symm, c.symm⟩

theorem aD_cases (N mo : Int) : aD N mo = dD N ∨ (aD N mo < dD N ∧ ¬ VD (mk N mo / 12) (mk N mo % 12 + 1) (aD N mo + 1)) := by
  unfold aD
  by_cases e : dD N ≤ lg (mk N mo / 12) (mk N mo % 12 + 1)
  · exact .inl (by omega)
  · exact .inr ⟨by omega, fun x => by have := x.2.2.2.2.2; omega⟩

set_option maxHeartbeats 1000000 in
theorem months_any (z x1 x2 x3 : Int) (back : Bool) (b0 : -9223372036854775808 ≤ z ∧ z ≤ 9223372036854775807) (b1 : -9223372036854775808 ≤ x1 ∧ x1 ≤ 9223372036854775807) (b2 : -9223372036854775808 ≤ x2 ∧ x2 ≤ 9223372036854775807) (b3 : -9223372036854775808 ≤ x3 ∧ x3 ≤ 9223372036854775807) (w : World) (hA : HasAh w) :
    Calls Tryd.prog 6 #[.int .i64 z, .int .i64 x1, .int .i64 x2, .int .i64 x3, .bool back] w fun e w' => e = .returned (.bool true) ∧ Below w.heap.size w w' := by
  have W1 := hid (fun w => within_any x1 0 86399 b1 (by omega) (by omega) (by omega) w)
  have W2 := hid (fun w => within_any x2 0 300 b2 (by omega) (by omega) (by omega) w)
  have W3 := hid (fun w => within_any x3 0 3000 b3 (by omega) (by omega) (by omega) w)
  have HT := hid (fun w hA => at_any z b0 w hA)
  have i0 := wi_in z 0 3652424 (by omega)
  have i1 := wi_in x1 0 86399 (by omega)
  have i2 := wi_in x2 0 300 (by omega)
  have i3 := wi_in x3 0 3000 (by omega)
  have S0 := hid (St.refl hA)
  clear b0 b1 b2 b3 hA
  generalize wi z 0 3652424 = n at *
  generalize wi x1 0 86399 = c at *
  generalize wi x2 0 300 = a at *
  generalize wi x3 0 3000 = b at *
  obtain ⟨mo, hmo⟩ : ∃ mo : Int, mo = if back then -(12 * a + b) else 12 * a + b := ⟨_, rfl⟩
  have hmob : -7000 ≤ mo ∧ mo ≤ 7000 := by cases back <;> simp at hmo <;> omega
  have HS := hid (fun w hA => addSpan_day n c a b (n * 86400 + c) mo back i0 i1 rfl ⟨by omega, by omega⟩ ⟨by omega, by omega⟩ hmo w hA)
  have HS2 := hid (fun w hA => addSpan_day n c 0 (12 * a + b) (n * 86400 + c) mo back i0 i1 rfl (by decide) ⟨by omega, by omega⟩ (by rw [hmo]; cases back <;> simp) w hA)
  have HS0 := hid (fun w hA => addSpan_day n c 0 0 (n * 86400 + c) 0 back i0 i1 rfl (by decide) (by decide) (by cases back <;> rfl) w hA)
  obtain ⟨hz1, hz2⟩ := mk_zero n i0
  rw [if_pos hz1, hz2, show 86400 * n + c = n * 86400 + c by omega] at HS0
  obtain ⟨hv, hn⟩ := dt_is n i0
  have HD := hid (fun w h => days_any (dY n) (dM n) (dD n) w h)
  rw [if_pos hv, if_pos hv, hn] at HD
  have hmk : 12 * dY n + dM n - 1 + mo = mk n mo := rfl
  have hy : 0 ≤ dY n ∧ dY n ≤ 9999 := ⟨hv.1, hv.2.1⟩
  have hm1 : 1 ≤ dM n ∧ dM n ≤ 12 := ⟨hv.2.2.1, hv.2.2.2.1⟩
  have hd1 : 1 ≤ dD n ∧ dD n ≤ 31 := ⟨hv.2.2.2.2.1, by have := hv.2.2.2.2.2; have := lg_le (dY n) (dM n); omega⟩
  by_cases hmon : Mon (mk n mo)
  · obtain ⟨e1, e2, e3⟩ := am_day n mo i0 hmon
    have har := am_range n mo i0 hmon.1 hmon.2
    have had := aD_cases n mo
    have hvd := am_vd n mo i0 hmon.1 hmon.2
    have hab : 1 ≤ aD n mo ∧ aD n mo ≤ 31 := ⟨hvd.2.2.2.2.1, by have := hvd.2.2.2.2.2; have := lg_le (mk n mo / 12) (mk n mo % 12 + 1); omega⟩
    have HO := hid (fun w h => of_good (am n mo) har.1 har.2 w h)
    rw [e1, e2, e3] at HO
    have HV := hid (fun w h => valid_any (mk n mo / 12) (mk n mo % 12 + 1) (aD n mo + 1) w h)
    rw [if_pos hmon] at HS HS2
    have hk0 := hmon.1
    have hk1 := hmon.2
    have hsum : 12 * (mk n mo / 12) + (mk n mo % 12 + 1) - 1 = mk n mo := by omega
    have hq1 : 0 ≤ mk n mo / 12 ∧ mk n mo / 12 ≤ 9999 := by omega
    have hr1 : 0 ≤ mk n mo % 12 ∧ mk n mo % 12 ≤ 11 := by omega
    have qd : (86400 * am n mo + c).tdiv 86400 = am n mo := by rw [Int.tdiv_eq_ediv_of_nonneg (by omega)]; omega
    have qm : (86400 * am n mo + c).tmod 86400 = c := by rw [Int.tmod_eq_emod_of_nonneg (by omega)]; omega
    clear HS0 hz1 hz2 hv hn hmon e1 e2 e3 hvd
    generalize mk n mo / 12 = y2 at *
    generalize mk n mo % 12 + 1 = m2 at *
    generalize aD n mo = d2 at *
    generalize am n mo = r at *
    generalize mk n mo = k at *
    generalize dY n = y at *
    generalize dM n = m at *
    generalize dD n = d at *
    unfold dV sV rV at *
    go_enter Tryd.func6, Tryd.ntmps6
    go_wp2_with fail
    refine (HT.out _ S0.out.1).mono ?_
    rintro e w1 ⟨rfl, hb1⟩
    have S1 := hid (S0.out.call hb1)
    clear hb1 HT
    go_wp2_with fail
    refine (W1.out _).mono ?_
    rintro e w' ⟨rfl, rfl⟩
    go_wp2_with fail
    refine (HD.out _ (S1.out.alloc _).1).mono ?_
    rintro e w2 ⟨rfl, hb2⟩
    have S2 := hid ((S1.out.alloc _).call hb2)
    have B2 := hid ((Box.new w1 y m d).later hb2)
    clear hb2 HD
    generalize w1.heap.size = p1 at *
    go_wp2_with fail
    refine (W2.out _).mono ?_
    rintro e w' ⟨rfl, rfl⟩
    go_wp2_with fail
    refine (W3.out _).mono ?_
    rintro e w' ⟨rfl, rfl⟩
    clear W1 W2 W3
    obtain ⟨c0, c1, c2, _, _, _, zc⟩ := B2.out.facts
    cases back
    · have hmo' : 12 * a + b = mo := hmo.symm
      rw [hmo'] at HS2
      clear hmo
      go_wp2_with fail
      refine (HS.out _ (S2.out.alloc _).1).mono ?_
      rintro e w3 ⟨rfl, hb3⟩
      have S3 := hid ((S2.out.alloc _).call hb3)
      have B3 := hid (B2.out.later1 hb3)
      have T3 := hid ((SBox.new w' a b 0 0 0 0 0).later hb3)
      clear hb3 HS B2 c0 c1 c2 zc
      generalize w'.heap.size = p2 at *
      obtain ⟨t0, t1, t2, t3, t4, t5, t6, zt⟩ := T3.out.facts
      go_wp2_with fail
      refine (HS2.out _ S3.out.1).mono ?_
      rintro e w4 ⟨rfl, hb4⟩
      have S4 := hid (S3.out.call hb4)
      have B4 := hid (B3.out.later hb4)
      clear hb4 HS2 B3 T3 t0 t1 t2 t3 t4 t5 t6 zt
      go_wp2_with fail
      refine (HO.out _ S4.out.1).mono ?_
      rintro e w5 ⟨rfl, hb5⟩
      have S5 := hid (S4.out.call hb5)
      have B5 := hid (B4.out.later hb5)
      clear hb5 HO B4
      obtain ⟨c0, c1, c2, _, _, _, zc⟩ := B5.out.facts
      rcases had with hadE | ⟨hadL, hadV⟩
      · subst hadE
        clear HV
        go_wp2
        go_ret
        exact ⟨rfl, ((S5.out.alloc _).alloc _).2⟩
      · rw [decide_eq_false hadV] at HV
        have hne : (d2 == d) = false := by simp; omega
        have hll : decide (d2 < d) = true := decide_eq_true hadL
        clear hadV
        go_wp2_with fail
        refine (HV.out _ ((S5.out.alloc _).alloc _).1).mono ?_
        rintro e w6 ⟨rfl, hb6⟩
        have S6 := hid (((S5.out.alloc _).alloc _).call hb6)
        go_wp2
        go_ret
        exact ⟨rfl, S6.out.2⟩
    · have hmo' : -(12 * a + b) = mo := hmo.symm
      clear hmo
      go_wp2_with fail
      refine (HS.out _ (S2.out.alloc _).1).mono ?_
      rintro e w3 ⟨rfl, hb3⟩
      have S3 := hid ((S2.out.alloc _).call hb3)
      have B3 := hid (B2.out.later1 hb3)
      have T3 := hid ((SBox.new w' a b 0 0 0 0 0).later hb3)
      clear hb3 HS B2 c0 c1 c2 zc
      generalize w'.heap.size = p2 at *
      obtain ⟨t0, t1, t2, t3, t4, t5, t6, zt⟩ := T3.out.facts
      go_wp2_with fail
      refine (HS2.out _ S3.out.1).mono ?_
      rintro e w4 ⟨rfl, hb4⟩
      have S4 := hid (S3.out.call hb4)
      have B4 := hid (B3.out.later hb4)
      clear hb4 HS2 B3 T3 t0 t1 t2 t3 t4 t5 t6 zt
      go_wp2_with fail
      refine (HO.out _ S4.out.1).mono ?_
      rintro e w5 ⟨rfl, hb5⟩
      have S5 := hid (S4.out.call hb5)
      have B5 := hid (B4.out.later hb5)
      clear hb5 HO B4
      obtain ⟨c0, c1, c2, _, _, _, zc⟩ := B5.out.facts
      rcases had with hadE | ⟨hadL, hadV⟩
      · subst hadE
        clear HV
        go_wp2
        go_ret
        exact ⟨rfl, ((S5.out.alloc _).alloc _).2⟩
      · rw [decide_eq_false hadV] at HV
        have hne : (d2 == d) = false := by simp; omega
        have hll : decide (d2 < d) = true := decide_eq_true hadL
        clear hadV
        go_wp2_with fail
        refine (HV.out _ ((S5.out.alloc _).alloc _).1).mono ?_
        rintro e w6 ⟨rfl, hb6⟩
        have S6 := hid (((S5.out.alloc _).alloc _).call hb6)
        go_wp2
        go_ret
        exact ⟨rfl, S6.out.2⟩
  · rw [if_neg hmon] at HS HS2
    clear hz1 hz2 hv hn
    have hkk : ¬ (0 ≤ mk n mo ∧ mk n mo < 120000) := hmon
    clear hmon
    generalize mk n mo = k at *
    generalize dY n = y at *
    generalize dM n = m at *
    generalize dD n = d at *
    unfold dV sV rV at *
    go_enter Tryd.func6, Tryd.ntmps6
    go_wp2_with fail
    refine (HT.out _ S0.out.1).mono ?_
    rintro e w1 ⟨rfl, hb1⟩
    have S1 := hid (S0.out.call hb1)
    clear hb1 HT
    go_wp2_with fail
    refine (W1.out _).mono ?_
    rintro e w' ⟨rfl, rfl⟩
    go_wp2_with fail
    refine (HD.out _ (S1.out.alloc _).1).mono ?_
    rintro e w2 ⟨rfl, hb2⟩
    have S2 := hid ((S1.out.alloc _).call hb2)
    have B2 := hid ((Box.new w1 y m d).later hb2)
    clear hb2 HD
    generalize w1.heap.size = p1 at *
    go_wp2_with fail
    refine (W2.out _).mono ?_
    rintro e w' ⟨rfl, rfl⟩
    go_wp2_with fail
    refine (W3.out _).mono ?_
    rintro e w' ⟨rfl, rfl⟩
    clear W1 W2 W3
    obtain ⟨c0, c1, c2, _, _, _, zc⟩ := B2.out.facts
    cases back
    · have hmo' : 12 * a + b = mo := hmo.symm
      rw [hmo'] at HS2
      clear hmo
      go_wp2_with fail
      refine (HS.out _ (S2.out.alloc _).1).mono ?_
      rintro e w3 ⟨rfl, hb3⟩
      have S3 := hid ((S2.out.alloc _).call hb3)
      have B3 := hid (B2.out.later1 hb3)
      have T3 := hid ((SBox.new w' a b 0 0 0 0 0).later hb3)
      clear hb3 HS B2 c0 c1 c2 zc
      generalize w'.heap.size = p2 at *
      obtain ⟨t0, t1, t2, t3, t4, t5, t6, zt⟩ := T3.out.facts
      go_wp2_with fail
      refine (HS2.out _ S3.out.1).mono ?_
      rintro e w4 ⟨rfl, hb4⟩
      have S4 := hid (S3.out.call hb4)
      have B4 := hid (B3.out.later hb4)
      clear hb4 HS2 B3 T3 t0 t1 t2 t3 t4 t5 t6 zt
      go_wp2_with fail
      refine (HS0.out _ S4.out.1).mono ?_
      rintro e w5 ⟨rfl, hb5⟩
      have S5 := hid (S4.out.call hb5)
      clear hb5 HS0 B4
      go_wp2
      go_ret
      exact ⟨rfl, S5.out.2⟩
    · have hmo' : -(12 * a + b) = mo := hmo.symm
      clear hmo
      go_wp2_with fail
      refine (HS.out _ (S2.out.alloc _).1).mono ?_
      rintro e w3 ⟨rfl, hb3⟩
      have S3 := hid ((S2.out.alloc _).call hb3)
      have B3 := hid (B2.out.later1 hb3)
      have T3 := hid ((SBox.new w' a b 0 0 0 0 0).later hb3)
      clear hb3 HS B2 c0 c1 c2 zc
      generalize w'.heap.size = p2 at *
      obtain ⟨t0, t1, t2, t3, t4, t5, t6, zt⟩ := T3.out.facts
      go_wp2_with fail
      refine (HS2.out _ S3.out.1).mono ?_
      rintro e w4 ⟨rfl, hb4⟩
      have S4 := hid (S3.out.call hb4)
      have B4 := hid (B3.out.later hb4)
      clear hb4 HS2 B3 T3 t0 t1 t2 t3 t4 t5 t6 zt
      go_wp2_with fail
      refine (HS0.out _ S4.out.1).mono ?_
      rintro e w5 ⟨rfl, hb5⟩
      have S5 := hid (S4.out.call hb5)
      clear hb5 HS0 B4
      go_wp2
      go_ret
      exact ⟨rfl, S5.out.2⟩
end Go.Proofs.YtjmainmidacmfaaDoor
