/-
  CalCycle: the law's own walk, out of the contracts.
-/
import Derived.Test.YtjjkfhpiapnjlabDoorWkb
namespace Go.Proofs.YtjjkfhpiapnjlabDoor
open Go.RowKit
set_option maxRecDepth 100000

theorem ys_cyc (y j : Int) : ys (y + 400 * j) = ys y + 146097 * j := by unfold ys; omega
theorem lpN_cyc (y j : Int) : lpN (y + 400 * j) = lpN y := by
  have a := lpN_cases y
  have b := lpN_cases (y + 400 * j)
  unfold Lp at a b
  omega
theorem lg_cyc (y m j : Int) : lg (y + 400 * j) m = lg y m := by unfold lg; rw [lpN_cyc]
theorem ms_cyc (y m j : Int) : ms (y + 400 * j) m = ms y m := by unfold ms; rw [lpN_cyc]
theorem nb_cyc (y m d j : Int) : nb (y + 400 * j) m d = nb y m d + 146097 * j := by unfold nb; rw [ys_cyc, ms_cyc]; omega
theorem wd_cyc (n j : Int) : wd (n + 146097 * j) = wd n := by unfold wd; omega
theorem thu_cyc (n j : Int) : thu (n + 146097 * j) = thu n + 146097 * j := by unfold thu; rw [wd_cyc]; omega
theorem wkY_cyc (y n j : Int) : wkY (y + 400 * j) (n + 146097 * j) = wkY y n + 400 * j := by
  unfold wkY
  rw [thu_cyc, ys_cyc, show y + 400 * j + 1 = y + 1 + 400 * j by omega, ys_cyc]
  by_cases h1 : thu n < ys y
  · rw [if_pos h1, if_pos (by omega)]; omega
  · rw [if_neg h1, if_neg (by omega)]
    by_cases h2 : ys (y + 1) ≤ thu n
    · rw [if_pos h2, if_pos (by omega)]
    · rw [if_neg h2, if_neg (by omega)]
theorem wkW_cyc (y n j : Int) : wkW (y + 400 * j) (n + 146097 * j) = wkW y n := by
  unfold wkW
  rw [wkY_cyc, thu_cyc, ys_cyc]
  omega

theorem feb29 (y : Int) (h0 : 0 ≤ y) (h1 : y ≤ 9999) : VD y 2 29 ↔ Lp y := by
  have a := lpN_cases y
  have hl : lg y 2 = 28 + lpN y := by simp [lg]
  unfold VD
  rw [hl]
  constructor
  · intro h
    rcases a with ⟨a, b⟩ | ⟨a, b⟩
    · omega
    · exact b
  · intro h
    rcases a with ⟨a, b⟩ | ⟨a, b⟩
    · exact absurd h b
    · omega

set_option maxHeartbeats 4000000 in
theorem cycle_any (z x : Int) (b0 : -9223372036854775808 ≤ z ∧ z ≤ 9223372036854775807) (b1 : -9223372036854775808 ≤ x ∧ x ≤ 9223372036854775807) (w : World) (hA : HasAh w) :
    Calls Tryd.prog 3 #[.int .i64 z, .int .i64 x] w fun e w' => e = .returned (.bool true) ∧ Below w.heap.size w w' := by
  have HA := hid hA
  have W0 := hid (fun w => within_any z 0 1826210 b0 (by omega) (by omega) (by omega) w)
  have W1 := hid (fun w => within_any x 1 10 b1 (by omega) (by omega) (by omega) w)
  have i0 := wi_in z 0 1826210 (by omega)
  have i1 := wi_in x 1 10 (by omega)
  generalize wi z 0 1826210 = n at *
  generalize wi x 1 10 = j at *
  clear b0 b1 hA
  have HT := hid (fun w hA => at_any n (by omega) w hA)
  rw [wi_self n 3652424 (by omega) (by omega)] at HT
  obtain ⟨hv, hn⟩ := dt_is n (by omega)
  have hny := nb_year _ _ _ hv
  rw [hn] at hny
  have hy5 : dY n ≤ 4999 := by
    have h := ys_le 5000 (dY n)
    have e : ys 5000 = 1826213 := by decide
    omega
  have hv' := hv
  generalize dY n = y at *
  generalize dM n = m at *
  generalize dD n = d at *
  have hvf : VD (y + 400 * j) m d := by
    obtain ⟨h1, h2, h3, h4, h5, h6⟩ := hv
    exact ⟨by omega, by omega, h3, h4, h5, by rw [lg_cyc]; exact h6⟩
  have hnf : nb (y + 400 * j) m d = n + 146097 * j := by rw [nb_cyc, hn]
  have HD := hid (fun w h => days_any y m d w h)
  have HF := hid (fun w h => days_any (y + 400 * j) m d w h)
  rw [if_pos hv, if_pos hv, hn] at HD
  rw [if_pos hvf, if_pos hvf, hnf] at HF
  have HW := hid (fun w h => cWeekOf_any y m d w h)
  have HX := hid (fun w h => cWeekOf_any (y + 400 * j) m d w h)
  have hwb := week_bounds y m d hv
  rw [show weekV y m d = .tuple #[dV (wkY y n) (wkW y n) (wd n + 1), .int .i64 0] by unfold weekV; rw [if_pos hv, hn]] at HW
  rw [show weekV (y + 400 * j) m d = .tuple #[dV (wkY y n + 400 * j) (wkW y n) (wd n + 1), .int .i64 0] by unfold weekV; rw [if_pos hvf, hnf, wkY_cyc, wkW_cyc, wd_cyc]] at HX
  rw [hn] at hwb
  have HV := hid (fun w h => valid_any y 2 29 w h)
  have hy0 : 0 ≤ y := hv.1
  have hfe : decide (VD y 2 29) = decide (Lp y) := decide_eq_decide.2 (feb29 y hy0 (by omega))
  rw [hfe] at HV
  have q4 : y.tmod 4 = y % 4 := Int.tmod_eq_emod_of_nonneg hy0
  have q100 : y.tmod 100 = y % 100 := Int.tmod_eq_emod_of_nonneg hy0
  have q400 : y.tmod 400 = y % 400 := Int.tmod_eq_emod_of_nonneg hy0
  have qk : (400 * j).tdiv 400 = j := by rw [Int.tdiv_eq_ediv_of_nonneg (by omega)]; omega
  have hm : 1 ≤ m ∧ m ≤ 12 := ⟨hv.2.2.1, hv.2.2.2.1⟩
  have hd : 1 ≤ d ∧ d ≤ 31 := ⟨hv.2.2.2.2.1, by have := hv.2.2.2.2.2; have := lg_le y m; omega⟩
  have hlp : Lp y ↔ (y % 4 = 0 ∧ (y % 100 ≠ 0 ∨ y % 400 = 0)) := Iff.rfl
  have hm4 : y % 400 = 0 → y % 4 = 0 := by omega
  have HLP := hid (And.intro hlp hm4)
  clear hv hv' hn hny hvf hnf hfe hlp hm4
  generalize wkY y n = wy at *
  generalize wkW y n = ww at *
  have hwd := wd_lt n
  generalize wd n = wdn at *
  obtain ⟨lp, hlpe⟩ : ∃ lp, lp = decide (Lp y) := ⟨_, rfl⟩
  rw [← hlpe] at HV
  have HL := hid hlpe
  clear hlpe
  unfold dV at *
  go_enter Tryd.func3, Tryd.ntmps3
  go_wp2_with fail
  refine (W0.out _).mono ?_
  rintro e w' ⟨rfl, rfl⟩
  clear W0
  have S0 := hid (St.refl HA.out)
  go_wp2_with fail
  refine (HT.out _ S0.out.1).mono ?_
  rintro e w1 ⟨rfl, hb1⟩
  have S1 := hid (S0.out.call hb1)
  clear hb1 HT
  go_wp2_with fail
  refine (W1.out _).mono ?_
  rintro e w'' ⟨rfl, rfl⟩
  clear W1
  go_wp2_with fail
  refine (HD.out _ ((S1.out.alloc _).alloc _).1).mono ?_
  rintro e w2 ⟨rfl, hb2⟩
  have S2 := hid (((S1.out.alloc _).alloc _).call hb2)
  have hx2 := (Box.new w1 y m d).later1 hb2
  have hf2 : Box w2 (w1.heap.size + 1) (y + 400 * j) m d := by have h := (Box.new (w1.alloc (.cells #[.int .i64 y, .int .i64 m, .int .i64 d] 23)) (y + 400 * j) m d).later hb2; simpa using h
  clear hb2 HD
  obtain ⟨c0, c1, c2, _, _, _, zc⟩ := hf2.facts
  have B2 := hid (And.intro hx2 hf2)
  clear hx2 hf2
  generalize w1.heap.size = p1 at *
  go_wp2_with fail
  refine (HF.out _ S2.out.1).mono ?_
  rintro e w3 ⟨rfl, hb3⟩
  have S3 := hid (S2.out.call hb3)
  have B3 := hid (And.intro (B2.out.1.later hb3) (B2.out.2.later hb3))
  clear hb3 HF B2 c0 c1 c2 zc
  obtain ⟨c0, c1, c2, _, _, _, zc⟩ := B3.out.1.facts
  go_wp2_with fail
  refine (HW.out _ S3.out.1).mono ?_
  rintro e w4 ⟨rfl, hb4⟩
  have S4 := hid (S3.out.call hb4)
  have B4 := hid (And.intro (B3.out.1.later hb4) (B3.out.2.later hb4))
  clear hb4 HW B3 c0 c1 c2 zc
  obtain ⟨c0, c1, c2, _, _, _, zc⟩ := B4.out.2.facts
  go_wp2_with fail
  refine (HX.out _ (S4.out.alloc _).1).mono ?_
  rintro e w5 ⟨rfl, hb5⟩
  have S5 := hid ((S4.out.alloc _).call hb5)
  have hd5 := B4.out.1.later1 hb5
  have hv5 := (WBox.new w4 wy ww (wdn + 1)).later hb5
  clear hb5 HX B4 c0 c1 c2 zc
  generalize w4.heap.size = p4 at *
  obtain ⟨c0, c1, c2, _, _, _, zc⟩ := hd5.facts
  obtain ⟨v0, v1, v2, _, _, _, zv⟩ := hv5.facts
  clear hd5 hv5
  have hcases : (y % 4 = 0 ∧ y % 100 ≠ 0 ∧ lp = true) ∨ (y % 400 = 0 ∧ y % 100 = 0 ∧ y % 4 = 0 ∧ lp = true) ∨ (y % 4 ≠ 0 ∧ y % 400 ≠ 0 ∧ lp = false) ∨ (y % 4 = 0 ∧ y % 100 = 0 ∧ y % 400 ≠ 0 ∧ lp = false) := by
    rw [HL.out]
    have h := HLP.out
    by_cases h4 : y % 4 = 0 <;> by_cases h100 : y % 100 = 0 <;> by_cases h400 : y % 400 = 0 <;> simp [Lp, h4, h100, h400] at * <;> omega
  clear HLP HL
  have hcases : (y % 4 = 0 ∧ y % 100 ≠ 0 ∧ lp = true) ∨ (y % 400 = 0 ∧ y % 100 = 0 ∧ y % 4 = 0 ∧ lp = true) ∨ (y % 4 ≠ 0 ∧ (y % 400 == 0) = false ∧ lp = false) ∨ (y % 4 = 0 ∧ y % 100 = 0 ∧ (y % 400 == 0) = false ∧ lp = false) := by
    simpa only [beq_eq_false_iff_ne] using hcases
  rcases hcases with ⟨l1, l2, rfl⟩ | ⟨l1, l2, l3, rfl⟩ | ⟨l1, l2, rfl⟩ | ⟨l1, l2, l3, rfl⟩
  all_goals (
    go_wp2_with fail
    refine (HV.out _ (S5.out.alloc _).1).mono ?_
    rintro e w6 ⟨rfl, hb6⟩
    have S6 := hid ((S5.out.alloc _).call hb6)
    clear hb6
    go_wp2
    go_ret
    exact ⟨rfl, S6.out.2⟩)
end Go.Proofs.YtjjkfhpiapnjlabDoor
