/-
  The document's own weeks.
-/
import Derived.Test.YtcmllfipaiacfaaGreatDoorRof
import Derived.Test.YtcmllfipaiacfaaGreatDoorCfw
import Derived.Test.YtcmllfipaiacfaaGreatDoorWkb
namespace Go.Proofs.YtcmllfipaiacfaaGreatDoor
open Go.RowKit
set_option maxRecDepth 100000

theorem refWeekday_any (n : Int) (h1 : -700 ≤ n) (h2 : n ≤ 4000000) (w : World) :
    Calls Tryz.prog 116 #[.int .i64 n] w fun e w' => e = .returned (.int .i64 (wd n + 1)) ∧ w' = w := by
  have hq : (n + 700 + 5).tmod 7 = wd n := by rw [Int.tmod_eq_emod_of_nonneg (by omega)]; unfold wd; omega
  have hb := wd_lt n
  generalize wd n = r at *
  go_enter Tryz.func116, Tryz.ntmps116
  go_wp2
  go_ret
  exact ⟨rfl, rfl⟩

theorem ys_m1 : ys (-1) = -365 := by decide

theorem refNewYear_any (y : Int) (h1 : -1 ≤ y) (h2 : y ≤ 10000) (w : World) :
    Calls Tryz.prog 115 #[.int .i64 y] w fun e w' => e = .returned (.int .i64 (ys y)) ∧ w' = w := by
  by_cases hy : y < 0
  · obtain rfl : y = -1 := by omega
    rw [ys_m1]
    go_enter Tryz.func115, Tryz.ntmps115
    go_wp2
    go_ret
    exact ⟨rfl, rfl⟩
  · have HY := hid (fun w => refAhead_any y (by omega) (by omega) w)
    generalize ys y = a at *
    go_enter Tryz.func115, Tryz.ntmps115
    go_wp2_with fail
    refine (HY.out _).mono ?_
    rintro e w' ⟨rfl, rfl⟩
    go_wp2
    go_ret
    exact ⟨rfl, rfl⟩

theorem refFirst_any (y : Int) (h1 : -1 ≤ y) (h2 : y ≤ 10000) (w : World) :
    Calls Tryz.prog 99 #[.int .i64 y] w fun e w' => e = .returned (.int .i64 (wkS y)) ∧ w' = w := by
  have HY := hid (refNewYear_any y h1 h2 w)
  have hyb := ys_bounds y (by omega) (by omega)
  have hy1 := ys_le (-1) y h1
  rw [ys_m1] at hy1
  have hs : wkS y = ys y + 3 - wd (ys y + 3) := rfl
  have HD := hid (fun w => refWeekday_any (ys y + 3) (by omega) (by omega) w)
  have hw := wd_lt (ys y + 3)
  have HSS := hid hs
  clear hs
  generalize wkS y = c at *
  generalize wd (ys y + 3) = b at *
  generalize ys y = a at *
  go_enter Tryz.func99, Tryz.ntmps99
  go_wp2_with fail
  refine Calls.mono HY.out ?_
  rintro e w' ⟨rfl, rfl⟩
  go_wp2_with fail
  refine (HD.out _).mono ?_
  rintro e w' ⟨rfl, rfl⟩
  go_wp2
  go_ret
  exact ⟨ret_int (by rw [HSS.out]), rfl⟩

theorem refWeeks_any (y : Int) (h1 : -1 ≤ y) (h2 : y ≤ 9999) (w : World) :
    Calls Tryz.prog 61 #[.int .i64 y] w fun e w' => e = .returned (.int .i64 (wkN y)) ∧ w' = w := by
  have H1 := hid (fun w => refFirst_any (y + 1) (by omega) (by omega) w)
  have H2 := hid (fun w => refFirst_any y (by omega) (by omega) w)
  have hn := wkN_is y
  have ha := wkS_near y
  have hb := ys_bounds y (by omega) (by omega)
  have hs : wkN y = (wkS (y + 1) - wkS y) / 7 := rfl
  have hq : (wkS (y + 1) - wkS y).tdiv 7 = (wkS (y + 1) - wkS y) / 7 := Int.tdiv_eq_ediv_of_nonneg (by omega)
  rw [← hs] at hq
  have hbb : -1000 ≤ wkS y ∧ wkS y ≤ 4000000 := by omega
  have hbc : -1000 ≤ wkS (y + 1) ∧ wkS (y + 1) ≤ 4000000 := by omega
  have hbd : 52 ≤ wkN y ∧ wkN y ≤ 53 := by omega
  clear hs hn ha hb
  generalize wkN y = c at *
  generalize wkS (y + 1) = a at *
  generalize wkS y = b at *
  go_enter Tryz.func61, Tryz.ntmps61
  go_wp2_with fail
  refine (H1.out _).mono ?_
  rintro e w' ⟨rfl, rfl⟩
  go_wp2_with fail
  refine (H2.out _).mono ?_
  rintro e w' ⟨rfl, rfl⟩
  go_wp2
  go_ret
  exact ⟨rfl, rfl⟩

/-- the year of the Thursday -/
theorem thu_year (y m d : Int) (h : VD y m d) (n : Int) (hn : nb y m d = n) :
    (thu n < 0 ∧ wkY y n = -1) ∨ (0 ≤ thu n ∧ wkY y n = (if thu n ≤ 3652424 then dY (thu n) else 10000)) := by
  subst hn
  have hny := nb_year y m d h
  have hnr := nb_range y m d h
  have hw := wd_lt (nb y m d)
  have ht : thu (nb y m d) = nb y m d - wd (nb y m d) + 3 := rfl
  have e0 := ys_zero
  have e1 := ys_m1
  have e2 := ys_10000
  have e3 : ys 10001 = 3652791 := by decide
  by_cases h0 : thu (nb y m d) < 0
  · exact .inl ⟨h0, (wkY_eq y (-1) _ hny.1 hny.2 (by omega) (by show _ < ys 0; omega)).symm⟩
  · refine .inr ⟨by omega, ?_⟩
    by_cases h1 : thu (nb y m d) ≤ 3652424
    · rw [if_pos h1]
      obtain ⟨a, b⟩ := dt_is (thu (nb y m d)) ⟨by omega, h1⟩
      have c := nb_year _ _ _ a
      rw [b] at c
      exact (wkY_eq y _ _ hny.1 hny.2 c.1 c.2).symm
    · rw [if_neg h1]
      exact (wkY_eq y 10000 _ hny.1 hny.2 (by omega) (by show _ < ys 10001; omega)).symm

end Go.Proofs.YtcmllfipaiacfaaGreatDoor
