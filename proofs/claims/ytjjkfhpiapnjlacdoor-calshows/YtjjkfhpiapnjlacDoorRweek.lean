/-
  The document's own weeks.
-/
import Derived.Test.YtjjkfhpiapnjlacDoorRof
import Derived.Test.YtjjkfhpiapnjlacDoorCfw
import Derived.Test.YtjjkfhpiapnjlacDoorWkb
namespace Go.Proofs.YtjjkfhpiapnjlacDoor
open Go.RowKit
set_option maxRecDepth 100000

theorem refWeekday_any (n : Int) (h1 : -700 ≤ n) (h2 : n ≤ 4000000) (w : World) :
    Calls Tryd.prog 85 #[.int .i64 n] w fun e w' => e = .returned (.int .i64 (wd n + 1)) ∧ w' = w := by
  have hq : (n + 700 + 5).tmod 7 = wd n := by rw [Int.tmod_eq_emod_of_nonneg (by omega)]; unfold wd; omega
  have hb := wd_lt n
  generalize wd n = r at *
  go_enter Tryd.func85, Tryd.ntmps85
  go_wp2
  go_ret
  exact ⟨rfl, rfl⟩

theorem ys_m1 : ys (-1) = -365 := by decide

theorem refNewYear_any (y : Int) (h1 : -1 ≤ y) (h2 : y ≤ 10000) (w : World) :
    Calls Tryd.prog 87 #[.int .i64 y] w fun e w' => e = .returned (.int .i64 (ys y)) ∧ w' = w := by
  by_cases hy : y < 0
  · obtain rfl : y = -1 := by omega
    rw [ys_m1]
    go_enter Tryd.func87, Tryd.ntmps87
    go_wp2
    go_ret
    exact ⟨rfl, rfl⟩
  · have HY := hid (fun w => refAhead_any y (by omega) (by omega) w)
    generalize ys y = a at *
    go_enter Tryd.func87, Tryd.ntmps87
    go_wp2_with fail
    refine (HY.out _).mono ?_
    rintro e w' ⟨rfl, rfl⟩
    go_wp2
    go_ret
    exact ⟨rfl, rfl⟩

theorem refFirst_any (y : Int) (h1 : -1 ≤ y) (h2 : y ≤ 10000) (w : World) :
    Calls Tryd.prog 55 #[.int .i64 y] w fun e w' => e = .returned (.int .i64 (wkS y)) ∧ w' = w := by
  have HY := hid (refNewYear_any y h1 h2 w)
  have hyb := ys_bounds y (by omega) (by omega)
  have hy1 := ys_le (-1) y h1
  rw [ys_m1] at hy1
  have hs : wkS y = ys y + 3 - wd (ys y + 3) := rfl
  have HD := hid (fun w => refWeekday_any (ys y + 3) (by omega) (by omega) w)
  have hw := wd_lt (ys y + 3)
  have HSS := hid hs
  clear hs
  generalize wkS y = c at *
  generalize wd (ys y + 3) = b at *
  generalize ys y = a at *
  go_enter Tryd.func55, Tryd.ntmps55
  go_wp2_with fail
  refine Calls.mono HY.out ?_
  rintro e w' ⟨rfl, rfl⟩
  go_wp2_with fail
  refine (HD.out _).mono ?_
  rintro e w' ⟨rfl, rfl⟩
  go_wp2
  go_ret
  exact ⟨ret_int (by rw [HSS.out]), rfl⟩

theorem refWeeks_any (y : Int) (h1 : -1 ≤ y) (h2 : y ≤ 9999) (w : World) :
    Calls Tryd.prog 53 #[.int .i64 y] w fun e w' => e = .returned (.int .i64 (wkN y)) ∧ w' = w := by
  have H1 := hid (fun w => refFirst_any (y + 1) (by omega) (by omega) w)
  have H2 := hid (fun w => refFirst_any y (by omega) (by omega) w)
  have hn := wkN_is y
  have ha := wkS_near y
  have hb := ys_bounds y (by omega) (by omega)
  have hs : wkN y = (wkS (y + 1) - wkS y) / 7 := rfl
  have hq : (wkS (y + 1) - wkS y).tdiv 7 = (wkS (y + 1) - wkS y) / 7 := Int.tdiv_eq_ediv_of_nonneg (by omega)
  rw [← hs] at hq
  have hbb : -1000 ≤ wkS y ∧ wkS y ≤ 4000000 := by omega
  have hbc : -1000 ≤ wkS (y + 1) ∧ wkS (y + 1) ≤ 4000000 := by omega
  have hbd : 52 ≤ wkN y ∧ wkN y ≤ 53 := by omega
  clear hs hn ha hb
  generalize wkN y = c at *
  generalize wkS (y + 1) = a at *
  generalize wkS y = b at *
  go_enter Tryd.func53, Tryd.ntmps53
  go_wp2_with fail
  refine (H1.out _).mono ?_
  rintro e w' ⟨rfl, rfl⟩
  go_wp2_with fail
  refine (H2.out _).mono ?_
  rintro e w' ⟨rfl, rfl⟩
  go_wp2
  go_ret
  exact ⟨rfl, rfl⟩

theorem refDate9_any (t : Int) (h0 : 0 ≤ t) (h1 : t ≤ 3652430) (w : World) :
    Calls Tryd.prog 86 #[.int .i64 t] w fun e w' => e = .returned (.int .i64 (if t ≤ 3652424 then dY t else 10000)) ∧ Below w.heap.size w w' := by
  by_cases h : t ≤ 3652424
  · rw [if_pos h]
    have HD := hid (fun w => refDate_any t h0 h w)
    generalize dY t = y at *
    generalize dM t = m at *
    generalize dD t = d at *
    unfold dV at *
    go_enter Tryd.func86, Tryd.ntmps86
    go_wp2_with fail
    refine (HD.out _).mono ?_
    rintro e w1 ⟨rfl, hb1⟩
    go_wp2
    go_ret
    exact ⟨rfl, hb1.alloc hb1.size _⟩
  · rw [if_neg h]
    go_enter Tryd.func86, Tryd.ntmps86
    go_wp2
    go_ret
    exact ⟨rfl, Below.refl _ _⟩

/-- the year of the Thursday -/
theorem thu_year (y m d : Int) (h : VD y m d) (n : Int) (hn : nb y m d = n) :
    (thu n < 0 ∧ wkY y n = -1) ∨ (0 ≤ thu n ∧ wkY y n = (if thu n ≤ 3652424 then dY (thu n) else 10000)) := by
  subst hn
  have hny := nb_year y m d h
  have hnr := nb_range y m d h
  have hw := wd_lt (nb y m d)
  have ht : thu (nb y m d) = nb y m d - wd (nb y m d) + 3 := rfl
  have e0 := ys_zero
  have e1 := ys_m1
  have e2 := ys_10000
  have e3 : ys 10001 = 3652791 := by decide
  by_cases h0 : thu (nb y m d) < 0
  · exact .inl ⟨h0, (wkY_eq y (-1) _ hny.1 hny.2 (by omega) (by show _ < ys 0; omega)).symm⟩
  · refine .inr ⟨by omega, ?_⟩
    by_cases h1 : thu (nb y m d) ≤ 3652424
    · rw [if_pos h1]
      obtain ⟨a, b⟩ := dt_is (thu (nb y m d)) ⟨by omega, h1⟩
      have c := nb_year _ _ _ a
      rw [b] at c
      exact (wkY_eq y _ _ hny.1 hny.2 c.1 c.2).symm
    · rw [if_neg h1]
      exact (wkY_eq y 10000 _ hny.1 hny.2 (by omega) (by show _ < ys 10001; omega)).symm

set_option maxHeartbeats 1000000 in
theorem refWeek_any (y m d : Int) (h : VD y m d) (w : World) :
    Calls Tryd.prog 43 #[.int .i64 (nb y m d)] w fun e w' => e = .returned (dV (wkY y (nb y m d)) (wkW y (nb y m d)) (wd (nb y m d) + 1)) ∧ Below w.heap.size w w' := by
  have hny := nb_year y m d h
  have hnr := nb_range y m d h
  have hty := thu_year y m d h _ rfl
  have hwb := week_bounds y m d h
  generalize nb y m d = n at *
  have his := wkY_is y n hny.1 hny.2
  have hin := wk_in _ _ his.1 his.2
  have hnum := wk_num (wkY y n) n
  have HW := hid (fun w => refWeekday_any n (by omega) (by omega) w)
  have hwd := wd_lt n
  have ht : n - wd n + 3 = thu n := rfl
  have hs : wkW y n = (n - wkS (wkY y n)) / 7 + 1 := by unfold wkW; rw [hnum]
  have HF := hid (fun w => refFirst_any (wkY y n) (by omega) (by omega) w)
  have hq : (n - wkS (wkY y n)).tdiv 7 = wkW y n - 1 := by rw [Int.tdiv_eq_ediv_of_nonneg (by omega)]; omega
  have hnear := wkS_near (wkY y n)
  have hyb := ys_bounds (wkY y n) (by omega) (by omega)
  have hfb : -1000 ≤ wkS (wkY y n) ∧ wkS (wkY y n) ≤ 4000000 := by omega
  have htb : -10 ≤ thu n ∧ thu n ≤ 3652430 := by omega
  have H9 := hid (fun (h0 : 0 ≤ thu n) w => refDate9_any (thu n) h0 htb.2 w)
  clear hny his hin hnum hs hnear hyb h
  unfold dV at *
  generalize wkS (wkY y n) = f at *
  generalize wkW y n = ww at *
  generalize thu n = t at *
  rcases hty with ⟨h0, hwy⟩ | ⟨h0, hwy⟩
  · rw [hwy] at HF ⊢
    generalize wd n = v at *
    clear H9 hwy
    go_enter Tryd.func43, Tryd.ntmps43
    go_wp2_with fail
    refine (HW.out _).mono ?_
    rintro e w' ⟨rfl, rfl⟩
    have hv : v + 1 - 1 = v := by omega
    go_wp2_with fail
    refine (HF.out _).mono ?_
    rintro e w' ⟨rfl, rfl⟩
    go_wp2_with fail
    refine (HW.out _).mono ?_
    rintro e w' ⟨rfl, rfl⟩
    have hww : ww - 1 + 1 = ww := by omega
    go_wp2
    go_returns
    exact ⟨by first | rfl | (rw [hww]), (Below.refl _ _).alloc (Nat.le_refl _) _⟩
  · rw [← hwy] at H9
    generalize wkY y n = yy at *
    generalize wd n = v at *
    have H9' := hid (H9.out h0)
    clear H9 hwy
    go_enter Tryd.func43, Tryd.ntmps43
    go_wp2_with fail
    refine (HW.out _).mono ?_
    rintro e w' ⟨rfl, rfl⟩
    have hv : v + 1 - 1 = v := by omega
    go_wp2_with fail
    refine (H9'.out _).mono ?_
    rintro e w1 ⟨rfl, hb1⟩
    have hx := (WBox.new w 0 0 0).later hb1
    have hB : Below w.heap.size w w1 := ((Below.refl _ _).alloc (Nat.le_refl _) _).trans (hb1.mono (by simp))
    have HX := hid hx
    clear hb1 hx
    go_wp2_with fail
    refine (HF.out _).mono ?_
    rintro e w' ⟨rfl, rfl⟩
    go_wp2_with fail
    refine (HW.out _).mono ?_
    rintro e w' ⟨rfl, rfl⟩
    have hww : ww - 1 + 1 = ww := by omega
    obtain ⟨e0, e1, e2, f0, f1, f2, ez⟩ := HX.out.facts
    obtain ⟨g0, g1, g2, _⟩ := (HX.out.put yy ww (v + 1)).facts
    clear HX
    go_wp2
    refine bodyPost_ret (by simp [results, Tryd.results43, go_sem, g0, g1, g2]; try rfl) rfl ?_
    exact ⟨rfl, ((hB.setCell (Nat.le_refl _) _).setCell (Nat.le_refl _) _).setCell (Nat.le_refl _) _⟩

set_option maxHeartbeats 1000000 in
theorem refWeekOf_any (y m d : Int) (w : World) :
    Calls Tryd.prog 22 #[dV y m d] w fun e w' => e = .returned (weekV y m d) ∧ Below w.heap.size w w' := by
  have HD := hid (fun w => refDays_any y m d w)
  unfold weekV
  by_cases h : VD y m d
  · have HW := hid (fun w => refWeek_any y m d h w)
    rw [if_pos h]
    rw [if_pos h, if_pos h] at HD
    clear h
    generalize wkY y (nb y m d) = a at *
    generalize wkW y (nb y m d) = b at *
    generalize wd (nb y m d) + 1 = c at *
    generalize nb y m d = n at *
    unfold dV at *
    go_enter Tryd.func22, Tryd.ntmps22
    go_wp2_with fail
    refine (HD.out _).mono ?_
    rintro e w1 ⟨rfl, hb1⟩
    have hy1 : WBox w1 (w.heap.size + 1) 0 0 0 := by have h := (WBox.new (w.alloc (.cells #[.int .i64 y, .int .i64 m, .int .i64 d] 24)) 0 0 0).later hb1; simpa using h
    have hB1 : Below w.heap.size w w1 := (((Below.refl _ _).alloc (Nat.le_refl _) _).alloc (by simp) _).trans (hb1.mono (by simp; omega))
    have HP := hid hy1
    clear hb1 hy1 HD
    go_wp2_with fail
    refine (HW.out _).mono ?_
    rintro e w2 ⟨rfl, hb2⟩
    have hB2 := hB1.trans (hb2.mono hB1.size)
    have hy2 := HP.out.later hb2
    obtain ⟨e0, e1, e2, f0, f1, f2, ez⟩ := hy2.facts
    obtain ⟨g0, g1, g2, _⟩ := (hy2.put a b c).facts
    clear hy2 hb2 HW HP
    go_wp2
    refine bodyPost_ret (by simp [results, Tryd.results22, go_sem, g0, g1, g2]; try rfl) rfl ?_
    exact ⟨rfl, ((hB2.setCell (by simp) _).setCell (by simp) _).setCell (by simp) _⟩
  · rw [if_neg h]
    rw [if_neg h, if_neg h] at HD
    clear h
    unfold dV at *
    go_enter Tryd.func22, Tryd.ntmps22
    go_wp2_with fail
    refine (HD.out _).mono ?_
    rintro e w1 ⟨rfl, hb1⟩
    have hy1 : WBox w1 (w.heap.size + 1) 0 0 0 := by have h := (WBox.new (w.alloc (.cells #[.int .i64 y, .int .i64 m, .int .i64 d] 24)) 0 0 0).later hb1; simpa using h
    have hB1 : Below w.heap.size w w1 := (((Below.refl _ _).alloc (Nat.le_refl _) _).alloc (by simp) _).trans (hb1.mono (by simp; omega))
    obtain ⟨e0, e1, e2, f0, f1, f2, ez⟩ := hy1.facts
    obtain ⟨g0, g1, g2, _⟩ := (hy1.put 0 0 0).facts
    clear hb1 hy1 HD
    go_wp2
    refine bodyPost_ret (by simp [results, Tryd.results22, go_sem, g0, g1, g2]; try rfl) rfl ?_
    exact ⟨rfl, ((hB1.setCell (by simp) _).setCell (by simp) _).setCell (by simp) _⟩
end Go.Proofs.YtjjkfhpiapnjlacDoor
