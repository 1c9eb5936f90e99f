/-
  CalWeekly: the law's own walk, out of the contracts.
-/
import Derived.Test.YtjjkfhpiapnjlabDoorCfw
import Derived.Test.YtjjkfhpiapnjlabDoorWkb
namespace Go.Proofs.YtjjkfhpiapnjlabDoor
open Go.RowKit
set_option maxRecDepth 100000

def WY (n : Int) : Int := wkY (dY n) n
def WW (n : Int) : Int := wkW (dY n) n

theorem wy_is (n : Int) (h : 0 ≤ n ∧ n ≤ 3652424) : ys (WY n) ≤ thu n ∧ thu n < ys (WY n + 1) := by
  obtain ⟨a, b⟩ := dt_is n h
  have c := nb_year _ _ _ a
  rw [b] at c
  exact wkY_is (dY n) n c.1 c.2
theorem wy_eq (n a : Int) (h : 0 ≤ n ∧ n ≤ 3652424) (h1 : ys a ≤ thu n) (h2 : thu n < ys (a + 1)) : WY n = a := by
  have := wy_is n h
  exact ys_uniq _ _ _ this.1 this.2 h1 h2
theorem ww_is (n : Int) : WW n = (thu n - ys (WY n)) / 7 + 1 := rfl
theorem weekV_of (n : Int) (h : 0 ≤ n ∧ n ≤ 3652424) : weekV (dY n) (dM n) (dD n) = .tuple #[dV (WY n) (WW n) (wd n + 1), .int .i64 0] := by
  obtain ⟨a, b⟩ := dt_is n h
  unfold weekV WY WW
  rw [if_pos a, b]

theorem weekly_facts (n : Int) (h0 : 7 ≤ n) (h1 : n ≤ 3652417) :
    (OkW (WY n) (WW n) (wd n + 1) ∧ wkD (WY n) (WW n) (wd n + 1) = n) ∧ (OkW (WY n) (WW n) 4 ∧ wkD (WY n) (WW n) 4 = thu n ∧ dY (thu n) = WY n) ∧
    (wd (n + 7) = wd n ∧ ((WY (n + 7) = WY n ∧ WW (n + 7) = WW n + 1) ∨ (WY (n + 7) = WY n + 1 ∧ WW (n + 7) = 1 ∧ (WW n = 52 ∨ WW n = 53)))) ∧
    ((wd n < 6 ∧ WY (n + 1) = WY n ∧ WW (n + 1) = WW n ∧ wd (n + 1) = wd n + 1) ∨ (wd n = 6 ∧ wd (n + 1) = 0)) := by
  have hr : 0 ≤ n ∧ n ≤ 3652424 := ⟨by omega, by omega⟩
  have his := wy_is n hr
  have hin := wk_in _ _ his.1 his.2
  have hnum := wk_num (WY n) n
  have hww := ww_is n
  have hwd := wd_lt n
  have ht : thu n = n - wd n + 3 := rfl
  have hN := wkN_is (WY n)
  have e0 := ys_zero
  have e1 := ys_10000
  have hY0 : 0 ≤ WY n := by
    have := ys_le (WY n + 1) 0
    omega
  have hY9 : WY n ≤ 9999 := by
    have := ys_le 10000 (WY n)
    omega
  have hty : 0 ≤ thu n ∧ thu n ≤ 3652424 := by omega
  have hdy : dY (thu n) = WY n := by
    obtain ⟨a, b⟩ := dt_is (thu n) hty
    have c := nb_year _ _ _ a
    rw [b] at c
    exact ys_uniq _ _ _ c.1 c.2 his.1 his.2
  have hnx := ys_next (WY n)
  have hlp := lpN_cases (WY n)
  refine ⟨⟨⟨by omega, hY9, by omega, by omega, by omega, by omega⟩, by unfold wkD; omega⟩, ⟨⟨by omega, hY9, by omega, by omega, by omega, by omega⟩, by unfold wkD; omega, hdy⟩, ⟨by unfold wd; omega, ?_⟩, ?_⟩
  · have hw7 : wd (n + 7) = wd n := by unfold wd; omega
    have ht7 : thu (n + 7) = thu n + 7 := by unfold thu; rw [hw7]; omega
    by_cases c : thu n + 7 < ys (WY n + 1)
    · have hy := wy_eq (n + 7) (WY n) ⟨by omega, by omega⟩ (by omega) (by omega)
      refine .inl ⟨hy, ?_⟩
      rw [ww_is, ww_is, hy, ht7]
      omega
    · have hn2 := ys_next (WY n + 1)
      have hlp2 := lpN_cases (WY n + 1)
      have hy := wy_eq (n + 7) (WY n + 1) ⟨by omega, by omega⟩ (by omega) (by omega)
      refine .inr ⟨hy, ?_, ?_⟩
      · rw [ww_is, hy, ht7]; omega
      · omega
  · by_cases c : wd n < 6
    · have hw1 : wd (n + 1) = wd n + 1 := by unfold wd at *; omega
      have ht1 : thu (n + 1) = thu n := by unfold thu; rw [hw1]; omega
      have hy := wy_eq (n + 1) (WY n) ⟨by omega, by omega⟩ (by omega) (by omega)
      refine .inl ⟨c, hy, ?_, hw1⟩
      rw [ww_is, ww_is, hy, ht1]
    · exact .inr ⟨by omega, by unfold wd at *; omega⟩

set_option maxHeartbeats 1000000 in
theorem weekly_any (z : Int) (b0 : -9223372036854775808 ≤ z ∧ z ≤ 9223372036854775807) (w : World) (hA : HasAh w) :
    Calls Tryd.prog 4 #[.int .i64 z] w fun e w' => e = .returned (.bool true) ∧ Below w.heap.size w w' := by
  have S0 := hid (St.refl hA)
  have W0 := hid (fun w => within_any z 7 3652417 b0 (by omega) (by omega) (by omega) w)
  have i0 := wi_in z 7 3652417 (by omega)
  generalize wi z 7 3652417 = n at *
  obtain ⟨n0, n1⟩ := i0
  clear b0 hA
  have T0 := hid (fun w h => at_any n (by omega) w h)
  have T7 := hid (fun w h => at_any (n + 7) (by omega) w h)
  have T1 := hid (fun w h => at_any (n + 1) (by omega) w h)
  rw [wi_self n 3652424 (by omega) (by omega)] at T0
  rw [wi_self (n + 7) 3652424 (by omega) (by omega)] at T7
  rw [wi_self (n + 1) 3652424 (by omega) (by omega)] at T1
  have K0 := hid (fun w h => cWeekOf_any (dY n) (dM n) (dD n) w h)
  have K7 := hid (fun w h => cWeekOf_any (dY (n + 7)) (dM (n + 7)) (dD (n + 7)) w h)
  have K1 := hid (fun w h => cWeekOf_any (dY (n + 1)) (dM (n + 1)) (dD (n + 1)) w h)
  rw [weekV_of n ⟨by omega, by omega⟩] at K0
  rw [weekV_of (n + 7) ⟨by omega, by omega⟩] at K7
  rw [weekV_of (n + 1) ⟨by omega, by omega⟩] at K1
  obtain ⟨⟨ok1, d1⟩, ⟨ok2, d2, d3⟩, ⟨f7, f8⟩, f1⟩ := weekly_facts n n0 n1
  have F0 := hid (fun w h => fromWeek_good _ _ _ ok1 w h)
  have F4 := hid (fun w h => fromWeek_good _ _ _ ok2 w h)
  have hty : 0 ≤ thu n ∧ thu n ≤ 3652424 := by have := wd_lt n; unfold thu; omega
  have o1 : ofV n = .tuple #[dV (dY n) (dM n) (dD n), .int .i64 0] := by unfold ofV; rw [if_pos ⟨by omega, by omega⟩]
  have o2 : ofV (thu n) = .tuple #[dV (WY n) (dM (thu n)) (dD (thu n)), .int .i64 0] := by unfold ofV; rw [if_pos hty, d3]
  rw [d1, o1] at F0
  rw [d2, o2] at F4
  have hwd := wd_lt n
  have hwb : -1 ≤ WY n ∧ WY n ≤ 9999 := ⟨ok1.1, ok1.2.1⟩
  have hwb2 : 1 ≤ WW n ∧ WW n ≤ 53 := ⟨ok1.2.2.1, by have := ok1.2.2.2.1; have := wkN_is (WY n); omega⟩
  rw [f7] at K7
  clear ok1 d1 ok2 d2 d3 hty o1 o2 f7
  generalize dM (thu n) = tm at *
  generalize dD (thu n) = td at *
  generalize dY n = y at *
  generalize dM n = m at *
  generalize dD n = d at *
  generalize dY (n + 7) = y7 at *
  generalize dM (n + 7) = m7 at *
  generalize dD (n + 7) = d7 at *
  generalize dY (n + 1) = y1 at *
  generalize dM (n + 1) = m1 at *
  generalize dD (n + 1) = d1 at *
  generalize WY n = a at *
  generalize WW n = b at *
  generalize wd n = v at *
  generalize WY (n + 7) = a7 at *
  generalize WW (n + 7) = b7 at *
  generalize WY (n + 1) = a1 at *
  generalize WW (n + 1) = b1 at *
  generalize wd (n + 1) = v1 at *
  unfold dV at *
  go_enter Tryd.func4, Tryd.ntmps4
  go_wp2_with fail
  refine (W0.out _).mono ?_
  rintro e w' ⟨rfl, rfl⟩
  clear W0
  go_wp2_with fail
  refine (T0.out _ S0.out.1).mono ?_
  rintro e w1 ⟨rfl, hb1⟩
  have S1 := hid (S0.out.call hb1)
  clear hb1 T0
  go_wp2_with fail
  refine (K0.out _ (S1.out.alloc _).1).mono ?_
  rintro e w2 ⟨rfl, hb2⟩
  have S2 := hid ((S1.out.alloc _).call hb2)
  have D2 := hid ((Box.new w1 y m d).later hb2)
  clear hb2 K0
  generalize w1.heap.size = q1 at *
  go_wp2_with fail
  refine (T7.out _ (S2.out.alloc _).1).mono ?_
  rintro e w3 ⟨rfl, hb3⟩
  have S3 := hid ((S2.out.alloc _).call hb3)
  have D3 := hid (D2.out.later1 hb3)
  have V3 := hid ((WBox.new w2 a b (v + 1)).later hb3)
  clear hb3 T7 D2
  generalize w2.heap.size = q2 at *
  go_wp2_with fail
  refine (K7.out _ S3.out.1).mono ?_
  rintro e w4 ⟨rfl, hb4⟩
  have S4 := hid (S3.out.call hb4)
  have D4 := hid (D3.out.later hb4)
  have V4 := hid (V3.out.later hb4)
  clear hb4 K7 D3 V3
  obtain ⟨p0, p1, p2, _, _, _, pz⟩ := V4.out.facts
  go_wp2_with fail
  refine (F0.out _ (S4.out.alloc _).1).mono ?_
  rintro e w5 ⟨rfl, hb5⟩
  have S5 := hid ((S4.out.alloc _).call hb5)
  have D5 := hid (D4.out.later1 hb5)
  have V5 := hid (V4.out.later1 hb5)
  have X5 := hid ((WBox.new w4 a7 b7 (v + 1)).later hb5)
  clear hb5 F0 D4 V4 p0 p1 p2 pz
  generalize w4.heap.size = q4 at *
  obtain ⟨p0, p1, p2, _, _, _, pz⟩ := V5.out.facts
  go_wp2_with fail
  refine (F4.out _ (S5.out.alloc _).1).mono ?_
  rintro e w6 ⟨rfl, hb6⟩
  have S6 := hid ((S5.out.alloc _).call hb6)
  have D6 := hid (D5.out.later1 hb6)
  have V6 := hid (V5.out.later1 hb6)
  have X6 := hid (X5.out.later1 hb6)
  have B6 := hid ((Box.new w5 y m d).later hb6)
  clear hb6 F4 D5 V5 X5 p0 p1 p2 pz
  generalize w5.heap.size = q5 at *
  obtain ⟨p0, p1, p2, _, _, _, pz⟩ := V6.out.facts
  obtain ⟨r0, r1, r2, _, _, _, rz⟩ := D6.out.facts
  obtain ⟨s0, s1, s2, _, _, _, sz⟩ := X6.out.facts
  obtain ⟨t0, t1, t2, _, _, _, tz⟩ := B6.out.facts
  go_wp2_with fail
  refine (T1.out _ (S6.out.alloc _).1).mono ?_
  rintro e w7 ⟨rfl, hb7⟩
  have S7 := hid ((S6.out.alloc _).call hb7)
  have V7 := hid (V6.out.later1 hb7)
  have X7 := hid (X6.out.later1 hb7)
  clear hb7 T1 D6 V6 X6 B6 p0 p1 p2 pz r0 r1 r2 rz s0 s1 s2 sz t0 t1 t2 tz
  go_wp2_with fail
  refine (K1.out _ S7.out.1).mono ?_
  rintro e w8 ⟨rfl, hb8⟩
  have S8 := hid (S7.out.call hb8)
  have V8 := hid (V7.out.later hb8)
  have X8 := hid (X7.out.later hb8)
  clear hb8 K1 V7 X7
  obtain ⟨p0, p1, p2, _, _, _, pz⟩ := V8.out.facts
  obtain ⟨s0, s1, s2, _, _, _, sz⟩ := X8.out.facts
  rcases f1 with ⟨g1, rfl, rfl, rfl⟩ | ⟨rfl, rfl⟩
  all_goals rcases f8 with ⟨rfl, rfl⟩ | ⟨rfl, rfl, h52 | h53⟩
  all_goals (try subst h52)
  all_goals (try subst h53)
  all_goals (try (have ge : (a + 1 == a) = false := by simp))
  all_goals (go_wp2; go_ret; exact ⟨rfl, (S8.out.alloc _).2⟩)
end Go.Proofs.YtjjkfhpiapnjlabDoor
