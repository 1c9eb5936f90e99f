/-
  CalBack: the law's own walk, out of the contracts.
-/
import Derived.Test.YtjjkfhpiapnjlaaDoorCof
namespace Go.Proofs.YtjjkfhpiapnjlaaDoor
open Go.RowKit
set_option maxRecDepth 100000

/-- the day behind a number's day -/
theorem next_cases (n : Int) (h0 : 0 ≤ n) (h1 : n ≤ 3652423) :
    (VD (dY n) (dM n) (dD n + 1) ∧ dY (n + 1) = dY n ∧ dM (n + 1) = dM n ∧ dD (n + 1) = dD n + 1) ∨
    (¬ VD (dY n) (dM n) (dD n + 1) ∧ VD (dY n) (dM n + 1) 1 ∧ dY (n + 1) = dY n ∧ dM (n + 1) = dM n + 1 ∧ dD (n + 1) = 1 ∧ 28 ≤ dD n) ∨
    (¬ VD (dY n) (dM n) (dD n + 1) ∧ ¬ VD (dY n) (dM n + 1) 1 ∧ dY (n + 1) = dY n + 1 ∧ dM (n + 1) = 1 ∧ dD (n + 1) = 1 ∧ dM n = 12 ∧ dD n = 31) := by
  obtain ⟨hv, hn⟩ := dt_is n (by omega)
  generalize dY n = y at *
  generalize dM n = m at *
  generalize dD n = d at *
  rcases nb_succ y m d hv with ⟨_, a, b⟩ | ⟨c, c2, a, b⟩ | ⟨c, c2, c3, a, b⟩ | ⟨rfl, rfl, rfl⟩
  · obtain ⟨e1, e2, e3⟩ := dt_eq _ _ _ (n + 1) a (by omega)
    exact .inl ⟨a, e1.symm, e2.symm, e3.symm⟩
  · obtain ⟨e1, e2, e3⟩ := dt_eq _ _ _ (n + 1) a (by omega)
    have hl := lg_le y m
    exact .inr (.inl ⟨fun h => by have := h.2.2.2.2.2; omega, a, e1.symm, e2.symm, e3.symm, by omega⟩)
  · obtain ⟨e1, e2, e3⟩ := dt_eq _ _ _ (n + 1) a (by omega)
    subst c2
    have hl : lg y 12 = 31 := by simp [lg]
    exact .inr (.inr ⟨fun h => by have := h.2.2.2.2.2; omega, fun h => by have := h.2.2.2.1; omega, e1.symm, e2.symm, e3.symm, rfl, by omega⟩)
  · have : nb 9999 12 31 = 3652424 := by decide
    omega

set_option maxHeartbeats 4000000 in
theorem back_any (n : Int) (hx : -9223372036854775808 ≤ n ∧ n ≤ 9223372036854775807) (w : World) (hA : HasAh w) :
    Calls Tryd.prog 6 #[.int .i64 n] w fun e w' => e = .returned (.bool true) ∧ Below w.heap.size w w' := by
  have HA : Hid (HasAh w) := hA
  have HW : Hid (_) := within_any n 0 3652423 hx (by omega) (by omega) (by omega) w
  have hk := wi_in n 0 3652423 (by omega)
  generalize wi n 0 3652423 = k at *
  clear hA hx
  obtain ⟨hk0, hk1⟩ := hk
  have HO : Hid (_) := fun w h => of_good k hk0 (by omega) w h
  have HO1 : Hid (_) := fun w h => of_good (k + 1) (by omega) (by omega) w h
  have HD : Hid (_) := fun w h => days_any (dY k) (dM k) (dD k) w h
  have HV : Hid (_) := fun w h => valid_any (dY k) (dM k) (dD k) w h
  have HV1 : Hid (_) := fun w h => valid_any (dY (k + 1)) (dM (k + 1)) (dD (k + 1)) w h
  have HVn : Hid (_) := fun w h => valid_any (dY k) (dM k) (dD k + 1) w h
  have HVm : Hid (_) := fun w h => valid_any (dY k) (dM k + 1) 1 w h
  obtain ⟨hv, hn⟩ := dt_is k (by omega)
  obtain ⟨hv1, hn1⟩ := dt_is (k + 1) (by omega)
  rw [if_pos hv, if_pos hv, hn] at HD
  rw [decide_eq_true hv] at HV
  rw [decide_eq_true hv1] at HV1
  have hc := next_cases k hk0 hk1
  have hd : 1 ≤ dD k ∧ dD k ≤ 31 ∧ 1 ≤ dM k ∧ dM k ≤ 12 ∧ 0 ≤ dY k ∧ dY k ≤ 9999 := by have := lg_le (dY k) (dM k); have := hv; unfold VD at this; omega
  clear hv hn hv1 hn1
  generalize dY k = y at *
  generalize dM k = m at *
  generalize dD k = d at *
  generalize dY (k + 1) = y1 at *
  generalize dM (k + 1) = m1 at *
  generalize dD (k + 1) = d1 at *
  unfold dV at *
  go_enter Tryd.func6, Tryd.ntmps6
  go_wp2_with fail
  refine Calls.mono HW.out ?_
  rintro e w' ⟨rfl, rfl⟩
  clear HW
  go_wp2_with fail
  refine (HO.out _ HA.out).mono ?_
  rintro e w1 ⟨rfl, hb1⟩
  clear HO
  have HA1 : Hid (HasAh w1) := HA.out.below hb1
  go_wp2_with fail
  refine (HD.out _ (HA1.out.alloc _)).mono ?_
  rintro e w2 ⟨rfl, hb2⟩
  clear HD
  have HA2 : Hid (HasAh w2) := (HA1.out.alloc _).below hb2
  have hx2 : Box w2 w1.heap.size y m d := (Box.new w1 y m d).later hb2
  have hB2 : Below w'.heap.size w' w2 := (hb1.alloc hb1.size _).trans (hb2.mono (by have := hb1.size; simp; omega))
  clear hb1 hb2
  generalize w1.heap.size = b1 at *
  obtain ⟨c20, c21, c22, _, _, _, z2⟩ := hx2.facts
  have HX2 : Hid (_) := hx2
  clear hx2
  go_wp2_with fail
  refine (HO1.out _ HA2.out).mono ?_
  rintro e w3 ⟨rfl, hb3⟩
  clear HO1
  have HA3 : Hid (HasAh w3) := HA2.out.below hb3
  have hB3 : Below w'.heap.size w' w3 := hB2.trans (hb3.mono hB2.size)
  obtain ⟨c30, c31, c32, _, _, _, z3⟩ := (Box.later HX2.out hb3).facts
  have HX3 : Hid (_) := Box.later HX2.out hb3
  clear c20 c21 c22 z2 HX2 hB2 hb3
  go_wp2_with fail
  refine (HV.out _ (HA3.out.alloc _)).mono ?_
  rintro e w4 ⟨rfl, hb4⟩
  clear HV
  have HA4 : Hid (HasAh w4) := (HA3.out.alloc _).below hb4
  have hx4 : Box w4 b1 y m d := (Box.later HX3.out ((Below.refl _ _).alloc (Nat.le_refl _) _)).later hb4
  have hy4 : Box w4 w3.heap.size y1 m1 d1 := (Box.new w3 y1 m1 d1).later hb4
  have hB4 : Below w'.heap.size w' w4 := (hB3.alloc hB3.size _).trans (hb4.mono (by have := hB3.size; simp; omega))
  clear c30 c31 c32 z3 HX3 hb4
  have hz3 := hB3.size
  clear hB3
  generalize w3.heap.size = b3 at *
  obtain ⟨c0, c1, c2, _, _, _, z4⟩ := hx4.facts
  obtain ⟨d0, d1', d2, _, _, _, z4'⟩ := hy4.facts
  have HX4 : Hid (_) := And.intro hx4 hy4
  clear hx4 hy4
  go_wp2_with fail
  refine (HV1.out _ HA4.out).mono ?_
  rintro e w5 ⟨rfl, hb5⟩
  clear HV1 c0 c1 c2 d0 d1' d2 z4 z4'
  have HA5 : Hid (HasAh w5) := HA4.out.below hb5
  have hx5 : Box w5 b1 y m d := HX4.out.1.later hb5
  have hy5 : Box w5 b3 y1 m1 d1 := HX4.out.2.later hb5
  have hB5 : Below w'.heap.size w' w5 := hB4.trans (hb5.mono hB4.size)
  clear HX4 hb5 hB4
  obtain ⟨c0, c1, c2, _, _, _, z4⟩ := hx5.facts
  have HX5 : Hid (_) := And.intro hx5 hy5
  clear hx5 hy5
  go_wp2_with fail
  refine (HVn.out _ (HA5.out.alloc _)).mono ?_
  rintro e w6 ⟨rfl, hb6⟩
  have HA6 : Hid (HasAh w6) := (HA5.out.alloc _).below hb6
  have hx6 : Box w6 b1 y m d := (HX5.out.1.later ((Below.refl _ _).alloc (Nat.le_refl _) _)).later hb6
  have hy6 : Box w6 b3 y1 m1 d1 := (HX5.out.2.later ((Below.refl _ _).alloc (Nat.le_refl _) _)).later hb6
  have hn6 : Box w6 w5.heap.size y m (d + 1) := (Box.new w5 y m (d + 1)).later hb6
  have hB6 : Below w'.heap.size w' w6 := (hB5.alloc hB5.size _).trans (hb6.mono (by have := hB5.size; simp; omega))
  clear c0 c1 c2 z4 hb6
  have hz5 := hB5.size
  have hz51 : b1 < w5.heap.size := HX5.out.1.facts.2.2.2.2.2.2
  have hz53 : b3 < w5.heap.size := HX5.out.2.facts.2.2.2.2.2.2
  clear hB5 HX5
  generalize w5.heap.size = b5 at *
  obtain ⟨c0, c1, c2, _, _, _, z4⟩ := hx6.facts
  obtain ⟨d0, d1', d2, _, _, _, z4'⟩ := hy6.facts
  obtain ⟨n0, n1, n2, f0, f1, f2, z5'⟩ := hn6.facts
  rcases hc with ⟨p1, rfl, rfl, rfl⟩ | ⟨p1, p2, rfl, rfl, rfl, p3⟩ | ⟨p1, p2, rfl, rfl, rfl, rfl, rfl⟩
  · rw [decide_eq_true p1]
    clear hx6 hy6 hn6 p1
    go_wp2
    go_ret
    exact ⟨rfl, hB6⟩
  · rw [decide_eq_false p1]
    rw [decide_eq_true p2] at HVm
    have HP := hid (hn6.put y1 (m + 1) 1)
    have HXY := hid (And.intro hx6 hy6)
    have hne1 : ¬ b1 = b5 := by omega
    have hne3 : ¬ b3 = b5 := by omega
    have hs5 : Below b5 w6 (((w6.setCell ⟨b5, 0, none⟩ (.int .i64 y1)).setCell ⟨b5, 1, none⟩ (.int .i64 (m + 1))).setCell ⟨b5, 2, none⟩ (.int .i64 1)) :=
      (((Below.refl b5 w6).setCell (Nat.le_refl _) _).setCell (Nat.le_refl _) _).setCell (Nat.le_refl _) _
    obtain ⟨q0, q1, q2, _, _, _, zq⟩ := HP.out.facts
    have hlt := HA.out.lt
    clear hx6 hy6 hn6 p1 p2
    go_wp2_with fail
    refine (HVm.out _ (HA6.out.belowAt hs5 (by omega))).mono ?_
    rintro e w7 ⟨rfl, hb7⟩
    have hx7 := (HXY.out.1.below hs5 (by omega)).later hb7
    have hy7 := (HXY.out.2.below hs5 (by omega)).later hb7
    have hn7 := HP.out.later hb7
    have hBs := hB6.trans (hs5.mono hz5)
    have hB7 : Below w'.heap.size w' w7 := hBs.trans (hb7.mono hBs.size)
    clear c0 c1 c2 d0 d1' d2 n0 n1 n2 f0 f1 f2 q0 q1 q2 zq hb7 hs5 hB6 hBs
    obtain ⟨c0, c1, c2, _⟩ := hx7.facts
    obtain ⟨d0, d1', d2, _⟩ := hy7.facts
    obtain ⟨n0, n1, n2, _⟩ := hn7.facts
    clear hx7 hy7 hn7
    go_wp2
    go_ret
    exact ⟨rfl, hB7⟩
  · rw [decide_eq_false p1]
    rw [decide_eq_false p2] at HVm
    have HP := hid (hn6.put y (12 + 1) 1)
    have HXY := hid (And.intro hx6 hy6)
    have hne1 : ¬ b1 = b5 := by omega
    have hne3 : ¬ b3 = b5 := by omega
    have hs5 : Below b5 w6 (((w6.setCell ⟨b5, 0, none⟩ (.int .i64 y)).setCell ⟨b5, 1, none⟩ (.int .i64 (12 + 1))).setCell ⟨b5, 2, none⟩ (.int .i64 1)) :=
      (((Below.refl b5 w6).setCell (Nat.le_refl _) _).setCell (Nat.le_refl _) _).setCell (Nat.le_refl _) _
    obtain ⟨q0, q1, q2, _, _, _, zq⟩ := HP.out.facts
    have hlt := HA.out.lt
    clear hx6 hy6 hn6 p1 p2
    go_wp2_with fail
    refine (HVm.out _ (HA6.out.belowAt hs5 (by omega))).mono ?_
    rintro e w7 ⟨rfl, hb7⟩
    have hx7 := (HXY.out.1.below hs5 (by omega)).later hb7
    have hy7 := (HXY.out.2.below hs5 (by omega)).later hb7
    have hn7 := HP.out.later hb7
    have hBs := hB6.trans (hs5.mono hz5)
    have hB7 : Below w'.heap.size w' w7 := hBs.trans (hb7.mono hBs.size)
    clear c0 c1 c2 d0 d1' d2 n0 n1 n2 f0 f1 f2 q0 q1 q2 zq hb7 hs5 hB6 hBs
    obtain ⟨c0, c1, c2, _⟩ := hx7.facts
    obtain ⟨d0, d1', d2, _⟩ := hy7.facts
    obtain ⟨n0, n1, n2, _⟩ := hn7.facts
    clear hx7 hy7 hn7
    go_wp2
    go_ret
    exact ⟨rfl, hB7⟩
end Go.Proofs.YtjjkfhpiapnjlaaDoor
