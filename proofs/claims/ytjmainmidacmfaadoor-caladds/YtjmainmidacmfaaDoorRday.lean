/-
  The document's own days: leap, long, ahead, Valid, number, Days, date, Of.
-/
import Derived.Test.YtjmainmidacmfaaDoorCof
namespace Go.Proofs.YtjmainmidacmfaaDoor
open Go.RowKit
set_option maxRecDepth 100000

theorem refLeap_any (y : Int) (hy : 0 ≤ y) (w : World) :
    Calls Tryd.prog 49 #[.int .i64 y] w fun e w' => e = .returned (.bool (decide (Lp y))) ∧ w' = w := by
  obtain ⟨n, rfl⟩ := Int.eq_ofNat_of_zero_le hy
  unfold Lp
  by_cases h4 : (n : Int) % 4 = 0 <;> by_cases h100 : (n : Int) % 100 = 0 <;> by_cases h400 : (n : Int) % 400 = 0
  all_goals
    go_enter Tryd.func49, Tryd.ntmps49
    go_wp2
    all_goals go_ret
    all_goals exact ⟨ret_bool (by simp [h4, h100, h400]), rfl⟩

theorem refLong_any (y m : Int) (hy : 0 ≤ y) (w : World) :
    Calls Tryd.prog 35 #[.int .i64 y, .int .i64 m] w fun e w' => e = .returned (.int .i64 (lg y m)) ∧ w' = w := by
  have HL := hid (refLeap_any y hy w)
  have hn := lpN_cases y
  unfold lg
  by_cases h4 : m = 4 ∨ m = 6 ∨ m = 9 ∨ m = 11
  · rw [if_pos h4]
    rcases h4 with rfl | rfl | rfl | rfl
    all_goals
      go_enter Tryd.func35, Tryd.ntmps35
      go_wp2
      go_ret
      exact ⟨rfl, rfl⟩
  · rw [if_neg h4]
    have b4 : (m == 4) = false := by simp; omega
    have b6 : (m == 6) = false := by simp; omega
    have b9 : (m == 9) = false := by simp; omega
    have b11 : (m == 11) = false := by simp; omega
    clear h4
    by_cases h2 : m = 2
    · subst h2
      rw [if_pos rfl]
      clear b4 b6 b9 b11
      rcases hn with ⟨hn, hp⟩ | ⟨hn, hp⟩
      · rw [decide_eq_false hp] at HL
        rw [hn]
        clear hp hn
        go_enter Tryd.func35, Tryd.ntmps35
        go_wp2_with fail
        refine Calls.mono HL.out ?_
        rintro e w' ⟨rfl, rfl⟩
        go_wp2
        go_ret
        exact ⟨rfl, rfl⟩
      · rw [decide_eq_true hp] at HL
        rw [hn]
        clear hp hn
        go_enter Tryd.func35, Tryd.ntmps35
        go_wp2_with fail
        refine Calls.mono HL.out ?_
        rintro e w' ⟨rfl, rfl⟩
        go_wp2
        go_ret
        exact ⟨rfl, rfl⟩
    · rw [if_neg h2]
      have b2 : (m == 2) = false := by simp; omega
      clear hn h2
      go_enter Tryd.func35, Tryd.ntmps35
      go_wp2
      go_ret
      exact ⟨rfl, rfl⟩

theorem refAhead_any (y : Int) (h1 : 0 ≤ y) (h2 : y ≤ 10000) (w : World) :
    Calls Tryd.prog 48 #[.int .i64 y] w fun e w' => e = .returned (.int .i64 (ys y)) ∧ w' = w := by
  by_cases hy : y = 0
  · subst hy
    go_enter Tryd.func48, Tryd.ntmps48
    go_wp2
    go_ret
    exact ⟨rfl, rfl⟩
  · obtain ⟨n, hn⟩ : ∃ n : Nat, y = (n : Int) + 1 := ⟨(y - 1).toNat, by omega⟩
    subst hn
    have hb : ((n : Int) + 1 == 0) = false := by simp; omega
    go_enter Tryd.func48, Tryd.ntmps48
    go_wp2
    go_ret
    exact ⟨ret_int (by unfold ys; omega), rfl⟩

set_option maxHeartbeats 1000000 in
theorem refValid_any (y m d : Int) (w : World) :
    Calls Tryd.prog 50 #[dV y m d] w fun e w' => e = .returned (.bool (decide (VD y m d))) ∧ Below w.heap.size w w' := by
  unfold dV
  have hb : ∀ n, Below w.heap.size w (World.drewN (w.alloc (.cells #[.int .i64 y, .int .i64 m, .int .i64 d] 36)) n) := fun n => below_drewN ((Below.refl _ _).alloc (Nat.le_refl _) _) n
  have hb0 : Below w.heap.size w (w.alloc (.cells #[.int .i64 y, .int .i64 m, .int .i64 d] 36)) := (Below.refl _ _).alloc (Nat.le_refl _) _
  by_cases c1 : y < 0
  · rw [decide_eq_false (show ¬ VD y m d from fun h => by have := h.1; omega)]
    go_enter Tryd.func50, Tryd.ntmps50
    go_wp2
    go_ret
    exact ⟨rfl, hb0⟩
  · by_cases c2 : 9999 < y
    · rw [decide_eq_false (show ¬ VD y m d from fun h => by have := h.2.1; omega)]
      go_enter Tryd.func50, Tryd.ntmps50
      go_wp2
      go_ret
      exact ⟨rfl, hb0⟩
    · by_cases c3 : m < 1
      · rw [decide_eq_false (show ¬ VD y m d from fun h => by have := h.2.2.1; omega)]
        go_enter Tryd.func50, Tryd.ntmps50
        go_wp2
        go_ret
        exact ⟨rfl, hb0⟩
      · by_cases c4 : 12 < m
        · rw [decide_eq_false (show ¬ VD y m d from fun h => by have := h.2.2.2.1; omega)]
          go_enter Tryd.func50, Tryd.ntmps50
          go_wp2
          go_ret
          exact ⟨rfl, hb0⟩
        · have HL := hid (fun w => refLong_any y m (by omega) w)
          by_cases c5 : 1 ≤ d
          · by_cases c6 : d ≤ lg y m
            · rw [decide_eq_true (show VD y m d from ⟨by omega, by omega, by omega, by omega, c5, c6⟩)]
              generalize lg y m = c at *
              go_enter Tryd.func50, Tryd.ntmps50
              go_wp2_with fail
              go_quiet (first
                | (go_at_call 35; exact Calls.quiet_of_same (HL.out _)))
              go_wp2
              go_ret
              exact ⟨rfl, hb _⟩
            · rw [decide_eq_false (show ¬ VD y m d from fun h => c6 h.2.2.2.2.2)]
              generalize lg y m = c at *
              have bb : decide (d ≤ c) = false := decide_eq_false c6
              go_enter Tryd.func50, Tryd.ntmps50
              go_wp2_with fail
              go_quiet (first
                | (go_at_call 35; exact Calls.quiet_of_same (HL.out _)))
              go_wp2
              go_ret
              exact ⟨rfl, hb _⟩
          · have bb : decide (1 ≤ d) = false := decide_eq_false c5
            rw [decide_eq_false (show ¬ VD y m d from fun h => c5 h.2.2.2.2.1)]
            go_enter Tryd.func50, Tryd.ntmps50
            go_wp2_with fail
            go_quiet (fail)
            go_wp2
            go_ret
            exact ⟨rfl, hb _⟩

set_option maxHeartbeats 1000000 in
theorem refNumber_any (y m d : Int) (h : VD y m d) (w : World) :
    Calls Tryd.prog 36 #[dV y m d] w fun e w' => e = .returned (.int .i64 (nb y m d)) ∧ Below w.heap.size w w' := by
  obtain ⟨h1, h2, h3, h4, h5, h6⟩ := h
  have hll := lg_le y m
  have HY := hid (fun w => refAhead_any y h1 (by omega) w)
  have hyy := ys_bounds y (by omega) (by omega)
  have hn : nb y m d = ys y + ms y m + d - 1 := rfl
  have hm1 := ms_one y
  have HN := hid hn
  have HM1 := hid hm1
  generalize hys : ys y = a at *
  have hd31 : d ≤ 31 := by omega
  clear hn hm1 hll h6 hys
  unfold dV
  go_enter Tryd.func36, Tryd.ntmps36
  go_wp2_with fail
  go_quiet (first
    | (go_at_call 48; exact Calls.quiet_of_same (HY.out _)))
  go_wp2_with fail
  go_loop [3, 4] (fun s j => ∃ k : Int, 1 ≤ k ∧ k ≤ m ∧ s = .int .i64 (a + d - 1 + ms y k) ∧ j = .int .i64 k) (fun _ j => 13 - (intOf j).toNat)
  case atStart => exact ⟨1, by omega, h3, int_eq (by rw [HM1.out]; omega), rfl⟩
  case round =>
    obtain ⟨k, hk1, hk2, rfl, rfl⟩ := hrel
    have HL := hid (fun w => refLong_any y k h1 w)
    have hst := ms_step y k hk1 (by omega)
    have hml := ms_long y k (by omega) (by omega)
    have hlg := lg_le y k
    by_cases hlt : k < m
    · have HST := hid hst
      generalize ms y k = u at *
      generalize lg y k = g at *
      clear hst
      go_wp2_with fail
      refine (HL.out _).mono ?_
      rintro e w' ⟨rfl, rfl⟩
      go_wp2
      go_round
      case rel => exact ⟨k + 1, by omega, by omega, int_eq (by rw [← HST.out]; omega), by go_num⟩
      case measure => simp [intOf]; omega
    · have hkm : k = m := by omega
      subst hkm
      have HX := hid (show nb y k d = a + d - 1 + ms y k by rw [HN.out]; omega)
      clear hst HN
      generalize ms y k = u at *
      go_wp2
      go_ret
      exact ⟨ret_int HX.out.symm, below_drewN ((Below.refl _ _).alloc (Nat.le_refl _) _) nq⟩

theorem refDays_any (y m d : Int) (w : World) :
    Calls Tryd.prog 37 #[dV y m d] w fun e w' => e = .returned (.tuple #[.int .i64 (if VD y m d then nb y m d else 0), .int .i64 (if VD y m d then 0 else 30)]) ∧ Below w.heap.size w w' := by
  have HV := hid (fun w => refValid_any y m d w)
  by_cases hv : VD y m d
  · have HN := hid (fun w => refNumber_any y m d hv w)
    rw [if_pos hv, if_pos hv]
    rw [decide_eq_true hv] at HV
    clear hv
    unfold dV at *
    go_enter Tryd.func37, Tryd.ntmps37
    go_wp2_with fail
    refine (HV.out _).mono ?_
    rintro e w1 ⟨rfl, hb1⟩
    obtain ⟨k0, k1, k2, hB, _⟩ := date_cells w w1 _ _ _ hb1
    clear hb1
    go_wp2_with fail
    refine (HN.out _).mono ?_
    rintro e w2 ⟨rfl, hb2⟩
    go_wp2
    go_ret2
    exact ⟨rfl, hB.trans (hb2.mono hB.size)⟩
  · rw [if_neg hv, if_neg hv]
    rw [decide_eq_false hv] at HV
    clear hv
    unfold dV at *
    go_enter Tryd.func37, Tryd.ntmps37
    go_wp2_with fail
    refine (HV.out _).mono ?_
    rintro e w1 ⟨rfl, hb1⟩
    obtain ⟨k0, k1, k2, hB, _⟩ := date_cells w w1 _ _ _ hb1
    clear hb1
    go_wp2
    go_ret2
    exact ⟨rfl, hB⟩

set_option maxHeartbeats 1000000 in
theorem refDate_any (n : Int) (h0 : 0 ≤ n) (h1 : n ≤ 3652424) (w : World) :
    Calls Tryd.prog 34 #[.int .i64 n] w fun e w' => e = .returned (dV (dY n) (dM n) (dD n)) ∧ Below w.heap.size w w' := by
  have hq : n.tdiv 366 = n / 366 := Int.tdiv_eq_ediv_of_nonneg h0
  have hq1 : 0 ≤ n / 366 ∧ n / 366 ≤ 9999 := by omega
  have hys0 : ys (n / 366) ≤ n := by unfold ys; omega
  have HYS0 := hid hys0
  clear hys0
  go_enter Tryd.func34, Tryd.ntmps34
  go_wp2_with fail
  go_loop [3] (fun y => ∃ Y : Int, 0 ≤ Y ∧ Y ≤ 9999 ∧ ys Y ≤ n ∧ y = .int .i64 Y) (fun y => 10000 - (intOf y).toNat)
  case atStart => exact ⟨_, hq1.1, hq1.2, HYS0.out, by go_num⟩
  case round =>
    obtain ⟨Z, hY0, hY9, hys, rfl⟩ := hrel
    clear HYS0
    have HYs := hid hys
    have hyb := ys_bounds (Z + 1) (by omega) (by omega)
    by_cases hgo : Z < 9999 ∧ ys (Z + 1) ≤ n
    · have HY := hid (fun w => refAhead_any (Z + 1) (by omega) (by omega) w)
      obtain ⟨g1, g2⟩ := hgo
      have HG := hid g2
      clear hys
      generalize ys (Z + 1) = a at HY g2 hyb
      go_wp2_with fail
      refine (HY.out _).mono ?_
      rintro e w' ⟨rfl, rfl⟩
      clear HY
      go_wp2
      go_round
      case rel => exact ⟨Z + 1, by omega, by omega, HG.out, rfl⟩
      case measure => simp [intOf]; omega
    · have hlt : n < ys (Z + 1) := by
        by_cases e : Z < 9999
        · have := fun x => hgo ⟨e, x⟩; omega
        · have : Z = 9999 := by omega
          subst this
          have := ys_10000
          show n < ys 10000
          omega
      have HZ := hid (fun w => refAhead_any Z (by omega) (by omega) w)
      have HL := hid (fun M w => refLong_any Z M hY0 w)
      have hzb := ys_bounds Z (by omega) (by omega)
      have hnx := ys_next Z
      have h13 := ms_13 Z
      have hm1 := ms_one Z
      have hr0 : 0 ≤ n - ys Z := by omega
      have hrle : n - ys Z < ms Z 13 := by omega
      have H13 := hid hrle
      have hlpc := lpN_cases Z
      have hr365 : n - ys Z ≤ 365 := by omega
      have HHY := hid (fun (hz : Z < 9999) w => refAhead_any (Z + 1) (by omega) (by omega) w)
      have HM1 := hid hm1
      have HRW : Hid (∀ M r : Int, 1 ≤ M → M ≤ 12 → 0 ≤ r → r < lg Z M → n - ys Z = ms Z M + r → Z = dY n ∧ M = dM n ∧ r + 1 = dD n) := fun M r a b c d e => dt_eq Z M (r + 1) n ⟨hY0, hY9, a, b, by omega, by omega⟩ (by unfold nb; omega)
      clear hnx h13 hlpc hrle HYs hm1
      generalize hgz : ys Z = b at *
      generalize hga : ys (Z + 1) = a at *
      obtain ⟨r, hr⟩ : ∃ r, n - b = r := ⟨_, rfl⟩
      rw [hr] at H13 hr0 hr365 HRW
      clear hgz hga
      by_cases hz9 : Z < 9999
      · have HY := hid (HHY.out hz9)
        have hnle : ¬ a ≤ n := by omega
        clear HHY hgo
        go_wp2_with fail
        refine (HY.out _).mono ?_
        rintro e w' ⟨rfl, rfl⟩
        clear HY
        go_wp2_with fail
        refine (HZ.out _).mono ?_
        rintro e w' ⟨rfl, rfl⟩
        clear HZ
        go_wp2_with fail
        go_loop [0, 4] (fun x m => ∃ M R : Int, 1 ≤ M ∧ M ≤ 12 ∧ 0 ≤ R ∧ R ≤ 365 ∧ r = ms Z M + R ∧ x = .int .i64 R ∧ m = .int .i64 M) (fun _ m => 13 - (intOf m).toNat)
        case atStart => exact ⟨1, r, by omega, by omega, hr0, hr365, by rw [HM1.out]; omega, rfl, rfl⟩
        case round =>
          obtain ⟨M, R, hM1, hM2, hR0, hR1, hrm, rfl, rfl⟩ := hrel
          have HQ := hid (HL.out M)
          have hlg := lg_le Z M
          have hst := ms_step Z M hM1 hM2
          by_cases hmore : lg Z M ≤ R
          · have hM3 : M + 1 ≤ 12 := by
              have h := H13.out
              by_cases e : M = 12
              · subst e; have : ms Z 12 + lg Z 12 = ms Z 13 := hst; omega
              · omega
            have HRM := hid (show r = ms Z (M + 1) + (R - lg Z M) by omega)
            clear hst hrm
            generalize lg Z M = g at *
            go_wp2_with fail
            refine (HQ.out _).mono ?_
            rintro e w' ⟨rfl, rfl⟩
            go_wp2_with fail
            refine (HQ.out _).mono ?_
            rintro e w' ⟨rfl, rfl⟩
            clear HQ
            go_wp2
            go_round
            case rel => exact ⟨M + 1, R - g, by omega, hM3, by omega, by omega, HRM.out, by go_num, by go_num⟩
            case measure => simp [intOf]; omega
          · have HF := hid (HRW.out M R hM1 hM2 hR0 (by omega) hrm)
            clear hst hrm HRW
            generalize lg Z M = g at *
            go_wp2_with fail
            refine (HQ.out _).mono ?_
            rintro e w' ⟨rfl, rfl⟩
            clear HQ
            go_wp2
            go_returns
            obtain ⟨e1, e2, e3⟩ := HF.out
            refine ⟨?_, (Below.refl _ _).alloc (Nat.le_refl _) _⟩
            rw [← e1, ← e2, ← e3]; rfl
      · have hz : Z = 9999 := by omega
        subst hz
        clear HHY hgo
        go_wp2_with fail
        refine (HZ.out _).mono ?_
        rintro e w' ⟨rfl, rfl⟩
        clear HZ
        go_wp2_with fail
        go_loop [0, 4] (fun x m => ∃ M R : Int, 1 ≤ M ∧ M ≤ 12 ∧ 0 ≤ R ∧ R ≤ 365 ∧ r = ms 9999 M + R ∧ x = .int .i64 R ∧ m = .int .i64 M) (fun _ m => 13 - (intOf m).toNat)
        case atStart => exact ⟨1, r, by omega, by omega, hr0, hr365, by rw [HM1.out]; omega, rfl, rfl⟩
        case round =>
          obtain ⟨M, R, hM1, hM2, hR0, hR1, hrm, rfl, rfl⟩ := hrel
          have HQ := hid (HL.out M)
          have hlg := lg_le 9999 M
          have hst := ms_step 9999 M hM1 hM2
          by_cases hmore : lg 9999 M ≤ R
          · have hM3 : M + 1 ≤ 12 := by
              have h := H13.out
              by_cases e : M = 12
              · subst e; have : ms 9999 12 + lg 9999 12 = ms 9999 13 := hst; omega
              · omega
            have HRM := hid (show r = ms 9999 (M + 1) + (R - lg 9999 M) by omega)
            clear hst hrm
            generalize lg 9999 M = g at *
            go_wp2_with fail
            refine (HQ.out _).mono ?_
            rintro e w' ⟨rfl, rfl⟩
            go_wp2_with fail
            refine (HQ.out _).mono ?_
            rintro e w' ⟨rfl, rfl⟩
            clear HQ
            go_wp2
            go_round
            case rel => exact ⟨M + 1, R - g, by omega, hM3, by omega, by omega, HRM.out, by go_num, by go_num⟩
            case measure => simp [intOf]; omega
          · have HF := hid (HRW.out M R hM1 hM2 hR0 (by omega) hrm)
            clear hst hrm HRW
            generalize lg 9999 M = g at *
            go_wp2_with fail
            refine (HQ.out _).mono ?_
            rintro e w' ⟨rfl, rfl⟩
            clear HQ
            go_wp2
            go_returns
            obtain ⟨e1, e2, e3⟩ := HF.out
            refine ⟨?_, (Below.refl _ _).alloc (Nat.le_refl _) _⟩
            rw [← e1, ← e2, ← e3]; rfl
end Go.Proofs.YtjmainmidacmfaaDoor
