/-
  VRday: The document's own days: leap, long, ahead, Valid, number, Days, date, Of.
  VRof: The document's own Of; both sides of it.
  VWkb: Bounds of a week's year and number.
  VRweek: The document's own weeks.
  VRfw: The document's own FromWeek.
-/
import Derived.Test.YtmgfdnccmeahjaaGreatDoorYC
namespace Go.Proofs.YtmgfdnccmeahjaaGreatDoor
open Go.RowKit
set_option maxRecDepth 100000

theorem refLeap_any (y : Int) (hy : 0 ≤ y) (w : World) :
    Calls Tryz.prog 163 #[.int .i64 y] w fun e w' => e = .returned (.bool (decide (Lp y))) ∧ w' = w := by
  obtain ⟨n, rfl⟩ := Int.eq_ofNat_of_zero_le hy
  unfold Lp
  by_cases h4 : (n : Int) % 4 = 0 <;> by_cases h100 : (n : Int) % 100 = 0 <;> by_cases h400 : (n : Int) % 400 = 0
  all_goals
    go_enter Tryz.func163, Tryz.ntmps163
    go_wp2
    all_goals go_ret
    all_goals exact ⟨ret_boolC (by simp [h4, h100, h400]), rfl⟩

theorem refLong_any (y m : Int) (hy : 0 ≤ y) (w : World) :
    Calls Tryz.prog 134 #[.int .i64 y, .int .i64 m] w fun e w' => e = .returned (.int .i64 (lg y m)) ∧ w' = w := by
  have HL := hidC (refLeap_any y hy w)
  have hn := lpN_cases y
  unfold lg
  by_cases h4 : m = 4 ∨ m = 6 ∨ m = 9 ∨ m = 11
  · rw [if_pos h4]
    rcases h4 with rfl | rfl | rfl | rfl
    all_goals
      go_enter Tryz.func134, Tryz.ntmps134
      go_wp2
      go_ret
      exact ⟨rfl, rfl⟩
  · rw [if_neg h4]
    have b4 : (m == 4) = false := by simp; omega
    have b6 : (m == 6) = false := by simp; omega
    have b9 : (m == 9) = false := by simp; omega
    have b11 : (m == 11) = false := by simp; omega
    clear h4
    by_cases h2 : m = 2
    · subst h2
      rw [if_pos rfl]
      clear b4 b6 b9 b11
      rcases hn with ⟨hn, hp⟩ | ⟨hn, hp⟩
      · rw [decide_eq_false hp] at HL
        rw [hn]
        clear hp hn
        go_enter Tryz.func134, Tryz.ntmps134
        go_wp2_with fail
        refine Calls.mono HL.out ?_
        rintro e w' ⟨rfl, rfl⟩
        go_wp2
        go_ret
        exact ⟨rfl, rfl⟩
      · rw [decide_eq_true hp] at HL
        rw [hn]
        clear hp hn
        go_enter Tryz.func134, Tryz.ntmps134
        go_wp2_with fail
        refine Calls.mono HL.out ?_
        rintro e w' ⟨rfl, rfl⟩
        go_wp2
        go_ret
        exact ⟨rfl, rfl⟩
    · rw [if_neg h2]
      have b2 : (m == 2) = false := by simp; omega
      clear hn h2
      go_enter Tryz.func134, Tryz.ntmps134
      go_wp2
      go_ret
      exact ⟨rfl, rfl⟩

theorem refAhead_any (y : Int) (h1 : 0 ≤ y) (h2 : y ≤ 10000) (w : World) :
    Calls Tryz.prog 124 #[.int .i64 y] w fun e w' => e = .returned (.int .i64 (ys y)) ∧ w' = w := by
  by_cases hy : y = 0
  · subst hy
    go_enter Tryz.func124, Tryz.ntmps124
    go_wp2
    go_ret
    exact ⟨rfl, rfl⟩
  · obtain ⟨n, hn⟩ : ∃ n : Nat, y = (n : Int) + 1 := ⟨(y - 1).toNat, by omega⟩
    subst hn
    have hb : ((n : Int) + 1 == 0) = false := by simp; omega
    go_enter Tryz.func124, Tryz.ntmps124
    go_wp2
    go_ret
    exact ⟨ret_intC (by unfold ys; omega), rfl⟩

set_option maxHeartbeats 1000000 in
theorem refValid_any (y m d : Int) (w : World) :
    Calls Tryz.prog 137 #[dV y m d] w fun e w' => e = .returned (.bool (decide (VD y m d))) ∧ Below w.heap.size w w' := by
  unfold dV
  have hb : ∀ n, Below w.heap.size w (World.drewN (w.alloc (.cells #[.int .i64 y, .int .i64 m, .int .i64 d] 187)) n) := fun n => below_drewN ((Below.refl _ _).alloc (Nat.le_refl _) _) n
  have hb0 : Below w.heap.size w (w.alloc (.cells #[.int .i64 y, .int .i64 m, .int .i64 d] 187)) := (Below.refl _ _).alloc (Nat.le_refl _) _
  by_cases c1 : y < 0
  · rw [decide_eq_false (show ¬ VD y m d from fun h => by have := h.1; omega)]
    go_enter Tryz.func137, Tryz.ntmps137
    go_wp2
    go_ret
    exact ⟨rfl, hb0⟩
  · by_cases c2 : 9999 < y
    · rw [decide_eq_false (show ¬ VD y m d from fun h => by have := h.2.1; omega)]
      go_enter Tryz.func137, Tryz.ntmps137
      go_wp2
      go_ret
      exact ⟨rfl, hb0⟩
    · by_cases c3 : m < 1
      · rw [decide_eq_false (show ¬ VD y m d from fun h => by have := h.2.2.1; omega)]
        go_enter Tryz.func137, Tryz.ntmps137
        go_wp2
        go_ret
        exact ⟨rfl, hb0⟩
      · by_cases c4 : 12 < m
        · rw [decide_eq_false (show ¬ VD y m d from fun h => by have := h.2.2.2.1; omega)]
          go_enter Tryz.func137, Tryz.ntmps137
          go_wp2
          go_ret
          exact ⟨rfl, hb0⟩
        · have HL := hidC (fun w => refLong_any y m (by omega) w)
          by_cases c5 : 1 ≤ d
          · by_cases c6 : d ≤ lg y m
            · rw [decide_eq_true (show VD y m d from ⟨by omega, by omega, by omega, by omega, c5, c6⟩)]
              generalize lg y m = c at *
              go_enter Tryz.func137, Tryz.ntmps137
              go_wp2_with fail
              go_quiet (first
                | (go_at_call 134; exact Calls.quiet_of_same (HL.out _)))
              go_wp2
              go_ret
              exact ⟨rfl, hb _⟩
            · rw [decide_eq_false (show ¬ VD y m d from fun h => c6 h.2.2.2.2.2)]
              generalize lg y m = c at *
              have bb : decide (d ≤ c) = false := decide_eq_false c6
              go_enter Tryz.func137, Tryz.ntmps137
              go_wp2_with fail
              go_quiet (first
                | (go_at_call 134; exact Calls.quiet_of_same (HL.out _)))
              go_wp2
              go_ret
              exact ⟨rfl, hb _⟩
          · have bb : decide (1 ≤ d) = false := decide_eq_false c5
            rw [decide_eq_false (show ¬ VD y m d from fun h => c5 h.2.2.2.2.1)]
            go_enter Tryz.func137, Tryz.ntmps137
            go_wp2_with fail
            go_quiet (fail)
            go_wp2
            go_ret
            exact ⟨rfl, hb _⟩

set_option maxHeartbeats 1000000 in
theorem refNumber_any (y m d : Int) (h : VD y m d) (w : World) :
    Calls Tryz.prog 138 #[dV y m d] w fun e w' => e = .returned (.int .i64 (nb y m d)) ∧ Below w.heap.size w w' := by
  obtain ⟨h1, h2, h3, h4, h5, h6⟩ := h
  have hll := lg_le y m
  have HY := hidC (fun w => refAhead_any y h1 (by omega) w)
  have hyy := ys_bounds y (by omega) (by omega)
  have hn : nb y m d = ys y + ms y m + d - 1 := rfl
  have hm1 := ms_one y
  have HN := hidC hn
  have HM1 := hidC hm1
  generalize hys : ys y = a at *
  have hd31 : d ≤ 31 := by omega
  clear hn hm1 hll h6 hys
  unfold dV
  go_enter Tryz.func138, Tryz.ntmps138
  go_wp2_with fail
  go_quiet (first
    | (go_at_call 124; exact Calls.quiet_of_same (HY.out _)))
  go_wp2_with fail
  go_loop [3, 4] (fun s j => ∃ k : Int, 1 ≤ k ∧ k ≤ m ∧ s = .int .i64 (a + d - 1 + ms y k) ∧ j = .int .i64 k) (fun _ j => 13 - (intOf j).toNat)
  case atStart => exact ⟨1, by omega, h3, int_eqC (by rw [HM1.out]; omega), rfl⟩
  case round =>
    obtain ⟨k, hk1, hk2, rfl, rfl⟩ := hrel
    have HL := hidC (fun w => refLong_any y k h1 w)
    have hst := ms_step y k hk1 (by omega)
    have hml := ms_long y k (by omega) (by omega)
    have hlg := lg_le y k
    by_cases hlt : k < m
    · have HST := hidC hst
      generalize ms y k = u at *
      generalize lg y k = g at *
      clear hst
      go_wp2_with fail
      refine (HL.out _).mono ?_
      rintro e w' ⟨rfl, rfl⟩
      go_wp2
      go_round
      case rel => exact ⟨k + 1, by omega, by omega, int_eqC (by rw [← HST.out]; omega), by go_num⟩
      case measure => simp [intOf]; omega
    · have hkm : k = m := by omega
      subst hkm
      have HX := hidC (show nb y k d = a + d - 1 + ms y k by rw [HN.out]; omega)
      clear hst HN
      generalize ms y k = u at *
      go_wp2
      go_ret
      exact ⟨ret_intC HX.out.symm, below_drewN ((Below.refl _ _).alloc (Nat.le_refl _) _) nq⟩

theorem refDays_any (y m d : Int) (w : World) :
    Calls Tryz.prog 111 #[dV y m d] w fun e w' => e = .returned (.tuple #[.int .i64 (if VD y m d then nb y m d else 0), .int .i64 (if VD y m d then 0 else 30)]) ∧ Below w.heap.size w w' := by
  have HV := hidC (fun w => refValid_any y m d w)
  by_cases hv : VD y m d
  · have HN := hidC (fun w => refNumber_any y m d hv w)
    rw [if_pos hv, if_pos hv]
    rw [decide_eq_true hv] at HV
    clear hv
    unfold dV at *
    go_enter Tryz.func111, Tryz.ntmps111
    go_wp2_with fail
    refine (HV.out _).mono ?_
    rintro e w1 ⟨rfl, hb1⟩
    obtain ⟨k0, k1, k2, hB, _⟩ := date_cells w w1 _ _ _ hb1
    clear hb1
    go_wp2_with fail
    refine (HN.out _).mono ?_
    rintro e w2 ⟨rfl, hb2⟩
    go_wp2
    go_ret2
    exact ⟨rfl, hB.trans (hb2.mono hB.size)⟩
  · rw [if_neg hv, if_neg hv]
    rw [decide_eq_false hv] at HV
    clear hv
    unfold dV at *
    go_enter Tryz.func111, Tryz.ntmps111
    go_wp2_with fail
    refine (HV.out _).mono ?_
    rintro e w1 ⟨rfl, hb1⟩
    obtain ⟨k0, k1, k2, hB, _⟩ := date_cells w w1 _ _ _ hb1
    clear hb1
    go_wp2
    go_ret2
    exact ⟨rfl, hB⟩

set_option maxHeartbeats 1000000 in
theorem refDate_any (n : Int) (h0 : 0 ≤ n) (h1 : n ≤ 3652424) (w : World) :
    Calls Tryz.prog 121 #[.int .i64 n] w fun e w' => e = .returned (dV (dY n) (dM n) (dD n)) ∧ Below w.heap.size w w' := by
  have hq : n.tdiv 366 = n / 366 := Int.tdiv_eq_ediv_of_nonneg h0
  have hq1 : 0 ≤ n / 366 ∧ n / 366 ≤ 9999 := by omega
  have hys0 : ys (n / 366) ≤ n := by unfold ys; omega
  have HYS0 := hidC hys0
  clear hys0
  go_enter Tryz.func121, Tryz.ntmps121
  go_wp2_with fail
  go_loop [3] (fun y => ∃ Y : Int, 0 ≤ Y ∧ Y ≤ 9999 ∧ ys Y ≤ n ∧ y = .int .i64 Y) (fun y => 10000 - (intOf y).toNat)
  case atStart => exact ⟨_, hq1.1, hq1.2, HYS0.out, by go_num⟩
  case round =>
    obtain ⟨Z, hY0, hY9, hys, rfl⟩ := hrel
    clear HYS0
    have HYs := hidC hys
    have hyb := ys_bounds (Z + 1) (by omega) (by omega)
    by_cases hgo : Z < 9999 ∧ ys (Z + 1) ≤ n
    · have HY := hidC (fun w => refAhead_any (Z + 1) (by omega) (by omega) w)
      obtain ⟨g1, g2⟩ := hgo
      have HG := hidC g2
      clear hys
      generalize ys (Z + 1) = a at HY g2 hyb
      go_wp2_with fail
      refine (HY.out _).mono ?_
      rintro e w' ⟨rfl, rfl⟩
      clear HY
      go_wp2
      go_round
      case rel => exact ⟨Z + 1, by omega, by omega, HG.out, rfl⟩
      case measure => simp [intOf]; omega
    · have hlt : n < ys (Z + 1) := by
        by_cases e : Z < 9999
        · have := fun x => hgo ⟨e, x⟩; omega
        · have : Z = 9999 := by omega
          subst this
          have := ys_10000
          show n < ys 10000
          omega
      have HZ := hidC (fun w => refAhead_any Z (by omega) (by omega) w)
      have HL := hidC (fun M w => refLong_any Z M hY0 w)
      have hzb := ys_bounds Z (by omega) (by omega)
      have hnx := ys_next Z
      have h13 := ms_13 Z
      have hm1 := ms_one Z
      have hr0 : 0 ≤ n - ys Z := by omega
      have hrle : n - ys Z < ms Z 13 := by omega
      have H13 := hidC hrle
      have hlpc := lpN_cases Z
      have hr365 : n - ys Z ≤ 365 := by omega
      have HHY := hidC (fun (hz : Z < 9999) w => refAhead_any (Z + 1) (by omega) (by omega) w)
      have HM1 := hidC hm1
      have HRW : Hid (∀ M r : Int, 1 ≤ M → M ≤ 12 → 0 ≤ r → r < lg Z M → n - ys Z = ms Z M + r → Z = dY n ∧ M = dM n ∧ r + 1 = dD n) := fun M r a b c d e => dt_eq Z M (r + 1) n ⟨hY0, hY9, a, b, by omega, by omega⟩ (by unfold nb; omega)
      clear hnx h13 hlpc hrle HYs hm1
      generalize hgz : ys Z = b at *
      generalize hga : ys (Z + 1) = a at *
      obtain ⟨r, hr⟩ : ∃ r, n - b = r := ⟨_, rfl⟩
      rw [hr] at H13 hr0 hr365 HRW
      clear hgz hga
      by_cases hz9 : Z < 9999
      · have HY := hidC (HHY.out hz9)
        have hnle : ¬ a ≤ n := by omega
        clear HHY hgo
        go_wp2_with fail
        refine (HY.out _).mono ?_
        rintro e w' ⟨rfl, rfl⟩
        clear HY
        go_wp2_with fail
        refine (HZ.out _).mono ?_
        rintro e w' ⟨rfl, rfl⟩
        clear HZ
        go_wp2_with fail
        go_loop [0, 4] (fun x m => ∃ M R : Int, 1 ≤ M ∧ M ≤ 12 ∧ 0 ≤ R ∧ R ≤ 365 ∧ r = ms Z M + R ∧ x = .int .i64 R ∧ m = .int .i64 M) (fun _ m => 13 - (intOf m).toNat)
        case atStart => exact ⟨1, r, by omega, by omega, hr0, hr365, by rw [HM1.out]; omega, rfl, rfl⟩
        case round =>
          obtain ⟨M, R, hM1, hM2, hR0, hR1, hrm, rfl, rfl⟩ := hrel
          have HQ := hidC (HL.out M)
          have hlg := lg_le Z M
          have hst := ms_step Z M hM1 hM2
          by_cases hmore : lg Z M ≤ R
          · have hM3 : M + 1 ≤ 12 := by
              have h := H13.out
              by_cases e : M = 12
              · subst e; have : ms Z 12 + lg Z 12 = ms Z 13 := hst; omega
              · omega
            have HRM := hidC (show r = ms Z (M + 1) + (R - lg Z M) by omega)
            clear hst hrm
            generalize lg Z M = g at *
            go_wp2_with fail
            refine (HQ.out _).mono ?_
            rintro e w' ⟨rfl, rfl⟩
            go_wp2_with fail
            refine (HQ.out _).mono ?_
            rintro e w' ⟨rfl, rfl⟩
            clear HQ
            go_wp2
            go_round
            case rel => exact ⟨M + 1, R - g, by omega, hM3, by omega, by omega, HRM.out, by go_num, by go_num⟩
            case measure => simp [intOf]; omega
          · have HF := hidC (HRW.out M R hM1 hM2 hR0 (by omega) hrm)
            clear hst hrm HRW
            generalize lg Z M = g at *
            go_wp2_with fail
            refine (HQ.out _).mono ?_
            rintro e w' ⟨rfl, rfl⟩
            clear HQ
            go_wp2
            go_returns
            obtain ⟨e1, e2, e3⟩ := HF.out
            refine ⟨?_, (Below.refl _ _).alloc (Nat.le_refl _) _⟩
            rw [← e1, ← e2, ← e3]; rfl
      · have hz : Z = 9999 := by omega
        subst hz
        clear HHY hgo
        go_wp2_with fail
        refine (HZ.out _).mono ?_
        rintro e w' ⟨rfl, rfl⟩
        clear HZ
        go_wp2_with fail
        go_loop [0, 4] (fun x m => ∃ M R : Int, 1 ≤ M ∧ M ≤ 12 ∧ 0 ≤ R ∧ R ≤ 365 ∧ r = ms 9999 M + R ∧ x = .int .i64 R ∧ m = .int .i64 M) (fun _ m => 13 - (intOf m).toNat)
        case atStart => exact ⟨1, r, by omega, by omega, hr0, hr365, by rw [HM1.out]; omega, rfl, rfl⟩
        case round =>
          obtain ⟨M, R, hM1, hM2, hR0, hR1, hrm, rfl, rfl⟩ := hrel
          have HQ := hidC (HL.out M)
          have hlg := lg_le 9999 M
          have hst := ms_step 9999 M hM1 hM2
          by_cases hmore : lg 9999 M ≤ R
          · have hM3 : M + 1 ≤ 12 := by
              have h := H13.out
              by_cases e : M = 12
              · subst e; have : ms 9999 12 + lg 9999 12 = ms 9999 13 := hst; omega
              · omega
            have HRM := hidC (show r = ms 9999 (M + 1) + (R - lg 9999 M) by omega)
            clear hst hrm
            generalize lg 9999 M = g at *
            go_wp2_with fail
            refine (HQ.out _).mono ?_
            rintro e w' ⟨rfl, rfl⟩
            go_wp2_with fail
            refine (HQ.out _).mono ?_
            rintro e w' ⟨rfl, rfl⟩
            clear HQ
            go_wp2
            go_round
            case rel => exact ⟨M + 1, R - g, by omega, hM3, by omega, by omega, HRM.out, by go_num, by go_num⟩
            case measure => simp [intOf]; omega
          · have HF := hidC (HRW.out M R hM1 hM2 hR0 (by omega) hrm)
            clear hst hrm HRW
            generalize lg 9999 M = g at *
            go_wp2_with fail
            refine (HQ.out _).mono ?_
            rintro e w' ⟨rfl, rfl⟩
            clear HQ
            go_wp2
            go_returns
            obtain ⟨e1, e2, e3⟩ := HF.out
            refine ⟨?_, (Below.refl _ _).alloc (Nat.le_refl _) _⟩
            rw [← e1, ← e2, ← e3]; rfl
end Go.Proofs.YtmgfdnccmeahjaaGreatDoor

namespace Go.Proofs.YtmgfdnccmeahjaaGreatDoor
open Go.RowKit
set_option maxRecDepth 100000

theorem refOf_good (n : Int) (h0 : 0 ≤ n) (h1 : n ≤ 3652424) (w : World) :
    Calls Tryz.prog 96 #[.int .i64 n] w fun e w' => e = .returned (.tuple #[dV (dY n) (dM n) (dD n), .int .i64 0]) ∧ Below w.heap.size w w' := by
  have HD := hidC (fun w => refDate_any n h0 h1 w)
  generalize dY n = y at *
  generalize dM n = m at *
  generalize dD n = d at *
  unfold dV at *
  go_enter Tryz.func96, Tryz.ntmps96
  go_wp2_with fail
  refine (HD.out _).mono ?_
  rintro e w1 ⟨rfl, hb1⟩
  obtain ⟨k0, k1, k2, hB, hz⟩ := date_cells w w1 _ _ _ hb1
  have hbx : Box w1 w.heap.size 0 0 0 := (Box.new w 0 0 0).later hb1
  obtain ⟨_, _, _, f0, f1, f2, _⟩ := hbx.facts
  obtain ⟨d0, d1, d2, _⟩ := (hbx.put y m d).facts
  clear hb1 HD hbx
  go_wp2
  refine bodyPost_ret (by simp [results, Tryz.results96, go_sem, d0, d1, d2]; try rfl) rfl ?_
  exact ⟨rfl, ((hB.setCell (Nat.le_refl _) _).setCell (Nat.le_refl _) _).setCell (Nat.le_refl _) _⟩

theorem refOf_bad (n : Int) (h : n < 0 ∨ 3652424 < n) (w : World) :
    Calls Tryz.prog 96 #[.int .i64 n] w fun e w' => e = .returned (.tuple #[dV 0 0 0, .int .i64 35]) ∧ Below w.heap.size w w' := by
  unfold dV
  by_cases h0 : n < 0
  · go_enter Tryz.func96, Tryz.ntmps96
    go_wp2
    go_returns
    exact ⟨rfl, (Below.refl _ _).alloc (Nat.le_refl _) _⟩
  · have h1 : 3652424 < n := by omega
    go_enter Tryz.func96, Tryz.ntmps96
    go_wp2
    go_returns
    exact ⟨rfl, (Below.refl _ _).alloc (Nat.le_refl _) _⟩

end Go.Proofs.YtmgfdnccmeahjaaGreatDoor

namespace Go.Proofs.YtmgfdnccmeahjaaGreatDoor
set_option maxRecDepth 100000

end Go.Proofs.YtmgfdnccmeahjaaGreatDoor

namespace Go.Proofs.YtmgfdnccmeahjaaGreatDoor
open Go.RowKit
set_option maxRecDepth 100000

theorem refWeekday_any (n : Int) (h1 : -700 ≤ n) (h2 : n ≤ 4000000) (w : World) :
    Calls Tryz.prog 156 #[.int .i64 n] w fun e w' => e = .returned (.int .i64 (wd n + 1)) ∧ w' = w := by
  have hq : (n + 700 + 5).tmod 7 = wd n := by rw [Int.tmod_eq_emod_of_nonneg (by omega)]; unfold wd; omega
  have hb := wd_lt n
  generalize wd n = r at *
  go_enter Tryz.func156, Tryz.ntmps156
  go_wp2
  go_ret
  exact ⟨rfl, rfl⟩

theorem ys_m1 : ys (-1) = -365 := by decide

theorem refNewYear_any (y : Int) (h1 : -1 ≤ y) (h2 : y ≤ 10000) (w : World) :
    Calls Tryz.prog 185 #[.int .i64 y] w fun e w' => e = .returned (.int .i64 (ys y)) ∧ w' = w := by
  by_cases hy : y < 0
  · obtain rfl : y = -1 := by omega
    rw [ys_m1]
    go_enter Tryz.func185, Tryz.ntmps185
    go_wp2
    go_ret
    exact ⟨rfl, rfl⟩
  · have HY := hidC (fun w => refAhead_any y (by omega) (by omega) w)
    generalize ys y = a at *
    go_enter Tryz.func185, Tryz.ntmps185
    go_wp2_with fail
    refine (HY.out _).mono ?_
    rintro e w' ⟨rfl, rfl⟩
    go_wp2
    go_ret
    exact ⟨rfl, rfl⟩

theorem refFirst_any (y : Int) (h1 : -1 ≤ y) (h2 : y ≤ 10000) (w : World) :
    Calls Tryz.prog 158 #[.int .i64 y] w fun e w' => e = .returned (.int .i64 (wkS y)) ∧ w' = w := by
  have HY := hidC (refNewYear_any y h1 h2 w)
  have hyb := ys_bounds y (by omega) (by omega)
  have hy1 := ys_le (-1) y h1
  rw [ys_m1] at hy1
  have hs : wkS y = ys y + 3 - wd (ys y + 3) := rfl
  have HD := hidC (fun w => refWeekday_any (ys y + 3) (by omega) (by omega) w)
  have hw := wd_lt (ys y + 3)
  have HSS := hidC hs
  clear hs
  generalize wkS y = c at *
  generalize wd (ys y + 3) = b at *
  generalize ys y = a at *
  go_enter Tryz.func158, Tryz.ntmps158
  go_wp2_with fail
  refine Calls.mono HY.out ?_
  rintro e w' ⟨rfl, rfl⟩
  go_wp2_with fail
  refine (HD.out _).mono ?_
  rintro e w' ⟨rfl, rfl⟩
  go_wp2
  go_ret
  exact ⟨ret_intC (by rw [HSS.out]), rfl⟩

theorem refWeeks_any (y : Int) (h1 : -1 ≤ y) (h2 : y ≤ 9999) (w : World) :
    Calls Tryz.prog 135 #[.int .i64 y] w fun e w' => e = .returned (.int .i64 (wkN y)) ∧ w' = w := by
  have H1 := hidC (fun w => refFirst_any (y + 1) (by omega) (by omega) w)
  have H2 := hidC (fun w => refFirst_any y (by omega) (by omega) w)
  have hn := wkN_is y
  have ha := wkS_near y
  have hb := ys_bounds y (by omega) (by omega)
  have hs : wkN y = (wkS (y + 1) - wkS y) / 7 := rfl
  have hq : (wkS (y + 1) - wkS y).tdiv 7 = (wkS (y + 1) - wkS y) / 7 := Int.tdiv_eq_ediv_of_nonneg (by omega)
  rw [← hs] at hq
  have hbb : -1000 ≤ wkS y ∧ wkS y ≤ 4000000 := by omega
  have hbc : -1000 ≤ wkS (y + 1) ∧ wkS (y + 1) ≤ 4000000 := by omega
  have hbd : 52 ≤ wkN y ∧ wkN y ≤ 53 := by omega
  clear hs hn ha hb
  generalize wkN y = c at *
  generalize wkS (y + 1) = a at *
  generalize wkS y = b at *
  go_enter Tryz.func135, Tryz.ntmps135
  go_wp2_with fail
  refine (H1.out _).mono ?_
  rintro e w' ⟨rfl, rfl⟩
  go_wp2_with fail
  refine (H2.out _).mono ?_
  rintro e w' ⟨rfl, rfl⟩
  go_wp2
  go_ret
  exact ⟨rfl, rfl⟩

end Go.Proofs.YtmgfdnccmeahjaaGreatDoor

namespace Go.Proofs.YtmgfdnccmeahjaaGreatDoor
open Go.RowKit
set_option maxRecDepth 100000

theorem refOf_any (n : Int) (w : World) :
    Calls Tryz.prog 96 #[.int .i64 n] w fun e w' => e = .returned (ofV n) ∧ Below w.heap.size w w' := by
  unfold ofV
  by_cases h : 0 ≤ n ∧ n ≤ 3652424
  · rw [if_pos h]; exact refOf_good n h.1 h.2 w
  · rw [if_neg h]; exact refOf_bad n (by omega) w

set_option maxHeartbeats 1000000 in
theorem refFromWeek_good (y k d : Int) (h : OkW y k d) (w : World) :
    Calls Tryz.prog 136 #[dV y k d] w fun e w' => e = .returned (ofV (wkD y k d)) ∧ Below w.heap.size w w' := by
  obtain ⟨h1, h2, h3, h4, h5, h6⟩ := h
  have HN := hidC (fun w => refWeeks_any y (by omega) (by omega) w)
  have HS := hidC (fun w => refFirst_any y (by omega) (by omega) w)
  have hwn := wkN_is y
  have hwd : wkS y + 7 * (k - 1) + d - 1 = wkD y k d := rfl
  have hnear := wkS_near y
  have hyb := ys_bounds y (by omega) (by omega)
  have HO := hidC (fun w => refOf_any (wkD y k d) w)
  obtain ⟨y1, m1, d1, e1, hof⟩ := ofV_is (wkD y k d)
  rw [hof] at HO ⊢
  have hb1 : -1000 ≤ wkS y ∧ wkS y ≤ 4000000 := by omega
  have hb2 : 1 ≤ k ∧ k ≤ 53 := by omega
  have b1 : decide (y < -1) = false := decide_eq_false (by omega)
  have b2 : decide (9999 < y) = false := decide_eq_false (by omega)
  have b3 : decide (k < 1) = false := decide_eq_false (by omega)
  have b4 : decide (wkN y < k) = false := decide_eq_false (by omega)
  have b5 : decide (d < 1) = false := decide_eq_false (by omega)
  have b6 : decide (7 < d) = false := decide_eq_false (by omega)
  clear hof hwn hnear hyb h1 h2 h4
  generalize wkD y k d = n at *
  generalize wkS y = s at *
  generalize wkN y = c at *
  unfold dV at *
  go_enter Tryz.func136, Tryz.ntmps136
  go_wp2_with fail
  go_quiet (first
    | (go_at_call 135; exact Calls.quiet_of_same (HN.out _)))
  clear b1 b2 b3 b4 b5 b6 HN
  go_upto_region 3 with fail
  have hW1 : WBox (World.drewN ((w.alloc (.cells #[.int .i64 y, .int .i64 k, .int .i64 d] 222)).alloc (.cells #[.int .i64 0, .int .i64 0, .int .i64 0] 187)) nq) w.heap.size y k d := (WBox.new w y k d).later1 (below_drewN (Below.refl _ _) nq)
  have hD1 : Box (World.drewN ((w.alloc (.cells #[.int .i64 y, .int .i64 k, .int .i64 d] 222)).alloc (.cells #[.int .i64 0, .int .i64 0, .int .i64 0] 187)) nq) (w.heap.size + 1) 0 0 0 := by
    have h := (Box.new (w.alloc (.cells #[.int .i64 y, .int .i64 k, .int .i64 d] 222)) 0 0 0).later (below_drewN (Below.refl _ _) nq)
    simpa using h
  have hB1 : Below w.heap.size w (World.drewN ((w.alloc (.cells #[.int .i64 y, .int .i64 k, .int .i64 d] 222)).alloc (.cells #[.int .i64 0, .int .i64 0, .int .i64 0] 187)) nq) := below_drewN (((Below.refl _ _).alloc (Nat.le_refl _) _).alloc (by simp) _) nq
  generalize World.drewN ((w.alloc (.cells #[.int .i64 y, .int .i64 k, .int .i64 d] 222)).alloc (.cells #[.int .i64 0, .int .i64 0, .int .i64 0] 187)) nq = w1 at *
  have HD1 := hidC hD1
  have cc : ∀ wx, LaterB w1 wx → wx.cell? ⟨w.heap.size, 0, none⟩ = some (.int .i64 y) ∧ wx.cell? ⟨w.heap.size, 1, none⟩ = some (.int .i64 k) ∧ wx.cell? ⟨w.heap.size, 2, none⟩ = some (.int .i64 d) := fun wx hx => by
    obtain ⟨c0, c1, c2, _⟩ := (hW1.later hx).facts
    exact ⟨c0, c1, c2⟩
  have CC := hidC cc
  have s0 : LaterB w1 w1.drew := (Below.refl _ _).drew
  have r1 : IntKind.i64.wrap (k - 1) = k - 1 := by rw [IntKind.wrap_i64]; omega
  have r2 : IntKind.i64.wrap (7 * (k - 1)) = 7 * (k - 1) := by rw [IntKind.wrap_i64]; omega
  have r3 : IntKind.i64.wrap (s + 7 * (k - 1)) = s + 7 * (k - 1) := by rw [IntKind.wrap_i64]; omega
  have r4 : IntKind.i64.wrap (s + 7 * (k - 1) + d) = s + 7 * (k - 1) + d := by rw [IntKind.wrap_i64]; omega
  have r5 : IntKind.i64.wrap (s + 7 * (k - 1) + d - 1) = n := by rw [IntKind.wrap_i64]; omega
  have r6 : IntKind.i64.wrap n = n := by rw [IntKind.wrap_i64]; omega
  clear hW1 hD1 cc
  first | go_region_held (fun wx => wx.cell? ⟨w.heap.size, 0, none⟩ = some (.int .i64 y) ∧ wx.cell? ⟨w.heap.size, 1, none⟩ = some (.int .i64 k) ∧ wx.cell? ⟨w.heap.size, 2, none⟩ = some (.int .i64 d)) (first | exact CC.out _ (by assumption) | go_keep) (first
    | (go_at_call 158; refine (HS.out _).mono ?_; rintro e w2 ⟨rfl, rfl⟩)
    | (go_at_call 96; refine (HO.out _).mono ?_; rintro e w3 ⟨rfl, hb3⟩; have s3 : LaterB w1 w3 := Below.trans s0 hb3; obtain ⟨c0, c1, c2⟩ := CC.out _ s3; obtain ⟨g0, g1, g2, f0, f1, f2, gz⟩ := (HD1.out.later s3).facts)) | fail
  all_goals (obtain ⟨q0, q1, q2, _⟩ := ((HD1.out.later s3).put y1 m1 d1).facts)
  all_goals (go_wp2)
  all_goals (refine bodyPost_ret (by simp [results, Tryz.results136, go_sem, q0, q1, q2]; try rfl) rfl ?_)
  all_goals (exact ⟨rfl, (((hB1.trans (Below.mono s3 hB1.size)).setCell (by simp) _).setCell (by simp) _).setCell (by simp) _⟩)
end Go.Proofs.YtmgfdnccmeahjaaGreatDoor
