/-
  The program's own days: monthDays, numberOf, Valid, Days, dateOf, Of.
-/
import Derived.Test.YtjmainmidacmfaaDoorCfn
namespace Go.Proofs.YtjmainmidacmfaaDoor
open Go.RowKit
set_option maxRecDepth 100000

theorem HasAh.alloc {w : World} (h : HasAh w) (c : _) : HasAh (w.alloc c) := h.below ((Below.refl _ _).alloc (Nat.le_refl _) _)
theorem HasAh.drewN {w : World} (h : HasAh w) (n : Nat) : HasAh (w.drewN n) := h.below (below_drewN (Below.refl _ _) n)

/-- a date as a value -/
def dV (y m d : Int) : Value := .agg #[.int .i64 y, .int .i64 m, .int .i64 d]

theorem monthDays_any (y m : Int) (hy : 0 ≤ y) (h1 : 1 ≤ m) (h2 : m ≤ 12) (w : World) (hA : HasAh w) :
    Calls Tryd.prog 33 #[.int .i64 y, .int .i64 m] w fun e w' => e = .returned (.int .i64 (lg y m)) ∧ w' = w := by
  have H1 : Hid (_) := monthStart_any y (m + 1) hy (by omega) (by omega) w hA
  have H2 : Hid (_) := monthStart_any y m hy (by omega) (by omega) w hA
  have hl1 := ms_long y (m + 1) (by omega) (by omega)
  have hl2 := ms_long y m (by omega) (by omega)
  have hs := ms_step y m h1 h2
  clear hA
  generalize ms y (m + 1) = a at *
  generalize ms y m = b at *
  generalize lg y m = c at *
  go_enter Tryd.func33, Tryd.ntmps33
  go_wp2_with fail
  refine Calls.mono H1.out ?_
  rintro e w' ⟨rfl, rfl⟩
  go_wp2_with fail
  refine Calls.mono H2.out ?_
  rintro e w' ⟨rfl, rfl⟩
  go_wp2
  go_ret
  exact ⟨ret_int (by omega), rfl⟩

theorem numberOf_any (y m d : Int) (h : VD y m d) (w : World) (hA : HasAh w) :
    Calls Tryd.prog 31 #[dV y m d] w fun e w' => e = .returned (.int .i64 (nb y m d)) ∧ Below w.heap.size w w' := by
  obtain ⟨h1, h2, h3, h4, h5, h6⟩ := h
  have hr := nb_range y m d ⟨h1, h2, h3, h4, h5, h6⟩
  have hll := lg_le y m
  have hmm := ms_long y m h3 (by omega)
  have HY : Hid (_) := fun w => yearStart_any y (by omega) (by omega) w
  have HM : Hid (_) := fun n => monthStart_any y m h1 h3 (by omega) _ ((hA.alloc (.cells #[.int .i64 y, .int .i64 m, .int .i64 d] 36)).drewN n)
  have hn : nb y m d = ys y + ms y m + d - 1 := rfl
  have hyy := ys_bounds y (by omega) (by omega)
  generalize nb y m d = r at *
  generalize ys y = a at *
  generalize ms y m = b at *
  generalize lg y m = c at *
  clear hA
  unfold dV
  go_enter Tryd.func31, Tryd.ntmps31
  go_wp2_with fail
  go_quiet (first
    | (go_at_call 46; exact Calls.quiet_of_same (HY.out _))
    | (go_at_call 47; exact Calls.quiet_of_same (HM.out _)))
  go_wp2
  go_ret
  exact ⟨ret_int (by omega), below_drewN ((Below.refl _ _).alloc (Nat.le_refl _) _) nq⟩

set_option maxHeartbeats 1000000 in
theorem valid_any (y m d : Int) (w : World) (hA : HasAh w) :
    Calls Tryd.prog 17 #[dV y m d] w fun e w' => e = .returned (.bool (decide (VD y m d))) ∧ Below w.heap.size w w' := by
  unfold dV
  have hb : ∀ n, Below w.heap.size w (World.drewN (w.alloc (.cells #[.int .i64 y, .int .i64 m, .int .i64 d] 36)) n) := fun n => below_drewN ((Below.refl _ _).alloc (Nat.le_refl _) _) n
  by_cases c1 : 0 ≤ y
  · by_cases c2 : y ≤ 9999
    · by_cases c3 : 1 ≤ m
      · by_cases c4 : m ≤ 12
        · by_cases c5 : 1 ≤ d
          · have HM : Hid (_) := fun n => monthDays_any y m c1 c3 c4 _ ((hA.alloc (.cells #[.int .i64 y, .int .i64 m, .int .i64 d] 36)).drewN n)
            clear hA
            by_cases c6 : d ≤ lg y m
            · rw [decide_eq_true (show VD y m d from ⟨c1, c2, c3, c4, c5, c6⟩)]
              generalize lg y m = c at *
              go_enter Tryd.func17, Tryd.ntmps17
              go_wp2_with fail
              go_quiet (first
                | (go_at_call 33; exact Calls.quiet_of_same (HM.out _)))
              go_wp2
              go_ret
              exact ⟨rfl, hb _⟩
            · rw [decide_eq_false (show ¬ VD y m d from fun h => c6 h.2.2.2.2.2)]
              generalize lg y m = c at *
              have bb : decide (d ≤ c) = false := decide_eq_false c6
              go_enter Tryd.func17, Tryd.ntmps17
              go_wp2_with fail
              go_quiet (first
                | (go_at_call 33; exact Calls.quiet_of_same (HM.out _)))
              go_wp2
              go_ret
              exact ⟨rfl, hb _⟩
          · have bb : decide (1 ≤ d) = false := decide_eq_false c5
            rw [decide_eq_false (show ¬ VD y m d from fun h => c5 h.2.2.2.2.1)]
            go_enter Tryd.func17, Tryd.ntmps17
            go_wp2_with fail
            go_quiet (fail)
            go_wp2
            go_ret
            exact ⟨rfl, hb _⟩
        · have bb : decide (m ≤ 12) = false := decide_eq_false c4
          rw [decide_eq_false (show ¬ VD y m d from fun h => c4 h.2.2.2.1)]
          go_enter Tryd.func17, Tryd.ntmps17
          go_wp2_with fail
          go_quiet (fail)
          go_wp2
          go_ret
          exact ⟨rfl, hb _⟩
      · have bb : decide (1 ≤ m) = false := decide_eq_false c3
        rw [decide_eq_false (show ¬ VD y m d from fun h => c3 h.2.2.1)]
        go_enter Tryd.func17, Tryd.ntmps17
        go_wp2_with fail
        go_quiet (fail)
        go_wp2
        go_ret
        exact ⟨rfl, hb _⟩
    · have bb : decide (y ≤ 9999) = false := decide_eq_false c2
      rw [decide_eq_false (show ¬ VD y m d from fun h => c2 h.2.1)]
      go_enter Tryd.func17, Tryd.ntmps17
      go_wp2_with fail
      go_quiet (fail)
      go_wp2
      go_ret
      exact ⟨rfl, hb _⟩
  · have bb : decide (0 ≤ y) = false := decide_eq_false c1
    rw [decide_eq_false (show ¬ VD y m d from fun h => c1 h.1)]
    go_enter Tryd.func17, Tryd.ntmps17
    go_wp2_with fail
    go_quiet (fail)
    go_wp2
    go_ret
    exact ⟨rfl, hb _⟩

/-- a date's three cells, boxed -/
theorem date_cells (w w1 : World) (y m d : Int) (hb : Below (w.alloc (.cells #[.int .i64 y, .int .i64 m, .int .i64 d] 36)).heap.size (w.alloc (.cells #[.int .i64 y, .int .i64 m, .int .i64 d] 36)) w1) :
    w1.cell? ⟨w.heap.size, 0, none⟩ = some (.int .i64 y) ∧ w1.cell? ⟨w.heap.size, 1, none⟩ = some (.int .i64 m) ∧ w1.cell? ⟨w.heap.size, 2, none⟩ = some (.int .i64 d) ∧ Below w.heap.size w w1 ∧ w.heap.size < w1.heap.size := by
  have h0 : (w.alloc (.cells #[.int .i64 y, .int .i64 m, .int .i64 d] 36)).heap.size = w.heap.size + 1 := by simp
  have hz := hb.size
  rw [h0] at hb hz
  refine ⟨?_, ?_, ?_, ((Below.refl _ _).alloc (Nat.le_refl _) _).trans (hb.mono (by omega)), by omega⟩
  · rw [hb.cell (p := ⟨w.heap.size, 0, none⟩) (by simp)]; simp
  · rw [hb.cell (p := ⟨w.heap.size, 1, none⟩) (by simp)]; simp
  · rw [hb.cell (p := ⟨w.heap.size, 2, none⟩) (by simp)]; simp

/-- a date lies in block b, and nothing shares it -/
def Box (w : World) (b : Nat) (y m d : Int) : Prop := w.heap[b]? = some (.cells #[.int .i64 y, .int .i64 m, .int .i64 d] 36 (0, 0))

theorem Box.facts {w : World} {b : Nat} {y m d : Int} (h : Box w b y m d) :
    w.cell? ⟨b, 0, none⟩ = some (.int .i64 y) ∧ w.cell? ⟨b, 1, none⟩ = some (.int .i64 m) ∧ w.cell? ⟨b, 2, none⟩ = some (.int .i64 d) ∧
    w.frozen? ⟨b, 0, none⟩ = false ∧ w.frozen? ⟨b, 1, none⟩ = false ∧ w.frozen? ⟨b, 2, none⟩ = false ∧ b < w.heap.size :=
  ⟨by rw [Lib.cell_of_heap h]; rfl, by rw [Lib.cell_of_heap h]; rfl, by rw [Lib.cell_of_heap h]; rfl, Lib.frozen_of_heap h 0, Lib.frozen_of_heap h 1, Lib.frozen_of_heap h 2, (Array.getElem?_eq_some_iff.1 h).1⟩

theorem Box.below {w w' : World} {b : Nat} {y m d : Int} (h : Box w b y m d) {B : Nat} (hb : Below B w w') (hB : b < B) : Box w' b y m d := (hb.block b hB).trans h
theorem Box.later {w w' : World} {b : Nat} {y m d : Int} (h : Box w b y m d) (hb : Below w.heap.size w w') : Box w' b y m d := h.below hb h.facts.2.2.2.2.2.2
theorem Box.new (w : World) (y m d : Int) : Box (w.alloc (.cells #[.int .i64 y, .int .i64 m, .int .i64 d] 36)) w.heap.size y m d := heap_alloc_new _ _
theorem Box.put {w : World} {b : Nat} {y m d : Int} (h : Box w b y m d) (y' m' d' : Int) :
    Box (((w.setCell ⟨b, 0, none⟩ (.int .i64 y')).setCell ⟨b, 1, none⟩ (.int .i64 m')).setCell ⟨b, 2, none⟩ (.int .i64 d')) b y' m' d' :=
  Lib.heap_setCell_same (Lib.heap_setCell_same (Lib.heap_setCell_same h _) _) _
theorem Box.put0 {w : World} {b : Nat} {y m d : Int} (h : Box w b y m d) (y' : Int) : Box (w.setCell ⟨b, 0, none⟩ (.int .i64 y')) b y' m d := Lib.heap_setCell_same h _
theorem Box.put1 {w : World} {b : Nat} {y m d : Int} (h : Box w b y m d) (m' : Int) : Box (w.setCell ⟨b, 1, none⟩ (.int .i64 m')) b y m' d := Lib.heap_setCell_same h _
theorem Box.put2 {w : World} {b : Nat} {y m d : Int} (h : Box w b y m d) (d' : Int) : Box (w.setCell ⟨b, 2, none⟩ (.int .i64 d')) b y m d' := Lib.heap_setCell_same h _

theorem days_any (y m d : Int) (w : World) (hA : HasAh w) :
    Calls Tryd.prog 15 #[dV y m d] w fun e w' => e = .returned (.tuple #[.int .i64 (if VD y m d then nb y m d else 0), .int .i64 (if VD y m d then 0 else 30)]) ∧ Below w.heap.size w w' := by
  have HA : Hid (HasAh w) := hA
  have HV : Hid (_) := fun w h => valid_any y m d w h
  clear hA
  by_cases hv : VD y m d
  · have HN : Hid (_) := fun w h => numberOf_any y m d hv w h
    rw [if_pos hv, if_pos hv]
    rw [decide_eq_true hv] at HV
    clear hv
    unfold dV at *
    go_enter Tryd.func15, Tryd.ntmps15
    go_wp2_with fail
    refine (HV.out _ (HA.out.alloc _)).mono ?_
    rintro e w1 ⟨rfl, hb1⟩
    obtain ⟨k0, k1, k2, hB, _⟩ := date_cells w w1 _ _ _ hb1
    have HA1 : Hid (_) := HA.out.below hB
    clear hb1
    go_wp2_with fail
    refine (HN.out _ HA1.out).mono ?_
    rintro e w2 ⟨rfl, hb2⟩
    go_wp2
    go_ret2
    exact ⟨rfl, hB.trans (hb2.mono hB.size)⟩
  · rw [if_neg hv, if_neg hv]
    rw [decide_eq_false hv] at HV
    clear hv
    unfold dV at *
    go_enter Tryd.func15, Tryd.ntmps15
    go_wp2_with fail
    refine (HV.out _ (HA.out.alloc _)).mono ?_
    rintro e w1 ⟨rfl, hb1⟩
    obtain ⟨k0, k1, k2, hB, _⟩ := date_cells w w1 _ _ _ hb1
    clear hb1
    go_wp2
    go_ret2
    exact ⟨rfl, hB⟩

set_option maxHeartbeats 1000000 in
theorem dateOf_any (n : Int) (h0 : 0 ≤ n) (h1 : n ≤ 3652424) (w : World) (hA : HasAh w) :
    Calls Tryd.prog 32 #[.int .i64 n] w fun e w' => e = .returned (dV (dY n) (dM n) (dD n)) ∧ Below w.heap.size w w' := by
  have HA : Hid (HasAh w) := hA
  clear hA
  have hq : 0 ≤ n * 400 / 146097 ∧ n * 400 / 146097 ≤ 9999 := by omega
  obtain ⟨N, rfl⟩ := Int.eq_ofNat_of_zero_le h0
  go_enter Tryd.func32, Tryd.ntmps32
  go_wp2_with fail
  go_loop [3] (fun y => ∃ Y : Int, 0 ≤ Y ∧ Y ≤ 10000 ∧ y = .int .i64 Y) (fun y => (intOf y).toNat)
  case atStart => exact ⟨_, hq.1, by omega, by go_num⟩
  case round =>
    obtain ⟨Y, hY0, hY1, rfl⟩ := hrel
    have HY : Hid (_) := fun w => yearStart_any Y (by omega) (by omega) w
    have hyb := ys_bounds Y (by omega) (by omega)
    clear hq
    by_cases hlt : ys Y ≤ (N : Int)
    · have HYs : Hid (_) := hlt
      have hmax := ys_le 10000 Y
      rw [ys_10000] at hmax
      have hY9 : Y ≤ 9999 := by omega
      clear hmax
      generalize hgy : ys Y = a at HY hyb hlt
      clear hgy
      go_wp2_with fail
      refine (HY.out _).mono ?_
      rintro e w' ⟨rfl, rfl⟩
      clear HY
      go_wp2_with fail
      go_loop [3] (fun y => ∃ Y : Int, 0 ≤ Y ∧ Y ≤ 9999 ∧ ys Y ≤ (N : Int) ∧ y = .int .i64 Y) (fun y => 10000 - (intOf y).toNat)
      case atStart => exact ⟨_, hY0, hY9, HYs.out, rfl⟩
      case round =>
        clear hY0 hY1 hY9 HYs
        obtain ⟨Z, hY0, hY9, hys, rfl⟩ := hrel
        have HY : Hid (_) := fun w => yearStart_any (Z + 1) (by omega) (by omega) w
        have hyb := ys_bounds (Z + 1) (by omega) (by omega)
        have HYs : Hid (_) := hys
        by_cases hle : ys (Z + 1) ≤ (N : Int)
        · have hmax := ys_le 10000 (Z + 1)
          rw [ys_10000] at hmax
          have hY8 : Z + 1 ≤ 9999 := by omega
          have HYs1 : Hid (_) := hle
          clear hmax hys
          generalize hgy : ys (Z + 1) = a at HY hyb hle
          clear hgy
          go_wp2_with fail
          refine (HY.out _).mono ?_
          rintro e w' ⟨rfl, rfl⟩
          clear HY
          go_wp2
          go_round
          case rel => exact ⟨Z + 1, by omega, hY8, HYs1.out, rfl⟩
          case measure => simp [intOf]; omega
        · have HYs1 : Hid (_) := hle
          have HZ : Hid (_) := fun w => yearStart_any Z (by omega) (by omega) w
          have HM : Hid (_) := fun M h1 h2 w hA => monthStart_any Z M hY0 h1 h2 w hA
          have hzb := ys_bounds Z (by omega) (by omega)
          have hnx := ys_next Z
          have h13 := ms_13 Z
          obtain ⟨r, hr⟩ : ∃ r : Nat, (N : Int) = ys Z + r := ⟨((N : Int) - ys Z).toNat, by omega⟩
          have hrle : (r : Int) < ms Z 13 := by omega
          have hlpc := lpN_cases Z
          have hr365 : (r : Int) ≤ 365 := by omega
          have H13 : Hid (_) := hrle
          have HNr : Hid (_) := hr
          generalize hgy : ys (Z + 1) = a at HY hyb hle
          generalize hgz : ys Z = b at HZ hzb hys hr
          have hms0 := (ms_long Z ((r : Int) / 31 + 1) (by omega) (by omega)).1
          have HM0 : Hid (_) := hms0
          clear hgy hgz hnx h13 hrle hlpc HYs hms0
          go_wp2_with fail
          refine (HY.out _).mono ?_
          rintro e w' ⟨rfl, rfl⟩
          clear HY HYs1
          go_wp2_with fail
          refine (HZ.out _).mono ?_
          rintro e w' ⟨rfl, rfl⟩
          have hsub : (N : Int) - b = r := by omega
          clear HZ
          go_wp2_with fail
          go_loop [4] (fun m => ∃ M : Int, 1 ≤ M ∧ M ≤ 12 ∧ ms Z M ≤ r ∧ m = .int .i64 M) (fun m => 13 - (intOf m).toNat)
          case atStart =>
            have h := HM0.out
            exact ⟨(r : Int) / 31 + 1, by omega, by omega, by omega, by go_num⟩
          case round =>
            clear HM0
            obtain ⟨M, hM1, hM2, hms, rfl⟩ := hrel
            have HMs : Hid (_) := hms
            have HQ : Hid (_) := HM.out (M + 1) (by omega) (by omega)
            have hmb := ms_long Z (M + 1) (by omega) (by omega)
            by_cases hgo : ms Z (M + 1) ≤ (r : Int)
            · have hM3 : M + 1 ≤ 12 := by
                have h := H13.out
                by_cases e : M = 12
                · subst e; have : ms Z 13 ≤ r := hgo; omega
                · omega
              have HMs1 : Hid (_) := hgo
              clear hms
              generalize ms Z (M + 1) = c at HQ hmb hgo
              go_wp2_with fail
              refine (HQ.out _ (HA.out.alloc _)).mono ?_
              rintro e w' ⟨rfl, rfl⟩
              clear HQ
              go_wp2
              go_round
              case rel => exact ⟨M + 1, by omega, hM3, HMs1.out, rfl⟩
              case measure => simp [intOf]; omega
            · have HQ2 : Hid (_) := HM.out M (by omega) (by omega)
              have hmb2 := ms_long Z M (by omega) (by omega)
              have hst := ms_step Z M hM1 hM2
              have hfin := dt_eq Z M ((r : Int) - ms Z M + 1) (N : Int) ⟨hY0, hY9, hM1, hM2, by omega, by omega⟩ (by have h := HNr.out; unfold nb; omega)
              have HF : Hid (_) := hfin
              clear hfin hst HNr H13
              generalize ms Z (M + 1) = c at HQ hmb hgo
              generalize ms Z M = c2 at HQ2 hmb2 hms HF
              go_wp2_with fail
              refine (HQ.out _ (HA.out.alloc _)).mono ?_
              rintro e w' ⟨rfl, rfl⟩
              clear HQ
              go_wp2_with fail
              refine (HQ2.out _ (HA.out.alloc _)).mono ?_
              rintro e w' ⟨rfl, rfl⟩
              clear HQ2
              go_wp2
              go_returns
              obtain ⟨e1, e2, e3⟩ := HF.out
              refine ⟨?_, ?_⟩
              · rw [← e1, ← e2, ← e3]; unfold dV; rw [show b + (r : Int) - b - c2 + 1 = (r : Int) - c2 + 1 by omega]
              · first | exact ((Below.refl _ _).alloc (Nat.le_refl _) _) | exact ((Below.refl _ _).alloc (Nat.le_refl _) _).setCells (Nat.le_refl _) | skip
    · have hpos : 0 < Y := by
        rcases Int.lt_or_eq_of_le hY0 with h | h
        · exact h
        · subst h; rw [ys_zero] at hlt; omega
      generalize ys Y = a at HY hyb hlt
      go_wp2_with fail
      refine (HY.out _).mono ?_
      rintro e w' ⟨rfl, rfl⟩
      clear HY
      go_wp2
      go_round
      case rel => exact ⟨Y - 1, by omega, by omega, by go_num⟩
      case measure => simp [intOf]; omega
end Go.Proofs.YtjmainmidacmfaaDoor
