/-
  VCday: The program's own days: monthDays, numberOf, Valid, Days, dateOf, Of.
  VRda: A day's text read: readDay, out of refused.
  VRdb: A day's text read by its number in the year: readDayOfYear, out of refused.
  VCof: Of; the statements' own within and at.
  VCweek: The program's own weeks: weekday, weekStart, yearWeeks, weekOf, WeekOf; the statements' own at.
  VCfwb: FromWeek.
  VCfw: FromWeek, of a week that may be.
  VRd3: A day's text read by its week: readDayOfWeek, out of refused.
  VPd: A date's text read: ParseDate.
-/
import Derived.Test.YtmgfdnccmeahjaaGreatDoorYB
import Derived.Deep.RegionHeld
namespace Go.Proofs.YtmgfdnccmeahjaaGreatDoor
open Go.RowKit
set_option maxRecDepth 100000

theorem HasAh.alloc {w : World} (h : HasAh w) (c : _) : HasAh (w.alloc c) := h.below ((Below.refl _ _).alloc (Nat.le_refl _) _)
theorem HasAh.drewN {w : World} (h : HasAh w) (n : Nat) : HasAh (w.drewN n) := h.below (below_drewN (Below.refl _ _) n)

/-- a date as a value -/
def dV (y m d : Int) : Value := .agg #[.int .i64 y, .int .i64 m, .int .i64 d]

theorem monthDays_any (y m : Int) (hy : 0 ≤ y) (h1 : 1 ≤ m) (h2 : m ≤ 12) (w : World) (hA : HasAh w) :
    Calls Tryz.prog 246 #[.int .i64 y, .int .i64 m] w fun e w' => e = .returned (.int .i64 (lg y m)) ∧ w' = w := by
  have H1 : Hid (_) := monthStart_any y (m + 1) hy (by omega) (by omega) w hA
  have H2 : Hid (_) := monthStart_any y m hy (by omega) (by omega) w hA
  have hl1 := ms_long y (m + 1) (by omega) (by omega)
  have hl2 := ms_long y m (by omega) (by omega)
  have hs := ms_step y m h1 h2
  clear hA
  generalize ms y (m + 1) = a at *
  generalize ms y m = b at *
  generalize lg y m = c at *
  go_enter Tryz.func246, Tryz.ntmps246
  go_wp2_with fail
  refine Calls.mono H1.out ?_
  rintro e w' ⟨rfl, rfl⟩
  go_wp2_with fail
  refine Calls.mono H2.out ?_
  rintro e w' ⟨rfl, rfl⟩
  go_wp2
  go_ret
  exact ⟨ret_intC (by omega), rfl⟩

theorem numberOf_any (y m d : Int) (h : VD y m d) (w : World) (hA : HasAh w) :
    Calls Tryz.prog 202 #[dV y m d] w fun e w' => e = .returned (.int .i64 (nb y m d)) ∧ Below w.heap.size w w' := by
  obtain ⟨h1, h2, h3, h4, h5, h6⟩ := h
  have hr := nb_range y m d ⟨h1, h2, h3, h4, h5, h6⟩
  have hll := lg_le y m
  have hmm := ms_long y m h3 (by omega)
  have HY : Hid (_) := fun w => yearStart_any y (by omega) (by omega) w
  have HM : Hid (_) := fun n => monthStart_any y m h1 h3 (by omega) _ ((hA.alloc (.cells #[.int .i64 y, .int .i64 m, .int .i64 d] 187)).drewN n)
  have hn : nb y m d = ys y + ms y m + d - 1 := rfl
  have hyy := ys_bounds y (by omega) (by omega)
  generalize nb y m d = r at *
  generalize ys y = a at *
  generalize ms y m = b at *
  generalize lg y m = c at *
  clear hA
  unfold dV
  go_enter Tryz.func202, Tryz.ntmps202
  go_wp2_with fail
  go_quiet (first
    | (go_at_call 240; exact Calls.quiet_of_same (HY.out _))
    | (go_at_call 247; exact Calls.quiet_of_same (HM.out _)))
  go_wp2
  go_ret
  exact ⟨ret_intC (by omega), below_drewN ((Below.refl _ _).alloc (Nat.le_refl _) _) nq⟩

set_option maxHeartbeats 1000000 in
theorem valid_any (y m d : Int) (w : World) (hA : HasAh w) :
    Calls Tryz.prog 201 #[dV y m d] w fun e w' => e = .returned (.bool (decide (VD y m d))) ∧ Below w.heap.size w w' := by
  unfold dV
  have hb : ∀ n, Below w.heap.size w (World.drewN (w.alloc (.cells #[.int .i64 y, .int .i64 m, .int .i64 d] 187)) n) := fun n => below_drewN ((Below.refl _ _).alloc (Nat.le_refl _) _) n
  by_cases c1 : 0 ≤ y
  · by_cases c2 : y ≤ 9999
    · by_cases c3 : 1 ≤ m
      · by_cases c4 : m ≤ 12
        · by_cases c5 : 1 ≤ d
          · have HM : Hid (_) := fun n => monthDays_any y m c1 c3 c4 _ ((hA.alloc (.cells #[.int .i64 y, .int .i64 m, .int .i64 d] 187)).drewN n)
            clear hA
            by_cases c6 : d ≤ lg y m
            · rw [decide_eq_true (show VD y m d from ⟨c1, c2, c3, c4, c5, c6⟩)]
              generalize lg y m = c at *
              go_enter Tryz.func201, Tryz.ntmps201
              go_wp2_with fail
              go_quiet (first
                | (go_at_call 246; exact Calls.quiet_of_same (HM.out _)))
              go_wp2
              go_ret
              exact ⟨rfl, hb _⟩
            · rw [decide_eq_false (show ¬ VD y m d from fun h => c6 h.2.2.2.2.2)]
              generalize lg y m = c at *
              have bb : decide (d ≤ c) = false := decide_eq_false c6
              go_enter Tryz.func201, Tryz.ntmps201
              go_wp2_with fail
              go_quiet (first
                | (go_at_call 246; exact Calls.quiet_of_same (HM.out _)))
              go_wp2
              go_ret
              exact ⟨rfl, hb _⟩
          · have bb : decide (1 ≤ d) = false := decide_eq_false c5
            rw [decide_eq_false (show ¬ VD y m d from fun h => c5 h.2.2.2.2.1)]
            go_enter Tryz.func201, Tryz.ntmps201
            go_wp2_with fail
            go_quiet (fail)
            go_wp2
            go_ret
            exact ⟨rfl, hb _⟩
        · have bb : decide (m ≤ 12) = false := decide_eq_false c4
          rw [decide_eq_false (show ¬ VD y m d from fun h => c4 h.2.2.2.1)]
          go_enter Tryz.func201, Tryz.ntmps201
          go_wp2_with fail
          go_quiet (fail)
          go_wp2
          go_ret
          exact ⟨rfl, hb _⟩
      · have bb : decide (1 ≤ m) = false := decide_eq_false c3
        rw [decide_eq_false (show ¬ VD y m d from fun h => c3 h.2.2.1)]
        go_enter Tryz.func201, Tryz.ntmps201
        go_wp2_with fail
        go_quiet (fail)
        go_wp2
        go_ret
        exact ⟨rfl, hb _⟩
    · have bb : decide (y ≤ 9999) = false := decide_eq_false c2
      rw [decide_eq_false (show ¬ VD y m d from fun h => c2 h.2.1)]
      go_enter Tryz.func201, Tryz.ntmps201
      go_wp2_with fail
      go_quiet (fail)
      go_wp2
      go_ret
      exact ⟨rfl, hb _⟩
  · have bb : decide (0 ≤ y) = false := decide_eq_false c1
    rw [decide_eq_false (show ¬ VD y m d from fun h => c1 h.1)]
    go_enter Tryz.func201, Tryz.ntmps201
    go_wp2_with fail
    go_quiet (fail)
    go_wp2
    go_ret
    exact ⟨rfl, hb _⟩

/-- a date's three cells, boxed -/
theorem date_cells (w w1 : World) (y m d : Int) (hb : Below (w.alloc (.cells #[.int .i64 y, .int .i64 m, .int .i64 d] 187)).heap.size (w.alloc (.cells #[.int .i64 y, .int .i64 m, .int .i64 d] 187)) w1) :
    w1.cell? ⟨w.heap.size, 0, none⟩ = some (.int .i64 y) ∧ w1.cell? ⟨w.heap.size, 1, none⟩ = some (.int .i64 m) ∧ w1.cell? ⟨w.heap.size, 2, none⟩ = some (.int .i64 d) ∧ Below w.heap.size w w1 ∧ w.heap.size < w1.heap.size := by
  have h0 : (w.alloc (.cells #[.int .i64 y, .int .i64 m, .int .i64 d] 187)).heap.size = w.heap.size + 1 := by simp
  have hz := hb.size
  rw [h0] at hb hz
  refine ⟨?_, ?_, ?_, ((Below.refl _ _).alloc (Nat.le_refl _) _).trans (hb.mono (by omega)), by omega⟩
  · rw [hb.cell (p := ⟨w.heap.size, 0, none⟩) (by simp)]; simp
  · rw [hb.cell (p := ⟨w.heap.size, 1, none⟩) (by simp)]; simp
  · rw [hb.cell (p := ⟨w.heap.size, 2, none⟩) (by simp)]; simp

/-- a date lies in block b, and nothing shares it -/
def Box (w : World) (b : Nat) (y m d : Int) : Prop := w.heap[b]? = some (.cells #[.int .i64 y, .int .i64 m, .int .i64 d] 187 (0, 0))

theorem Box.facts {w : World} {b : Nat} {y m d : Int} (h : Box w b y m d) :
    w.cell? ⟨b, 0, none⟩ = some (.int .i64 y) ∧ w.cell? ⟨b, 1, none⟩ = some (.int .i64 m) ∧ w.cell? ⟨b, 2, none⟩ = some (.int .i64 d) ∧
    w.frozen? ⟨b, 0, none⟩ = false ∧ w.frozen? ⟨b, 1, none⟩ = false ∧ w.frozen? ⟨b, 2, none⟩ = false ∧ b < w.heap.size :=
  ⟨by rw [Lib.cell_of_heap h]; rfl, by rw [Lib.cell_of_heap h]; rfl, by rw [Lib.cell_of_heap h]; rfl, Lib.frozen_of_heap h 0, Lib.frozen_of_heap h 1, Lib.frozen_of_heap h 2, (Array.getElem?_eq_some_iff.1 h).1⟩

theorem Box.below {w w' : World} {b : Nat} {y m d : Int} (h : Box w b y m d) {B : Nat} (hb : Below B w w') (hB : b < B) : Box w' b y m d := (hb.block b hB).trans h
theorem Box.later {w w' : World} {b : Nat} {y m d : Int} (h : Box w b y m d) (hb : Below w.heap.size w w') : Box w' b y m d := h.below hb h.facts.2.2.2.2.2.2
theorem Box.new (w : World) (y m d : Int) : Box (w.alloc (.cells #[.int .i64 y, .int .i64 m, .int .i64 d] 187)) w.heap.size y m d := heap_alloc_new _ _
theorem Box.put {w : World} {b : Nat} {y m d : Int} (h : Box w b y m d) (y' m' d' : Int) :
    Box (((w.setCell ⟨b, 0, none⟩ (.int .i64 y')).setCell ⟨b, 1, none⟩ (.int .i64 m')).setCell ⟨b, 2, none⟩ (.int .i64 d')) b y' m' d' :=
  Lib.heap_setCell_same (Lib.heap_setCell_same (Lib.heap_setCell_same h _) _) _
theorem Box.put0 {w : World} {b : Nat} {y m d : Int} (h : Box w b y m d) (y' : Int) : Box (w.setCell ⟨b, 0, none⟩ (.int .i64 y')) b y' m d := Lib.heap_setCell_same h _
theorem Box.put1 {w : World} {b : Nat} {y m d : Int} (h : Box w b y m d) (m' : Int) : Box (w.setCell ⟨b, 1, none⟩ (.int .i64 m')) b y m' d := Lib.heap_setCell_same h _
theorem Box.put2 {w : World} {b : Nat} {y m d : Int} (h : Box w b y m d) (d' : Int) : Box (w.setCell ⟨b, 2, none⟩ (.int .i64 d')) b y m d' := Lib.heap_setCell_same h _

theorem days_any (y m d : Int) (w : World) (hA : HasAh w) :
    Calls Tryz.prog 170 #[dV y m d] w fun e w' => e = .returned (.tuple #[.int .i64 (if VD y m d then nb y m d else 0), .int .i64 (if VD y m d then 0 else 30)]) ∧ Below w.heap.size w w' := by
  have HA : Hid (HasAh w) := hA
  have HV : Hid (_) := fun w h => valid_any y m d w h
  clear hA
  by_cases hv : VD y m d
  · have HN : Hid (_) := fun w h => numberOf_any y m d hv w h
    rw [if_pos hv, if_pos hv]
    rw [decide_eq_true hv] at HV
    clear hv
    unfold dV at *
    go_enter Tryz.func170, Tryz.ntmps170
    go_wp2_with fail
    refine (HV.out _ (HA.out.alloc _)).mono ?_
    rintro e w1 ⟨rfl, hb1⟩
    obtain ⟨k0, k1, k2, hB, _⟩ := date_cells w w1 _ _ _ hb1
    have HA1 : Hid (_) := HA.out.below hB
    clear hb1
    go_wp2_with fail
    refine (HN.out _ HA1.out).mono ?_
    rintro e w2 ⟨rfl, hb2⟩
    go_wp2
    go_ret2
    exact ⟨rfl, hB.trans (hb2.mono hB.size)⟩
  · rw [if_neg hv, if_neg hv]
    rw [decide_eq_false hv] at HV
    clear hv
    unfold dV at *
    go_enter Tryz.func170, Tryz.ntmps170
    go_wp2_with fail
    refine (HV.out _ (HA.out.alloc _)).mono ?_
    rintro e w1 ⟨rfl, hb1⟩
    obtain ⟨k0, k1, k2, hB, _⟩ := date_cells w w1 _ _ _ hb1
    clear hb1
    go_wp2
    go_ret2
    exact ⟨rfl, hB⟩

set_option maxHeartbeats 1000000 in
theorem dateOf_any (n : Int) (h0 : 0 ≤ n) (h1 : n ≤ 3652424) (w : World) (hA : HasAh w) :
    Calls Tryz.prog 203 #[.int .i64 n] w fun e w' => e = .returned (dV (dY n) (dM n) (dD n)) ∧ Below w.heap.size w w' := by
  have HA : Hid (HasAh w) := hA
  clear hA
  have hq : 0 ≤ n * 400 / 146097 ∧ n * 400 / 146097 ≤ 9999 := by omega
  obtain ⟨N, rfl⟩ := Int.eq_ofNat_of_zero_le h0
  go_enter Tryz.func203, Tryz.ntmps203
  go_wp2_with fail
  go_loop [3] (fun y => ∃ Y : Int, 0 ≤ Y ∧ Y ≤ 10000 ∧ y = .int .i64 Y) (fun y => (intOf y).toNat)
  case atStart => exact ⟨_, hq.1, by omega, by go_num⟩
  case round =>
    obtain ⟨Y, hY0, hY1, rfl⟩ := hrel
    have HY : Hid (_) := fun w => yearStart_any Y (by omega) (by omega) w
    have hyb := ys_bounds Y (by omega) (by omega)
    clear hq
    by_cases hlt : ys Y ≤ (N : Int)
    · have HYs : Hid (_) := hlt
      have hmax := ys_le 10000 Y
      rw [ys_10000] at hmax
      have hY9 : Y ≤ 9999 := by omega
      clear hmax
      generalize hgy : ys Y = a at HY hyb hlt
      clear hgy
      go_wp2_with fail
      refine (HY.out _).mono ?_
      rintro e w' ⟨rfl, rfl⟩
      clear HY
      go_wp2_with fail
      go_loop [3] (fun y => ∃ Y : Int, 0 ≤ Y ∧ Y ≤ 9999 ∧ ys Y ≤ (N : Int) ∧ y = .int .i64 Y) (fun y => 10000 - (intOf y).toNat)
      case atStart => exact ⟨_, hY0, hY9, HYs.out, rfl⟩
      case round =>
        clear hY0 hY1 hY9 HYs
        obtain ⟨Z, hY0, hY9, hys, rfl⟩ := hrel
        have HY : Hid (_) := fun w => yearStart_any (Z + 1) (by omega) (by omega) w
        have hyb := ys_bounds (Z + 1) (by omega) (by omega)
        have HYs : Hid (_) := hys
        by_cases hle : ys (Z + 1) ≤ (N : Int)
        · have hmax := ys_le 10000 (Z + 1)
          rw [ys_10000] at hmax
          have hY8 : Z + 1 ≤ 9999 := by omega
          have HYs1 : Hid (_) := hle
          clear hmax hys
          generalize hgy : ys (Z + 1) = a at HY hyb hle
          clear hgy
          go_wp2_with fail
          refine (HY.out _).mono ?_
          rintro e w' ⟨rfl, rfl⟩
          clear HY
          go_wp2
          go_round
          case rel => exact ⟨Z + 1, by omega, hY8, HYs1.out, rfl⟩
          case measure => simp [intOf]; omega
        · have HYs1 : Hid (_) := hle
          have HZ : Hid (_) := fun w => yearStart_any Z (by omega) (by omega) w
          have HM : Hid (_) := fun M h1 h2 w hA => monthStart_any Z M hY0 h1 h2 w hA
          have hzb := ys_bounds Z (by omega) (by omega)
          have hnx := ys_next Z
          have h13 := ms_13 Z
          obtain ⟨r, hr⟩ : ∃ r : Nat, (N : Int) = ys Z + r := ⟨((N : Int) - ys Z).toNat, by omega⟩
          have hrle : (r : Int) < ms Z 13 := by omega
          have hlpc := lpN_cases Z
          have hr365 : (r : Int) ≤ 365 := by omega
          have H13 : Hid (_) := hrle
          have HNr : Hid (_) := hr
          generalize hgy : ys (Z + 1) = a at HY hyb hle
          generalize hgz : ys Z = b at HZ hzb hys hr
          have hms0 := (ms_long Z ((r : Int) / 31 + 1) (by omega) (by omega)).1
          have HM0 : Hid (_) := hms0
          clear hgy hgz hnx h13 hrle hlpc HYs hms0
          go_wp2_with fail
          refine (HY.out _).mono ?_
          rintro e w' ⟨rfl, rfl⟩
          clear HY HYs1
          go_wp2_with fail
          refine (HZ.out _).mono ?_
          rintro e w' ⟨rfl, rfl⟩
          have hsub : (N : Int) - b = r := by omega
          clear HZ
          go_wp2_with fail
          go_loop [4] (fun m => ∃ M : Int, 1 ≤ M ∧ M ≤ 12 ∧ ms Z M ≤ r ∧ m = .int .i64 M) (fun m => 13 - (intOf m).toNat)
          case atStart =>
            have h := HM0.out
            exact ⟨(r : Int) / 31 + 1, by omega, by omega, by omega, by go_num⟩
          case round =>
            clear HM0
            obtain ⟨M, hM1, hM2, hms, rfl⟩ := hrel
            have HMs : Hid (_) := hms
            have HQ : Hid (_) := HM.out (M + 1) (by omega) (by omega)
            have hmb := ms_long Z (M + 1) (by omega) (by omega)
            by_cases hgo : ms Z (M + 1) ≤ (r : Int)
            · have hM3 : M + 1 ≤ 12 := by
                have h := H13.out
                by_cases e : M = 12
                · subst e; have : ms Z 13 ≤ r := hgo; omega
                · omega
              have HMs1 : Hid (_) := hgo
              clear hms
              generalize ms Z (M + 1) = c at HQ hmb hgo
              go_wp2_with fail
              refine (HQ.out _ (HA.out.alloc _)).mono ?_
              rintro e w' ⟨rfl, rfl⟩
              clear HQ
              go_wp2
              go_round
              case rel => exact ⟨M + 1, by omega, hM3, HMs1.out, rfl⟩
              case measure => simp [intOf]; omega
            · have HQ2 : Hid (_) := HM.out M (by omega) (by omega)
              have hmb2 := ms_long Z M (by omega) (by omega)
              have hst := ms_step Z M hM1 hM2
              have hfin := dt_eq Z M ((r : Int) - ms Z M + 1) (N : Int) ⟨hY0, hY9, hM1, hM2, by omega, by omega⟩ (by have h := HNr.out; unfold nb; omega)
              have HF : Hid (_) := hfin
              clear hfin hst HNr H13
              generalize ms Z (M + 1) = c at HQ hmb hgo
              generalize ms Z M = c2 at HQ2 hmb2 hms HF
              go_wp2_with fail
              refine (HQ.out _ (HA.out.alloc _)).mono ?_
              rintro e w' ⟨rfl, rfl⟩
              clear HQ
              go_wp2_with fail
              refine (HQ2.out _ (HA.out.alloc _)).mono ?_
              rintro e w' ⟨rfl, rfl⟩
              clear HQ2
              go_wp2
              go_returns
              obtain ⟨e1, e2, e3⟩ := HF.out
              refine ⟨?_, ?_⟩
              · rw [← e1, ← e2, ← e3]; unfold dV; rw [show b + (r : Int) - b - c2 + 1 = (r : Int) - c2 + 1 by omega]
              · first | exact ((Below.refl _ _).alloc (Nat.le_refl _) _) | exact ((Below.refl _ _).alloc (Nat.le_refl _) _).setCells (Nat.le_refl _) | skip
    · have hpos : 0 < Y := by
        rcases Int.lt_or_eq_of_le hY0 with h | h
        · exact h
        · subst h; rw [ys_zero] at hlt; omega
      generalize ys Y = a at HY hyb hlt
      go_wp2_with fail
      refine (HY.out _).mono ?_
      rintro e w' ⟨rfl, rfl⟩
      clear HY
      go_wp2
      go_round
      case rel => exact ⟨Y - 1, by omega, by omega, by go_num⟩
      case measure => simp [intOf]; omega
end Go.Proofs.YtmgfdnccmeahjaaGreatDoor

namespace Go.Proofs.YtmgfdnccmeahjaaGreatDoor
open Go.RowKit
set_option maxRecDepth 100000

def sel3 {α : Type} (a b c : α) : Nat → α
  | 0 => a
  | 1 => b
  | _ => c

/-- the parts of a day's text lie there, and the day as far as it is read -/
def SD (w0 : World) (n0 n1 n2 : Int) (k : Nat) (w : World) : Prop :=
  HasAh w ∧ Below w0.heap.size w0 w ∧ Box w w0.heap.size 0 0 0 ∧ Box w (w0.heap.size + 1) (if 1 ≤ k then n0 else 0) (if 2 ≤ k then n1 else 0) (if 3 ≤ k then n2 else 0) ∧
  w.heap[w0.heap.size + 2]? = some (.cells #[.int .i64 4, .func (.func 234) #[] #[.pointer (some ⟨w0.heap.size + 1, 0, none⟩)], .int .i64 2, .func (.func 235) #[] #[.pointer (some ⟨w0.heap.size + 1, 0, none⟩)], .int .i64 2, .func (.func 236) #[] #[.pointer (some ⟨w0.heap.size + 1, 0, none⟩)]] 285 (0, 0))

/-- a date of zeros; the parts -/
abbrev zD : Obj := .cells #[.int .i64 0, .int .i64 0, .int .i64 0] 187
abbrev ptO (b : Nat) : Obj := .cells #[.int .i64 4, .func (.func 234) #[] #[.pointer (some ⟨b + 1, 0, none⟩)], .int .i64 2, .func (.func 235) #[] #[.pointer (some ⟨b + 1, 0, none⟩)], .int .i64 2, .func (.func 236) #[] #[.pointer (some ⟨b + 1, 0, none⟩)]] 285

theorem alloc_below (w : World) (o : Obj) : Below w.heap.size w (w.alloc o) := (Below.refl _ _).alloc (Nat.le_refl _) _

theorem SD.start (w : World) (hA : HasAh w) (n0 n1 n2 : Int) : SD w n0 n1 n2 0 (((w.alloc zD).alloc zD).alloc (ptO w.heap.size)) := by
  have s1 : (w.alloc zD).heap.size = w.heap.size + 1 := by simp
  have s2 : ((w.alloc zD).alloc zD).heap.size = w.heap.size + 2 := by simp
  refine ⟨((hA.alloc _).alloc _).alloc _, (((Below.refl _ _).alloc (Nat.le_refl _) _).alloc (by omega) _).alloc (by omega) _, ?_, ?_, ?_⟩
  · exact ((Box.new w 0 0 0).later (alloc_below _ zD)).later (alloc_below _ (ptO w.heap.size))
  · have h := (Box.new (w.alloc zD) 0 0 0).later (alloc_below _ (ptO w.heap.size))
    rw [s1] at h
    exact h
  · have h := heap_alloc_new ((w.alloc zD).alloc zD) (ptO w.heap.size)
    rw [s2] at h
    exact h

theorem SD.stable {w0 w w' : World} {n0 n1 n2 : Int} {k : Nat} (h : SD w0 n0 n1 n2 k w) (hb : Below w.heap.size w w') : SD w0 n0 n1 n2 k w' :=
  ⟨h.1.below hb, h.2.1.trans (hb.mono h.2.1.size), h.2.2.1.later hb, h.2.2.2.1.later hb, (hb.block _ (Array.getElem?_eq_some_iff.1 h.2.2.2.2).1).trans h.2.2.2.2⟩

theorem SD.size {w0 w : World} {n0 n1 n2 : Int} {k : Nat} (h : SD w0 n0 n1 n2 k w) : w0.heap.size + 3 ≤ w.heap.size := by
  have := (Array.getElem?_eq_some_iff.1 h.2.2.2.2).1
  omega

theorem SD.set {w0 w : World} {n0 n1 n2 : Int} {k : Nat} (h : SD w0 n0 n1 n2 k w) (hG : HasAh w0) (j : Nat) (v : Value)
    (hb : Box (w.setCell ⟨w0.heap.size + 1, j, none⟩ v) (w0.heap.size + 1) (if 1 ≤ k + 1 then n0 else 0) (if 2 ≤ k + 1 then n1 else 0) (if 3 ≤ k + 1 then n2 else 0)) :
    SD w0 n0 n1 n2 (k + 1) (w.setCell ⟨w0.heap.size + 1, j, none⟩ v) := by
  refine ⟨h.1.belowAt ((Below.refl w0.heap.size w).setCell (by show w0.heap.size ≤ w0.heap.size + 1; omega) _) hG.lt, h.2.1.setCell (by show w0.heap.size ≤ w0.heap.size + 1; omega) _, ?_, hb, ?_⟩
  · unfold Box
    rw [Below.heap_setCell _ _ _ _ (by show w0.heap.size ≠ w0.heap.size + 1; omega)]
    exact h.2.2.1
  · rw [Below.heap_setCell _ _ _ _ (by show w0.heap.size + 2 ≠ w0.heap.size + 1; omega)]
    exact h.2.2.2.2

theorem set_frame (w : World) (B j : Nat) (v : Value) (L : Nat) (h : B < L) : ∀ x, L ≤ x → x < w.heap.size → (w.setCell ⟨B, j, none⟩ v).heap[x]? = w.heap[x]? := fun x hx _ =>
  Below.heap_setCell _ _ _ _ (by show x ≠ B; omega)

theorem clo1_any (w0 w : World) (n0 n1 n2 : Int) (hG : HasAh w0) (h : SD w0 n0 n1 n2 0 w) :
    Calls Tryz.prog 234 #[.int .i64 n0, .pointer (some ⟨w0.heap.size + 1, 0, none⟩)] w fun e w' => e = .returned (.bool true) ∧ SD w0 n0 n1 n2 1 w' ∧ ∀ x, w0.heap.size + 3 ≤ x → x < w.heap.size → w'.heap[x]? = w.heap[x]? := by
  have R := hidC (h.set hG 0 (.int .i64 n0) (by have := h.2.2.2.1.put0 n0; simpa using this))
  obtain ⟨c0, c1, c2, f0, f1, f2, _⟩ := h.2.2.2.1.facts
  have FR := hidC (set_frame w (w0.heap.size + 1) 0 (.int .i64 n0) (w0.heap.size + 3) (by omega))
  clear h
  go_enter Tryz.func234, Tryz.ntmps234
  go_wp2
  go_ret
  exact ⟨rfl, R.out, FR.out⟩

theorem clo2_any (w0 w : World) (n0 n1 n2 : Int) (hG : HasAh w0) (h : SD w0 n0 n1 n2 1 w) :
    Calls Tryz.prog 235 #[.int .i64 n1, .pointer (some ⟨w0.heap.size + 1, 0, none⟩)] w fun e w' => e = .returned (.bool (decide (1 ≤ n1 ∧ n1 ≤ 12))) ∧ SD w0 n0 n1 n2 2 w' ∧ ∀ x, w0.heap.size + 3 ≤ x → x < w.heap.size → w'.heap[x]? = w.heap[x]? := by
  have R := hidC (h.set hG 1 (.int .i64 n1) (by have := h.2.2.2.1.put1 n1; simpa using this))
  obtain ⟨c0, c1, c2, f0, f1, f2, _⟩ := h.2.2.2.1.facts
  have FR := hidC (set_frame w (w0.heap.size + 1) 1 (.int .i64 n1) (w0.heap.size + 3) (by omega))
  clear h
  by_cases h1 : 1 ≤ n1
  · by_cases h2 : n1 ≤ 12
    all_goals
      go_enter Tryz.func235, Tryz.ntmps235
      go_wp2
      go_ret
      exact ⟨ret_boolC (by simp [h1, h2]), R.out, FR.out⟩
  · go_enter Tryz.func235, Tryz.ntmps235
    go_wp2
    go_ret
    exact ⟨ret_boolC (by simp; omega), R.out, FR.out⟩

theorem clo3_any (w0 w : World) (n0 n1 n2 : Int) (hG : HasAh w0) (h : SD w0 n0 n1 n2 2 w) :
    Calls Tryz.prog 236 #[.int .i64 n2, .pointer (some ⟨w0.heap.size + 1, 0, none⟩)] w fun e w' => e = .returned (.bool (decide (VD n0 n1 n2))) ∧ SD w0 n0 n1 n2 3 w' ∧ ∀ x, w0.heap.size + 3 ≤ x → x < w.heap.size → w'.heap[x]? = w.heap[x]? := by
  have R := hidC (h.set hG 2 (.int .i64 n2) (by have := h.2.2.2.1.put2 n2; simpa using this))
  obtain ⟨c0, c1, c2, f0, f1, f2, _⟩ := h.2.2.2.1.facts
  obtain ⟨e0, e1, e2, _⟩ := R.out.2.2.2.1.facts
  have FR := hidC (set_frame w (w0.heap.size + 1) 2 (.int .i64 n2) (w0.heap.size + 3) (by omega))
  have HV := hidC (fun w h => valid_any n0 n1 n2 w h)
  have hsz : (w.setCell ⟨w0.heap.size + 1, 2, none⟩ (.int .i64 n2)).heap.size = w.heap.size := by simp
  simp at c0 c1 c2 e0 e1 e2
  generalize decide (VD n0 n1 n2) = bb at *
  clear h
  unfold dV at *
  go_enter Tryz.func236, Tryz.ntmps236
  go_wp2_with fail
  refine (HV.out _ R.out.1).mono ?_
  rintro e w1 ⟨rfl, hb⟩
  have R1 := hidC (R.out.stable hb)
  have F1 := hidC (fun x hx hz => (hb.block x (by rw [hsz]; exact hz)).trans (FR.out x hx hz))
  clear hb
  go_wp2
  go_ret
  exact ⟨rfl, R1.out, F1.out⟩

/-- the answer of readDay -/
def rdV (p1 p2 : Nat) (n0 n1 n2 : Int) : Value := if 1 ≤ n1 ∧ n1 ≤ 12 then if VD n0 n1 n2 then .tuple #[dV n0 n1 n2, .int .i64 0, .int .i64 0] else .tuple #[dV 0 0 0, .int .i64 30, .int .i64 (p2 : Int)] else .tuple #[dV 0 0 0, .int .i64 30, .int .i64 (p1 : Int)]

theorem eg_of {f : Nat} {fn : Func} {c : Code} (hf : Tryz.prog.funcs[f]? = some fn) (hn : (fn.name == "runtime.NumGoroutine") = false) (hb : fn.body = some c) : ∀ args w, (callFunc f args).run Tryz.prog w = .ok (.enter f args) w := Go.Proofs.enters_of hf hn hb

set_option maxHeartbeats 1000000 in
theorem readDay_any (t : ByteArray) (ht : t.size ≤ 64) (p1 p2 : Nat) (h0 : sk t.data.toList 0 = 0) (h1 : sk t.data.toList 4 = p1) (h2 : sk t.data.toList (p1 + 2) = p2)
    (l0 : 4 ≤ t.size ∧ 0 ≠ t.size ∧ ∀ c ∈ subC t.data.toList 0 4, isDBC c = true) (l1 : p1 + 2 ≤ t.size ∧ p1 ≠ t.size ∧ ∀ c ∈ subC t.data.toList p1 2, isDBC c = true) (l2 : p2 + 2 ≤ t.size ∧ p2 ≠ t.size ∧ ∀ c ∈ subC t.data.toList p2 2, isDBC c = true)
    (w : World) (hA : HasAh w) :
    Calls Tryz.prog 198 #[.string t] w fun e w' => e = .returned (rdV p1 p2 (nm (subC t.data.toList 0 4)) (nm (subC t.data.toList p1 2)) (nm (subC t.data.toList p2 2))) ∧ Below w.heap.size w w' := by
  have hmf : ∀ (fn : Fn) (first cap : Array Value) (w : World), (Instr.makeFunc fn first cap).run Tryz.prog w = .ok (.func fn first cap) w := fun _ _ _ _ => rfl
  obtain ⟨n0, hn0⟩ : ∃ n : Int, n = (nm (subC t.data.toList 0 4) : Int) := ⟨_, rfl⟩
  obtain ⟨n1, hn1⟩ : ∃ n : Int, n = (nm (subC t.data.toList p1 2) : Int) := ⟨_, rfl⟩
  obtain ⟨n2, hn2⟩ : ∃ n : Int, n = (nm (subC t.data.toList p2 2) : Int) := ⟨_, rfl⟩
  rw [← hn0, ← hn1, ← hn2]
  have HR := hidC (fun w1 hw => refused_any t ht 3 (w.heap.size + 2) (sel3 4 2 2) (sel3 234 235 236) (sel3 0 p1 p2) (fun _ => #[.pointer (some ⟨w.heap.size + 1, 0, none⟩)])
    (sel3 true (decide (1 ≤ n1 ∧ n1 ≤ 12)) (decide (VD n0 n1 n2))) (SD w n0 n1 n2) (w.heap.size + 3) (by omega)
    (fun k => match k with
      | 0 => eg_of Tryz.func234 (by kernel_rfl) rfl
      | 1 => eg_of Tryz.func235 (by kernel_rfl) rfl
      | _ + 2 => eg_of Tryz.func236 (by kernel_rfl) rfl)
    (fun k w w' h hb => h.stable hb) (fun k w h => h.size)
    (fun k j w hj h => by
      match j, hj with
      | 0, _ => exact ⟨by rw [Lib.cell_of_heap h.2.2.2.2]; rfl, by rw [Lib.cell_of_heap h.2.2.2.2]; rfl⟩
      | 1, _ => exact ⟨by rw [Lib.cell_of_heap h.2.2.2.2]; rfl, by rw [Lib.cell_of_heap h.2.2.2.2]; rfl⟩
      | 2, _ => exact ⟨by rw [Lib.cell_of_heap h.2.2.2.2]; rfl, by rw [Lib.cell_of_heap h.2.2.2.2]; rfl⟩)
    h0 (fun k hk _ => by
      match k, hk with
      | 0, _ => exact h1
      | 1, _ => exact h2)
    (fun k hk => by
      match k, hk with
      | 0, _ => exact .inr ⟨l0.1, by decide, by decide, l0.2.2⟩
      | 1, _ => exact .inr ⟨l1.1, by decide, by decide, l1.2.2⟩
      | 2, _ => exact .inr ⟨l2.1, by decide, by decide, l2.2.2⟩)
    (fun k wx hk _ h => by
      match k, hk with
      | 0, _ => exact (by rw [← hn0]; exact clo1_any w wx n0 n1 n2 hA h : Calls Tryz.prog _ #[.int .i64 (nm (subC t.data.toList 0 4) : Int), .pointer (some ⟨w.heap.size + 1, 0, none⟩)] wx _)
      | 1, _ => exact (by rw [← hn1]; exact clo2_any w wx n0 n1 n2 hA h : Calls Tryz.prog _ #[.int .i64 (nm (subC t.data.toList p1 2) : Int), .pointer (some ⟨w.heap.size + 1, 0, none⟩)] wx _)
      | 2, _ => exact (by rw [← hn2]; exact clo3_any w wx n0 n1 n2 hA h : Calls Tryz.prog _ #[.int .i64 (nm (subC t.data.toList p2 2) : Int), .pointer (some ⟨w.heap.size + 1, 0, none⟩)] wx _))
    w1 hw)
  have HW := hidC (SD.start w hA n0 n1 n2)
  have e0 : (0 : Nat) ≠ t.size := l0.2.1
  have e1 := l1.2.1
  have e2 := l2.2.1
  clear h0 h1 h2 l0 l1 l2 hn0 hn1 hn2 hA
  by_cases g1 : 1 ≤ n1 ∧ n1 ≤ 12
  · by_cases g2 : VD n0 n1 n2
    · have ER : rg t.size (sel3 0 p1 p2) (sel3 true (decide (1 ≤ n1 ∧ n1 ≤ 12)) (decide (VD n0 n1 n2))) 3 0 = (-1, 3) := by
        rw [rg_yes (k := 0) e0 rfl, rg_yes (k := 1) e1 (by simp [sel3, g1]), rg_yes (k := 2) e2 (by simp [sel3, g2])]; rfl
      rw [ER] at HR
      have HV : Hid (rdV p1 p2 n0 n1 n2 = .tuple #[dV n0 n1 n2, .int .i64 0, .int .i64 0]) := by unfold rdV; rw [if_pos g1, if_pos g2]; exact rfl
      rw [HV.out]
      clear ER g1 g2 HV
      unfold dV
      go_enter Tryz.func198, Tryz.ntmps198
      go_wp2_with fail
      refine (HR.out _ HW.out).mono ?_
      rintro e w1 ⟨rfl, hs⟩
      obtain ⟨k0, k1, k2, f0, f1, f2, _⟩ := hs.2.2.1.facts
      obtain ⟨c0, c1, c2, _⟩ := hs.2.2.2.1.facts
      obtain ⟨d0, d1, d2, _⟩ := (hs.2.2.1.put n0 n1 n2).facts
      have HB := hidC hs.2.1
      simp at c0 c1 c2
      clear hs HR HW
      go_wp2
      refine bodyPost_ret (by simp [results, Tryz.results198, go_sem, d0, d1, d2]; try rfl) rfl ?_
      exact ⟨rfl, ((HB.out.setCell (Nat.le_refl _) _).setCell (Nat.le_refl _) _).setCell (Nat.le_refl _) _⟩
    · have ER : rg t.size (sel3 0 p1 p2) (sel3 true (decide (1 ≤ n1 ∧ n1 ≤ 12)) (decide (VD n0 n1 n2))) 3 0 = ((p2 : Int), 3) := by
        rw [rg_yes (k := 0) e0 rfl, rg_yes (k := 1) e1 (by simp [sel3, g1]), rg_no (k := 2) e2 (by simp only [sel3]; exact decide_eq_false g2)]; rfl
      rw [ER] at HR
      have HV : Hid (rdV p1 p2 n0 n1 n2 = .tuple #[dV 0 0 0, .int .i64 30, .int .i64 (p2 : Int)]) := by unfold rdV; rw [if_pos g1, if_neg g2]; exact rfl
      rw [HV.out]
      clear ER g1 g2 HV
      unfold dV
      go_enter Tryz.func198, Tryz.ntmps198
      go_wp2_with fail
      refine (HR.out _ HW.out).mono ?_
      rintro e w1 ⟨rfl, hs⟩
      obtain ⟨k0, k1, k2, f0, f1, f2, _⟩ := hs.2.2.1.facts
      obtain ⟨d0, d1, d2, _⟩ := (hs.2.2.1.put 0 0 0).facts
      have HB := hidC hs.2.1
      clear hs HR HW
      go_wp2
      refine bodyPost_ret (by simp [results, Tryz.results198, go_sem, d0, d1, d2]; try rfl) rfl ?_
      exact ⟨rfl, ((HB.out.setCell (Nat.le_refl _) _).setCell (Nat.le_refl _) _).setCell (Nat.le_refl _) _⟩
  · have ER : rg t.size (sel3 0 p1 p2) (sel3 true (decide (1 ≤ n1 ∧ n1 ≤ 12)) (decide (VD n0 n1 n2))) 3 0 = ((p1 : Int), 2) := by
      rw [rg_yes (k := 0) e0 rfl, rg_no (k := 1) e1 (by simp only [sel3]; exact decide_eq_false g1)]; rfl
    rw [ER] at HR
    have HV : Hid (rdV p1 p2 n0 n1 n2 = .tuple #[dV 0 0 0, .int .i64 30, .int .i64 (p1 : Int)]) := by unfold rdV; rw [if_neg g1]; exact rfl
    rw [HV.out]
    clear ER g1 HV
    unfold dV
    go_enter Tryz.func198, Tryz.ntmps198
    go_wp2_with fail
    refine (HR.out _ HW.out).mono ?_
    rintro e w1 ⟨rfl, hs⟩
    obtain ⟨k0, k1, k2, f0, f1, f2, _⟩ := hs.2.2.1.facts
    obtain ⟨d0, d1, d2, _⟩ := (hs.2.2.1.put 0 0 0).facts
    have HB := hidC hs.2.1
    clear hs HR HW
    go_wp2
    refine bodyPost_ret (by simp [results, Tryz.results198, go_sem, d0, d1, d2]; try rfl) rfl ?_
    exact ⟨rfl, ((HB.out.setCell (Nat.le_refl _) _).setCell (Nat.le_refl _) _).setCell (Nat.le_refl _) _⟩
end Go.Proofs.YtmgfdnccmeahjaaGreatDoor

namespace Go.Proofs.YtmgfdnccmeahjaaGreatDoor
open Go.RowKit
set_option maxRecDepth 100000

/-- a number lies in block b -/
def IBox (w : World) (b : Nat) (v : Int) : Prop := w.heap[b]? = some (.cells #[.int .i64 v] 3 (0, 0))
theorem IBox.facts {w : World} {b : Nat} {v : Int} (h : IBox w b v) : w.cell? ⟨b, 0, none⟩ = some (.int .i64 v) ∧ w.frozen? ⟨b, 0, none⟩ = false ∧ b < w.heap.size :=
  ⟨by rw [Lib.cell_of_heap h]; rfl, Lib.frozen_of_heap h 0, (Array.getElem?_eq_some_iff.1 h).1⟩
theorem IBox.later {w w' : World} {b : Nat} {v : Int} (h : IBox w b v) (hb : Below w.heap.size w w') : IBox w' b v := (hb.block b h.facts.2.2).trans h
theorem IBox.put {w : World} {b : Nat} {v : Int} (h : IBox w b v) (v' : Int) : IBox (w.setCell ⟨b, 0, none⟩ (.int .i64 v')) b v' := Lib.heap_setCell_same h _

abbrev zI : Obj := .cells #[.int .i64 0] 3
abbrev ptY (b : Nat) : Obj := .cells #[.int .i64 4, .func (.func 237) #[] #[.pointer (some ⟨b + 1, 0, none⟩)], .int .i64 3, .func (.func 238) #[] #[.pointer (some ⟨b + 2, 0, none⟩), .pointer (some ⟨b + 1, 0, none⟩)]] 285

def SY (w0 : World) (n0 n1 : Int) (k : Nat) (w : World) : Prop :=
  HasAh w ∧ Below w0.heap.size w0 w ∧ Box w w0.heap.size 0 0 0 ∧ IBox w (w0.heap.size + 1) (if 1 ≤ k then n0 else 0) ∧ IBox w (w0.heap.size + 2) (if 2 ≤ k then n1 else 0) ∧
  w.heap[w0.heap.size + 3]? = some (ptY w0.heap.size)

theorem SY.start (w : World) (hA : HasAh w) (n0 n1 : Int) : SY w n0 n1 0 ((((w.alloc zD).alloc zI).alloc zI).alloc (ptY w.heap.size)) := by
  have s1 : (w.alloc zD).heap.size = w.heap.size + 1 := by simp
  have s2 : ((w.alloc zD).alloc zI).heap.size = w.heap.size + 2 := by simp
  have s3 : (((w.alloc zD).alloc zI).alloc zI).heap.size = w.heap.size + 3 := by simp
  refine ⟨(((hA.alloc _).alloc _).alloc _).alloc _, ((((Below.refl _ _).alloc (Nat.le_refl _) _).alloc (by omega) _).alloc (by omega) _).alloc (by omega) _, ?_, ?_, ?_, ?_⟩
  · exact (((Box.new w 0 0 0).later (alloc_below _ zI)).later (alloc_below _ zI)).later (alloc_below _ (ptY w.heap.size))
  · have h : IBox ((w.alloc zD).alloc zI) (w.alloc zD).heap.size 0 := heap_alloc_new _ _
    rw [s1] at h
    exact (h.later (alloc_below _ zI)).later (alloc_below _ (ptY w.heap.size))
  · have h : IBox (((w.alloc zD).alloc zI).alloc zI) ((w.alloc zD).alloc zI).heap.size 0 := heap_alloc_new _ _
    rw [s2] at h
    exact h.later (alloc_below _ (ptY w.heap.size))
  · have h := heap_alloc_new (((w.alloc zD).alloc zI).alloc zI) (ptY w.heap.size)
    rw [s3] at h
    exact h

theorem SY.stable {w0 w w' : World} {n0 n1 : Int} {k : Nat} (h : SY w0 n0 n1 k w) (hb : Below w.heap.size w w') : SY w0 n0 n1 k w' :=
  ⟨h.1.below hb, h.2.1.trans (hb.mono h.2.1.size), h.2.2.1.later hb, h.2.2.2.1.later hb, h.2.2.2.2.1.later hb, (hb.block _ (Array.getElem?_eq_some_iff.1 h.2.2.2.2.2).1).trans h.2.2.2.2.2⟩

theorem SY.size {w0 w : World} {n0 n1 : Int} {k : Nat} (h : SY w0 n0 n1 k w) : w0.heap.size + 4 ≤ w.heap.size := by
  have := (Array.getElem?_eq_some_iff.1 h.2.2.2.2.2).1
  omega

theorem SY.set1 {w0 w : World} {n0 n1 : Int} (h : SY w0 n0 n1 0 w) (hG : HasAh w0) : SY w0 n0 n1 1 (w.setCell ⟨w0.heap.size + 1, 0, none⟩ (.int .i64 n0)) := by
  refine ⟨h.1.belowAt ((Below.refl w0.heap.size w).setCell (by show w0.heap.size ≤ w0.heap.size + 1; omega) _) hG.lt, h.2.1.setCell (by show w0.heap.size ≤ w0.heap.size + 1; omega) _, ?_, ?_, ?_, ?_⟩
  · unfold Box
    rw [Below.heap_setCell _ _ _ _ (by show w0.heap.size ≠ w0.heap.size + 1; omega)]
    exact h.2.2.1
  · have := h.2.2.2.1.put n0; simpa using this
  · unfold IBox
    rw [Below.heap_setCell _ _ _ _ (by show w0.heap.size + 2 ≠ w0.heap.size + 1; omega)]
    exact h.2.2.2.2.1
  · rw [Below.heap_setCell _ _ _ _ (by show w0.heap.size + 3 ≠ w0.heap.size + 1; omega)]
    exact h.2.2.2.2.2
theorem SY.set2 {w0 w : World} {n0 n1 : Int} (h : SY w0 n0 n1 1 w) (hG : HasAh w0) : SY w0 n0 n1 2 (w.setCell ⟨w0.heap.size + 2, 0, none⟩ (.int .i64 n1)) := by
  refine ⟨h.1.belowAt ((Below.refl w0.heap.size w).setCell (by show w0.heap.size ≤ w0.heap.size + 2; omega) _) hG.lt, h.2.1.setCell (by show w0.heap.size ≤ w0.heap.size + 2; omega) _, ?_, ?_, ?_, ?_⟩
  · unfold Box
    rw [Below.heap_setCell _ _ _ _ (by show w0.heap.size ≠ w0.heap.size + 2; omega)]
    exact h.2.2.1
  · unfold IBox
    rw [Below.heap_setCell _ _ _ _ (by show w0.heap.size + 1 ≠ w0.heap.size + 2; omega)]
    exact h.2.2.2.1
  · have := h.2.2.2.2.1.put n1; simpa using this
  · rw [Below.heap_setCell _ _ _ _ (by show w0.heap.size + 3 ≠ w0.heap.size + 2; omega)]
    exact h.2.2.2.2.2

theorem yearDays_any (y : Int) (hy : 0 ≤ y) (w : World) (hA : HasAh w) :
    Calls Tryz.prog 239 #[.int .i64 y] w fun e w' => e = .returned (.int .i64 (365 + lpN y)) ∧ w' = w := by
  have H := hidC (monthStart_any y 13 hy (by omega) (by omega) w hA)
  rw [ms_13] at H
  clear hA
  go_enter Tryz.func239, Tryz.ntmps239
  go_wp2_with (go_at_call 247; refine H.out.mono ?_; rintro e w' ⟨rfl, rfl⟩)
  go_ret
  exact ⟨rfl, rfl⟩

theorem ylo1_any (w0 w : World) (n0 n1 : Int) (hG : HasAh w0) (h : SY w0 n0 n1 0 w) :
    Calls Tryz.prog 237 #[.int .i64 n0, .pointer (some ⟨w0.heap.size + 1, 0, none⟩)] w fun e w' => e = .returned (.bool true) ∧ SY w0 n0 n1 1 w' ∧ ∀ x, w0.heap.size + 4 ≤ x → x < w.heap.size → w'.heap[x]? = w.heap[x]? := by
  have R := hidC (h.set1 hG)
  obtain ⟨c0, f0, _⟩ := h.2.2.2.1.facts
  have FR := hidC (set_frame w (w0.heap.size + 1) 0 (.int .i64 n0) (w0.heap.size + 4) (by omega))
  clear h
  go_enter Tryz.func237, Tryz.ntmps237
  go_wp2
  go_ret
  exact ⟨rfl, R.out, FR.out⟩

set_option maxHeartbeats 1000000 in
theorem ylo2_any (w0 w : World) (n0 n1 : Int) (hn : 0 ≤ n0 ∧ n0 ≤ 9999) (hG : HasAh w0) (h : SY w0 n0 n1 1 w) :
    Calls Tryz.prog 238 #[.int .i64 n1, .pointer (some ⟨w0.heap.size + 2, 0, none⟩), .pointer (some ⟨w0.heap.size + 1, 0, none⟩)] w fun e w' => e = .returned (.bool (decide (1 ≤ n1 ∧ n1 ≤ 365 + lpN n0))) ∧ SY w0 n0 n1 2 w' ∧ ∀ x, w0.heap.size + 4 ≤ x → x < w.heap.size → w'.heap[x]? = w.heap[x]? := by
  have R := hidC (h.set2 hG)
  obtain ⟨c0, f0, _⟩ := h.2.2.2.2.1.facts
  obtain ⟨e0, _, _⟩ := R.out.2.2.2.1.facts
  have FR := hidC (set_frame w (w0.heap.size + 2) 0 (.int .i64 n1) (w0.heap.size + 4) (by omega))
  have HN := hidC (fun w hA => yearDays_any n0 hn.1 w hA)
  have hw := lpN_cases n0
  have hw2 : 365 ≤ 365 + lpN n0 ∧ 365 + lpN n0 ≤ 366 := by omega
  simp at c0 e0
  clear h hn hw
  generalize 365 + lpN n0 = c at *
  by_cases h1 : 1 ≤ n1
  · by_cases h2 : n1 ≤ c
    all_goals
      go_enter Tryz.func238, Tryz.ntmps238
      go_wp2_with (go_at_call 239; refine (HN.out _ R.out.1).mono ?_; rintro e w' ⟨rfl, rfl⟩)
      go_ret
      exact ⟨ret_boolC (by simp [h1, h2]), R.out, FR.out⟩
  · go_enter Tryz.func238, Tryz.ntmps238
    go_wp2
    go_ret
    exact ⟨ret_boolC (by simp; omega), R.out, FR.out⟩

def LaterY (w w' : World) : Prop := Below w.heap.size w w'

/-- the answer of readDayOfYear -/
def ryV (p1 : Nat) (n0 n1 : Int) : Value := if 1 ≤ n1 ∧ n1 ≤ 365 + lpN n0 then .tuple #[dV (dY (ys n0 + n1 - 1)) (dM (ys n0 + n1 - 1)) (dD (ys n0 + n1 - 1)), .int .i64 0, .int .i64 0] else .tuple #[dV 0 0 0, .int .i64 30, .int .i64 (p1 : Int)]

set_option maxHeartbeats 1000000 in
theorem readDayOfYear_any (t : ByteArray) (ht : t.size ≤ 64) (p1 : Nat) (h0 : sk t.data.toList 0 = 0) (h1 : sk t.data.toList 4 = p1)
    (l0 : 4 ≤ t.size ∧ 0 ≠ t.size ∧ ∀ c ∈ subC t.data.toList 0 4, isDBC c = true) (l1 : p1 + 3 ≤ t.size ∧ p1 ≠ t.size ∧ ∀ c ∈ subC t.data.toList p1 3, isDBC c = true)
    (w : World) (hA : HasAh w) :
    Calls Tryz.prog 199 #[.string t] w fun e w' => e = .returned (ryV p1 (nm (subC t.data.toList 0 4)) (nm (subC t.data.toList p1 3))) ∧ Below w.heap.size w w' := by
  have hmf : ∀ (fn : Fn) (first cap : Array Value) (w : World), (Instr.makeFunc fn first cap).run Tryz.prog w = .ok (.func fn first cap) w := fun _ _ _ _ => rfl
  obtain ⟨n0, hn0⟩ : ∃ n : Int, n = (nm (subC t.data.toList 0 4) : Int) := ⟨_, rfl⟩
  obtain ⟨n1, hn1⟩ : ∃ n : Int, n = (nm (subC t.data.toList p1 3) : Int) := ⟨_, rfl⟩
  have hb0 : 0 ≤ n0 ∧ n0 ≤ 9999 := by
    have h := nm_lt (subC t.data.toList 0 4) l0.2.2
    rw [sub_lenC _ _ _ (by rw [Array.length_toList]; exact l0.1)] at h
    omega
  rw [← hn0, ← hn1]
  have HR := hidC (fun w1 hw => refused_any t ht 2 (w.heap.size + 3) (sel3 4 3 3) (sel3 237 238 238) (sel3 0 p1 p1)
    (sel3 #[.pointer (some ⟨w.heap.size + 1, 0, none⟩)] #[.pointer (some ⟨w.heap.size + 2, 0, none⟩), .pointer (some ⟨w.heap.size + 1, 0, none⟩)] #[])
    (sel3 true (decide (1 ≤ n1 ∧ n1 ≤ 365 + lpN n0)) true) (SY w n0 n1) (w.heap.size + 4) (by omega)
    (fun k => match k with
      | 0 => eg_of Tryz.func237 (by kernel_rfl) rfl
      | 1 => eg_of Tryz.func238 (by kernel_rfl) rfl
      | _ + 2 => eg_of Tryz.func238 (by kernel_rfl) rfl)
    (fun k w w' h hb => h.stable hb) (fun k w h => h.size)
    (fun k j w hj h => by
      match j, hj with
      | 0, _ => exact ⟨by rw [Lib.cell_of_heap h.2.2.2.2.2]; rfl, by rw [Lib.cell_of_heap h.2.2.2.2.2]; rfl⟩
      | 1, _ => exact ⟨by rw [Lib.cell_of_heap h.2.2.2.2.2]; rfl, by rw [Lib.cell_of_heap h.2.2.2.2.2]; rfl⟩)
    h0 (fun k hk _ => by
      match k, hk with
      | 0, _ => exact h1)
    (fun k hk => by
      match k, hk with
      | 0, _ => exact .inr ⟨l0.1, by decide, by decide, l0.2.2⟩
      | 1, _ => exact .inr ⟨l1.1, by decide, by decide, l1.2.2⟩)
    (fun k wx hk _ h => by
      match k, hk with
      | 0, _ => exact (by rw [← hn0]; exact ylo1_any w wx n0 n1 hA h : Calls Tryz.prog _ #[.int .i64 (nm (subC t.data.toList 0 4) : Int), .pointer (some ⟨w.heap.size + 1, 0, none⟩)] wx _)
      | 1, _ => exact (by rw [← hn1]; exact ylo2_any w wx n0 n1 hb0 hA h : Calls Tryz.prog _ #[.int .i64 (nm (subC t.data.toList p1 3) : Int), .pointer (some ⟨w.heap.size + 2, 0, none⟩), .pointer (some ⟨w.heap.size + 1, 0, none⟩)] wx _))
    w1 hw)
  have HW := hidC (SY.start w hA n0 n1)
  have e0 : (0 : Nat) ≠ t.size := l0.2.1
  have e1 := l1.2.1
  clear h0 h1 l0 l1 hn0 hn1 hA
  by_cases g1 : 1 ≤ n1 ∧ n1 ≤ 365 + lpN n0
  · have ER : rg t.size (sel3 0 p1 p1) (sel3 true (decide (1 ≤ n1 ∧ n1 ≤ 365 + lpN n0)) true) 2 0 = (-1, 2) := by
      rw [rg_yes (k := 0) e0 rfl, rg_yes (k := 1) e1 (by simp [sel3, g1])]; rfl
    rw [ER] at HR
    have HV : Hid (ryV p1 n0 n1 = .tuple #[dV (dY (ys n0 + n1 - 1)) (dM (ys n0 + n1 - 1)) (dD (ys n0 + n1 - 1)), .int .i64 0, .int .i64 0]) := by unfold ryV; rw [if_pos g1]; exact rfl
    rw [HV.out]
    have hin : 0 ≤ ys n0 + n1 - 1 ∧ ys n0 + n1 - 1 ≤ 3652424 := by
      have a := ys_le 0 n0 hb0.1
      have b := ys_le (n0 + 1) 10000 (by omega)
      have c := ys_next n0
      rw [ys_zero] at a
      rw [ys_10000] at b
      omega
    have HY := hidC (fun w => yearStart_any n0 (by omega) (by omega) w)
    have HD := hidC (fun w hA => dateOf_any (ys n0 + n1 - 1) hin.1 hin.2 w hA)
    have hys := ys_bounds n0 (by omega) (by omega)
    have hl := lpN_cases n0
    have hn1' : n1 ≤ 366 := by omega
    have hn1'' : 1 ≤ n1 := g1.1
    clear ER g1 HV hl
    obtain ⟨N, hN⟩ : ∃ N, ys n0 + n1 - 1 = N := ⟨_, rfl⟩
    rw [hN] at HD hin ⊢
    generalize dY N = yy at *
    generalize dM N = mm at *
    generalize dD N = dd at *
    unfold dV at *
    go_enter Tryz.func199, Tryz.ntmps199
    go_wp2_with fail
    refine (HR.out _ HW.out).mono ?_
    rintro e w1 ⟨rfl, hs⟩
    have HS1 := hidC hs
    clear hs HR HW
    obtain ⟨c0, _⟩ := HS1.out.2.2.2.1.facts
    obtain ⟨c1, _⟩ := HS1.out.2.2.2.2.1.facts
    simp at c0 c1
    go_upto_region 5 with fail
    have HA1 := hidC (HS1.out.1.below ((Below.refl _ _).drew))
    have s0 : LaterY w1 w1.drew := (Below.refl _ _).drew
    have CC := hidC (show ∀ wx, LaterY w1 wx → wx.cell? ⟨w.heap.size + 1, 0, none⟩ = some (.int .i64 n0) ∧ wx.cell? ⟨w.heap.size + 2, 0, none⟩ = some (.int .i64 n1) from fun wx hx => ⟨by have := (HS1.out.2.2.2.1.later hx).facts.1; simpa using this, by have := (HS1.out.2.2.2.2.1.later hx).facts.1; simpa using this⟩)
    have HD1 := hidC (show ∀ wx, LaterY w1 wx → Box wx w.heap.size 0 0 0 from fun wx hx => HS1.out.2.2.1.later hx)
    have HB1 := hidC (show ∀ wx, LaterY w1 wx → Below w.heap.size w wx from fun wx hx => HS1.out.2.1.trans (Below.mono hx HS1.out.2.1.size))
    have r1 : IntKind.i64.wrap (ys n0 + n1) = ys n0 + n1 := by rw [IntKind.wrap_i64]; omega
    have r2 : IntKind.i64.wrap (ys n0 + n1 - 1) = N := by rw [IntKind.wrap_i64]; omega
    have r3 : IntKind.i64.wrap N = N := by rw [IntKind.wrap_i64]; omega
    clear HS1
    first | go_region_held (fun wx => wx.cell? ⟨w.heap.size + 1, 0, none⟩ = some (.int .i64 n0) ∧ wx.cell? ⟨w.heap.size + 2, 0, none⟩ = some (.int .i64 n1)) (first | exact CC.out _ (by assumption) | go_keep) (first
      | (go_at_call 240; refine (HY.out _).mono ?_; rintro e w2 ⟨rfl, rfl⟩)
      | (go_at_call 203; refine (HD.out _ HA1.out).mono ?_; rintro e w3 ⟨rfl, hb3⟩; have s3 : LaterY w1 w3 := Below.trans s0 hb3; obtain ⟨c0, c1⟩ := CC.out _ s3; obtain ⟨g0, g1, g2, f0, f1, f2, gz⟩ := (HD1.out _ s3).facts)) | fail
    all_goals (obtain ⟨q0, q1, q2, _⟩ := ((HD1.out _ s3).put yy mm dd).facts)
    all_goals (go_wp2)
    all_goals (refine bodyPost_ret (by simp [results, Tryz.results199, go_sem, q0, q1, q2]; try rfl) rfl ?_)
    all_goals (exact ⟨rfl, (((HB1.out _ s3).setCell (Nat.le_refl _) _).setCell (Nat.le_refl _) _).setCell (Nat.le_refl _) _⟩)
  · have ER : rg t.size (sel3 0 p1 p1) (sel3 true (decide (1 ≤ n1 ∧ n1 ≤ 365 + lpN n0)) true) 2 0 = ((p1 : Int), 2) := by
      rw [rg_yes (k := 0) e0 rfl, rg_no (k := 1) e1 (by simp only [sel3]; exact decide_eq_false g1)]; rfl
    rw [ER] at HR
    have HV : Hid (ryV p1 n0 n1 = .tuple #[dV 0 0 0, .int .i64 30, .int .i64 (p1 : Int)]) := by unfold ryV; rw [if_neg g1]; exact rfl
    rw [HV.out]
    clear ER g1 HV
    unfold dV
    go_enter Tryz.func199, Tryz.ntmps199
    go_wp2_with fail
    refine (HR.out _ HW.out).mono ?_
    rintro e w1 ⟨rfl, hs⟩
    obtain ⟨k0, k1, k2, f0, f1, f2, _⟩ := hs.2.2.1.facts
    obtain ⟨d0, d1, d2, _⟩ := (hs.2.2.1.put 0 0 0).facts
    have HB := hidC hs.2.1
    clear hs HR HW
    go_wp2
    refine bodyPost_ret (by simp [results, Tryz.results199, go_sem, d0, d1, d2]; try rfl) rfl ?_
    exact ⟨rfl, ((HB.out.setCell (Nat.le_refl _) _).setCell (Nat.le_refl _) _).setCell (Nat.le_refl _) _⟩
end Go.Proofs.YtmgfdnccmeahjaaGreatDoor

namespace Go.Proofs.YtmgfdnccmeahjaaGreatDoor
open Go.RowKit
set_option maxRecDepth 100000

theorem of_good (n : Int) (h0 : 0 ≤ n) (h1 : n ≤ 3652424) (w : World) (hA : HasAh w) :
    Calls Tryz.prog 171 #[.int .i64 n] w fun e w' => e = .returned (.tuple #[dV (dY n) (dM n) (dD n), .int .i64 0]) ∧ Below w.heap.size w w' := by
  have HA : Hid (HasAh w) := hA
  have HD : Hid (_) := fun w h => dateOf_any n h0 h1 w h
  clear hA
  generalize dY n = y at *
  generalize dM n = m at *
  generalize dD n = d at *
  unfold dV at *
  go_enter Tryz.func171, Tryz.ntmps171
  go_wp2_with fail
  refine (HD.out _ (HA.out.alloc _)).mono ?_
  rintro e w1 ⟨rfl, hb1⟩
  obtain ⟨k0, k1, k2, hB, hz⟩ := date_cells w w1 _ _ _ hb1
  have hbx : Box w1 w.heap.size 0 0 0 := (Box.new w 0 0 0).later hb1
  obtain ⟨_, _, _, f0, f1, f2, _⟩ := hbx.facts
  obtain ⟨d0, d1, d2, _⟩ := (hbx.put y m d).facts
  clear hb1 HD hbx
  go_wp2
  refine bodyPost_ret (by simp [results, Tryz.results171, go_sem, d0, d1, d2]; try rfl) rfl ?_
  exact ⟨rfl, ((hB.setCell (Nat.le_refl _) _).setCell (Nat.le_refl _) _).setCell (Nat.le_refl _) _⟩

theorem of_bad (n : Int) (h : n < 0 ∨ 3652424 < n) (w : World) :
    Calls Tryz.prog 171 #[.int .i64 n] w fun e w' => e = .returned (.tuple #[dV 0 0 0, .int .i64 35]) ∧ Below w.heap.size w w' := by
  unfold dV
  by_cases h0 : n < 0
  · go_enter Tryz.func171, Tryz.ntmps171
    go_wp2
    go_returns
    exact ⟨rfl, (Below.refl _ _).alloc (Nat.le_refl _) _⟩
  · have h1 : 3652424 < n := by omega
    go_enter Tryz.func171, Tryz.ntmps171
    go_wp2
    go_returns
    exact ⟨rfl, (Below.refl _ _).alloc (Nat.le_refl _) _⟩

/-- a number made one from lo to hi -/
def wi (x lo hi : Int) : Int := lo + (if x < 0 then -(x + 1) else x) % (hi - lo + 1)

end Go.Proofs.YtmgfdnccmeahjaaGreatDoor

namespace Go.Proofs.YtmgfdnccmeahjaaGreatDoor
open Go.RowKit
set_option maxRecDepth 100000

/-- a week lies in block b -/
def WBox (w : World) (b : Nat) (y m d : Int) : Prop := w.heap[b]? = some (.cells #[.int .i64 y, .int .i64 m, .int .i64 d] 222 (0, 0))
theorem WBox.facts {w : World} {b : Nat} {y m d : Int} (h : WBox w b y m d) :
    w.cell? ⟨b, 0, none⟩ = some (.int .i64 y) ∧ w.cell? ⟨b, 1, none⟩ = some (.int .i64 m) ∧ w.cell? ⟨b, 2, none⟩ = some (.int .i64 d) ∧
    w.frozen? ⟨b, 0, none⟩ = false ∧ w.frozen? ⟨b, 1, none⟩ = false ∧ w.frozen? ⟨b, 2, none⟩ = false ∧ b < w.heap.size :=
  ⟨by rw [Lib.cell_of_heap h]; rfl, by rw [Lib.cell_of_heap h]; rfl, by rw [Lib.cell_of_heap h]; rfl, Lib.frozen_of_heap h 0, Lib.frozen_of_heap h 1, Lib.frozen_of_heap h 2, (Array.getElem?_eq_some_iff.1 h).1⟩
theorem WBox.later {w w' : World} {b : Nat} {y m d : Int} (h : WBox w b y m d) (hb : Below w.heap.size w w') : WBox w' b y m d := (hb.block b h.facts.2.2.2.2.2.2).trans h
theorem WBox.new (w : World) (y m d : Int) : WBox (w.alloc (.cells #[.int .i64 y, .int .i64 m, .int .i64 d] 222)) w.heap.size y m d := heap_alloc_new _ _
theorem WBox.put {w : World} {b : Nat} {y m d : Int} (h : WBox w b y m d) (y' m' d' : Int) :
    WBox (((w.setCell ⟨b, 0, none⟩ (.int .i64 y')).setCell ⟨b, 1, none⟩ (.int .i64 m')).setCell ⟨b, 2, none⟩ (.int .i64 d')) b y' m' d' :=
  Lib.heap_setCell_same (Lib.heap_setCell_same (Lib.heap_setCell_same h _) _) _

/-- the table still lies there, and nothing older than w0 has turned -/
def St (w0 w : World) : Prop := HasAh w ∧ Below w0.heap.size w0 w
theorem St.refl {w : World} (h : HasAh w) : St w w := ⟨h, Below.refl _ _⟩
theorem St.alloc {w0 w : World} (h : St w0 w) (o : _) : St w0 (w.alloc o) := ⟨h.1.alloc o, h.2.alloc h.2.size o⟩
theorem St.call {w0 w w' : World} (h : St w0 w) (hb : Below w.heap.size w w') : St w0 w' := ⟨h.1.below hb, h.2.trans (hb.mono h.2.size)⟩
theorem Box.later1 {w w' : World} {b : Nat} {y m d : Int} {o : _} (h : Box w b y m d) (hb : Below (w.alloc o).heap.size (w.alloc o) w') : Box w' b y m d := (h.later ((Below.refl _ _).alloc (Nat.le_refl _) _)).later hb
theorem WBox.later1 {w w' : World} {b : Nat} {y m d : Int} {o : _} (h : WBox w b y m d) (hb : Below (w.alloc o).heap.size (w.alloc o) w') : WBox w' b y m d := (h.later ((Below.refl _ _).alloc (Nat.le_refl _) _)).later hb
theorem weekday_any (n : Int) (h1 : -1000 ≤ n) (h2 : n ≤ 4000000) (w : World) :
    Calls Tryz.prog 270 #[.int .i64 n] w fun e w' => e = .returned (.int .i64 (wd n)) ∧ w' = w := by
  obtain ⟨r, hr, hr1, hr2, hwd⟩ : ∃ r : Int, n.tmod 7 = r ∧ -7 < r ∧ r < 7 ∧ wd n = (r + 7 + 5) % 7 := by
    by_cases h0 : 0 ≤ n
    · exact ⟨_, Int.tmod_eq_emod_of_nonneg h0, by omega, by omega, by unfold wd; omega⟩
    · refine ⟨-((-n) % 7), ?_, by omega, by omega, by unfold wd; omega⟩
      have : n = -(-n) := by omega
      rw [this, Int.neg_tmod, Int.tmod_eq_emod_of_nonneg (by omega), Int.neg_neg]
  have hq : (r + 7 + 5).tmod 7 = (r + 7 + 5) % 7 := Int.tmod_eq_emod_of_nonneg (by omega)
  have hb : 0 ≤ (r + 7 + 5) % 7 ∧ (r + 7 + 5) % 7 < 7 := by omega
  rw [hwd]
  clear hwd
  go_enter Tryz.func270, Tryz.ntmps270
  go_wp2
  go_ret
  exact ⟨by first | rfl | exact ret_intC (by omega), rfl⟩

theorem weekStart_any (y : Int) (h1 : -1 ≤ y) (h2 : y ≤ 10000) (w : World) :
    Calls Tryz.prog 266 #[.int .i64 y] w fun e w' => e = .returned (.int .i64 (wkS y)) ∧ w' = w := by
  have HY := hidC (yearStart_any y h1 h2 w)
  have hyb := ys_bounds y (by omega) (by omega)
  have hs : wkS y = ys y + 3 - wd (ys y + 3) := rfl
  have HD := hidC (fun w => weekday_any (ys y + 3) (by omega) (by omega) w)
  have hw := wd_lt (ys y + 3)
  rw [hs]
  clear hs
  generalize wd (ys y + 3) = b at *
  generalize ys y = a at *
  go_enter Tryz.func266, Tryz.ntmps266
  go_wp2_with fail
  refine Calls.mono HY.out ?_
  rintro e w' ⟨rfl, rfl⟩
  go_wp2_with fail
  refine (HD.out _).mono ?_
  rintro e w' ⟨rfl, rfl⟩
  go_wp2
  go_ret
  exact ⟨rfl, rfl⟩

theorem yearWeeks_any (y : Int) (h1 : -1 ≤ y) (h2 : y ≤ 9999) (w : World) :
    Calls Tryz.prog 243 #[.int .i64 y] w fun e w' => e = .returned (.int .i64 (wkN y)) ∧ w' = w := by
  have H1 := hidC (fun w => weekStart_any (y + 1) (by omega) (by omega) w)
  have H2 := hidC (fun w => weekStart_any y (by omega) (by omega) w)
  have hn := wkN_is y
  have ha := wkS_near y
  have hb := ys_bounds y (by omega) (by omega)
  have hs : wkN y = (wkS (y + 1) - wkS y) / 7 := rfl
  have hq : (wkS (y + 1) - wkS y).tdiv 7 = (wkS (y + 1) - wkS y) / 7 := Int.tdiv_eq_ediv_of_nonneg (by omega)
  rw [← hs] at hq
  have hbb : -1000 ≤ wkS y ∧ wkS y ≤ 4000000 := by omega
  have hbc : -1000 ≤ wkS (y + 1) ∧ wkS (y + 1) ≤ 4000000 := by omega
  have hbd : 52 ≤ wkN y ∧ wkN y ≤ 53 := by omega
  clear hs hn ha hb
  generalize wkN y = c at *
  generalize wkS (y + 1) = a at *
  generalize wkS y = b at *
  go_enter Tryz.func243, Tryz.ntmps243
  go_wp2_with fail
  refine (H1.out _).mono ?_
  rintro e w' ⟨rfl, rfl⟩
  go_wp2_with fail
  refine (H2.out _).mono ?_
  rintro e w' ⟨rfl, rfl⟩
  go_wp2
  go_ret
  exact ⟨rfl, rfl⟩

end Go.Proofs.YtmgfdnccmeahjaaGreatDoor

namespace Go.Proofs.YtmgfdnccmeahjaaGreatDoor
open Go.RowKit
set_option maxRecDepth 100000

/-- a week that may be -/
abbrev OkW (y k d : Int) : Prop := -1 ≤ y ∧ y ≤ 9999 ∧ 1 ≤ k ∧ k ≤ wkN y ∧ 1 ≤ d ∧ d ≤ 7
/-- the number of a week's day -/
def wkD (y k d : Int) : Int := wkS y + 7 * (k - 1) + d - 1

end Go.Proofs.YtmgfdnccmeahjaaGreatDoor

namespace Go.Proofs.YtmgfdnccmeahjaaGreatDoor
open Go.RowKit
set_option maxRecDepth 100000

/-- nothing old has turned -/
def LaterB (w w' : World) : Prop := Below w.heap.size w w'

/-- Of's answer -/
def ofV (n : Int) : Value := if 0 ≤ n ∧ n ≤ 3652424 then .tuple #[dV (dY n) (dM n) (dD n), .int .i64 0] else .tuple #[dV 0 0 0, .int .i64 35]

theorem of_any (n : Int) (w : World) (hA : HasAh w) :
    Calls Tryz.prog 171 #[.int .i64 n] w fun e w' => e = .returned (ofV n) ∧ Below w.heap.size w w' := by
  unfold ofV
  by_cases h : 0 ≤ n ∧ n ≤ 3652424
  · rw [if_pos h]; exact of_good n h.1 h.2 w hA
  · rw [if_neg h]; exact of_bad n (by omega) w

theorem ofV_is (n : Int) : ∃ y m d e : Int, ofV n = .tuple #[dV y m d, .int .i64 e] := by
  unfold ofV
  by_cases h : 0 ≤ n ∧ n ≤ 3652424
  · rw [if_pos h]; exact ⟨_, _, _, _, rfl⟩
  · rw [if_neg h]; exact ⟨_, _, _, _, rfl⟩

set_option maxHeartbeats 1000000 in
theorem fromWeek_good (y k d : Int) (h : OkW y k d) (w : World) (hA : HasAh w) :
    Calls Tryz.prog 245 #[dV y k d] w fun e w' => e = .returned (ofV (wkD y k d)) ∧ Below w.heap.size w w' := by
  obtain ⟨h1, h2, h3, h4, h5, h6⟩ := h
  have HN := hidC (fun w => yearWeeks_any y (by omega) (by omega) w)
  have HS := hidC (fun w => weekStart_any y (by omega) (by omega) w)
  have hwn := wkN_is y
  have hwd : wkS y + 7 * (k - 1) + d - 1 = wkD y k d := rfl
  have hnear := wkS_near y
  have hyb := ys_bounds y (by omega) (by omega)
  have HO := hidC (fun w hA => of_any (wkD y k d) w hA)
  have HA := hidC hA
  obtain ⟨y1, m1, d1, e1, hof⟩ := ofV_is (wkD y k d)
  rw [hof] at HO ⊢
  have hb1 : -1000 ≤ wkS y ∧ wkS y ≤ 4000000 := by omega
  have hb2 : 1 ≤ k ∧ k ≤ 53 := by omega
  have b1 : decide (y < -1) = false := decide_eq_false (by omega)
  have b2 : decide (9999 < y) = false := decide_eq_false (by omega)
  have b3 : decide (k < 1) = false := decide_eq_false (by omega)
  have b4 : decide (wkN y < k) = false := decide_eq_false (by omega)
  have b5 : decide (d < 1) = false := decide_eq_false (by omega)
  have b6 : decide (7 < d) = false := decide_eq_false (by omega)
  clear hof hwn hnear hyb h1 h2 h4 hA
  generalize wkD y k d = n at *
  generalize wkS y = s at *
  generalize wkN y = c at *
  unfold dV at *
  go_enter Tryz.func245, Tryz.ntmps245
  go_wp2_with fail
  go_quiet (first
    | (go_at_call 243; exact Calls.quiet_of_same (HN.out _)))
  clear b1 b2 b3 b4 b5 b6 HN
  go_upto_region 3 with fail
  have hA1 : HasAh (World.drewN ((w.alloc (.cells #[.int .i64 y, .int .i64 k, .int .i64 d] 222)).alloc (.cells #[.int .i64 0, .int .i64 0, .int .i64 0] 187)) nq) := ((HA.out.alloc _).alloc _).drewN nq
  have hW1 : WBox (World.drewN ((w.alloc (.cells #[.int .i64 y, .int .i64 k, .int .i64 d] 222)).alloc (.cells #[.int .i64 0, .int .i64 0, .int .i64 0] 187)) nq) w.heap.size y k d := (WBox.new w y k d).later1 (below_drewN (Below.refl _ _) nq)
  have hD1 : Box (World.drewN ((w.alloc (.cells #[.int .i64 y, .int .i64 k, .int .i64 d] 222)).alloc (.cells #[.int .i64 0, .int .i64 0, .int .i64 0] 187)) nq) (w.heap.size + 1) 0 0 0 := by
    have h := (Box.new (w.alloc (.cells #[.int .i64 y, .int .i64 k, .int .i64 d] 222)) 0 0 0).later (below_drewN (Below.refl _ _) nq)
    simpa using h
  have hB1 : Below w.heap.size w (World.drewN ((w.alloc (.cells #[.int .i64 y, .int .i64 k, .int .i64 d] 222)).alloc (.cells #[.int .i64 0, .int .i64 0, .int .i64 0] 187)) nq) := below_drewN (((Below.refl _ _).alloc (Nat.le_refl _) _).alloc (by simp) _) nq
  generalize World.drewN ((w.alloc (.cells #[.int .i64 y, .int .i64 k, .int .i64 d] 222)).alloc (.cells #[.int .i64 0, .int .i64 0, .int .i64 0] 187)) nq = w1 at *
  have HA1 := hidC (hA1.below ((Below.refl _ _).drew))
  have HD1 := hidC hD1
  have cc : ∀ wx, LaterB w1 wx → wx.cell? ⟨w.heap.size, 0, none⟩ = some (.int .i64 y) ∧ wx.cell? ⟨w.heap.size, 1, none⟩ = some (.int .i64 k) ∧ wx.cell? ⟨w.heap.size, 2, none⟩ = some (.int .i64 d) := fun wx hx => by
    obtain ⟨c0, c1, c2, _⟩ := (hW1.later hx).facts
    exact ⟨c0, c1, c2⟩
  have CC := hidC cc
  have s0 : LaterB w1 w1.drew := (Below.refl _ _).drew
  have r1 : IntKind.i64.wrap (k - 1) = k - 1 := by rw [IntKind.wrap_i64]; omega
  have r2 : IntKind.i64.wrap (7 * (k - 1)) = 7 * (k - 1) := by rw [IntKind.wrap_i64]; omega
  have r3 : IntKind.i64.wrap (s + 7 * (k - 1)) = s + 7 * (k - 1) := by rw [IntKind.wrap_i64]; omega
  have r4 : IntKind.i64.wrap (s + 7 * (k - 1) + d) = s + 7 * (k - 1) + d := by rw [IntKind.wrap_i64]; omega
  have r5 : IntKind.i64.wrap (s + 7 * (k - 1) + d - 1) = n := by rw [IntKind.wrap_i64]; omega
  have r6 : IntKind.i64.wrap n = n := by rw [IntKind.wrap_i64]; omega
  clear hA1 hW1 hD1 HA cc
  first | go_region_held (fun wx => wx.cell? ⟨w.heap.size, 0, none⟩ = some (.int .i64 y) ∧ wx.cell? ⟨w.heap.size, 1, none⟩ = some (.int .i64 k) ∧ wx.cell? ⟨w.heap.size, 2, none⟩ = some (.int .i64 d)) (first | exact CC.out _ (by assumption) | go_keep) (first
    | (go_at_call 266; refine (HS.out _).mono ?_; rintro e w2 ⟨rfl, rfl⟩)
    | (go_at_call 171; refine (HO.out _ HA1.out).mono ?_; rintro e w3 ⟨rfl, hb3⟩; have s3 : LaterB w1 w3 := Below.trans s0 hb3; obtain ⟨c0, c1, c2⟩ := CC.out _ s3; obtain ⟨g0, g1, g2, f0, f1, f2, gz⟩ := (HD1.out.later s3).facts)) | fail
  all_goals (obtain ⟨q0, q1, q2, _⟩ := ((HD1.out.later s3).put y1 m1 d1).facts)
  all_goals (go_wp2)
  all_goals (refine bodyPost_ret (by simp [results, Tryz.results245, go_sem, q0, q1, q2]; try rfl) rfl ?_)
  all_goals (exact ⟨rfl, (((hB1.trans (Below.mono s3 hB1.size)).setCell (by simp) _).setCell (by simp) _).setCell (by simp) _⟩)
end Go.Proofs.YtmgfdnccmeahjaaGreatDoor

namespace Go.Proofs.YtmgfdnccmeahjaaGreatDoor
open Go.RowKit
set_option maxRecDepth 100000

theorem WBox.put0 {w : World} {b : Nat} {y m d : Int} (h : WBox w b y m d) (y' : Int) : WBox (w.setCell ⟨b, 0, none⟩ (.int .i64 y')) b y' m d := Lib.heap_setCell_same h _
theorem WBox.put1 {w : World} {b : Nat} {y m d : Int} (h : WBox w b y m d) (m' : Int) : WBox (w.setCell ⟨b, 1, none⟩ (.int .i64 m')) b y m' d := Lib.heap_setCell_same h _
theorem WBox.put2 {w : World} {b : Nat} {y m d : Int} (h : WBox w b y m d) (d' : Int) : WBox (w.setCell ⟨b, 2, none⟩ (.int .i64 d')) b y m d' := Lib.heap_setCell_same h _

/-- the parts of a day's text lie there, and the day as far as it is read -/
def SW (w0 : World) (n0 n1 n2 : Int) (k : Nat) (w : World) : Prop :=
  HasAh w ∧ Below w0.heap.size w0 w ∧ Box w w0.heap.size 0 0 0 ∧ WBox w (w0.heap.size + 1) (if 1 ≤ k then n0 else 0) (if 2 ≤ k then n1 else 0) (if 3 ≤ k then n2 else 0) ∧
  w.heap[w0.heap.size + 2]? = some (.cells #[.int .i64 4, .func (.func 241) #[] #[.pointer (some ⟨w0.heap.size + 1, 0, none⟩)], .int .i64 2, .func (.func 242) #[] #[.pointer (some ⟨w0.heap.size + 1, 0, none⟩)], .int .i64 1, .func (.func 244) #[] #[.pointer (some ⟨w0.heap.size + 1, 0, none⟩)]] 285 (0, 0))

/-- a date of zeros; the parts -/
abbrev zW : Obj := .cells #[.int .i64 0, .int .i64 0, .int .i64 0] 222
abbrev ptW (b : Nat) : Obj := .cells #[.int .i64 4, .func (.func 241) #[] #[.pointer (some ⟨b + 1, 0, none⟩)], .int .i64 2, .func (.func 242) #[] #[.pointer (some ⟨b + 1, 0, none⟩)], .int .i64 1, .func (.func 244) #[] #[.pointer (some ⟨b + 1, 0, none⟩)]] 285

theorem SW.start (w : World) (hA : HasAh w) (n0 n1 n2 : Int) : SW w n0 n1 n2 0 (((w.alloc zD).alloc zW).alloc (ptW w.heap.size)) := by
  have s1 : (w.alloc zD).heap.size = w.heap.size + 1 := by simp
  have s2 : ((w.alloc zD).alloc zW).heap.size = w.heap.size + 2 := by simp
  refine ⟨((hA.alloc _).alloc _).alloc _, (((Below.refl _ _).alloc (Nat.le_refl _) _).alloc (by omega) _).alloc (by omega) _, ?_, ?_, ?_⟩
  · exact ((Box.new w 0 0 0).later (alloc_below _ zW)).later (alloc_below _ (ptW w.heap.size))
  · have h := (WBox.new (w.alloc zD) 0 0 0).later (alloc_below _ (ptW w.heap.size))
    rw [s1] at h
    exact h
  · have h := heap_alloc_new ((w.alloc zD).alloc zW) (ptW w.heap.size)
    rw [s2] at h
    exact h

theorem SW.stable {w0 w w' : World} {n0 n1 n2 : Int} {k : Nat} (h : SW w0 n0 n1 n2 k w) (hb : Below w.heap.size w w') : SW w0 n0 n1 n2 k w' :=
  ⟨h.1.below hb, h.2.1.trans (hb.mono h.2.1.size), h.2.2.1.later hb, h.2.2.2.1.later hb, (hb.block _ (Array.getElem?_eq_some_iff.1 h.2.2.2.2).1).trans h.2.2.2.2⟩

theorem SW.size {w0 w : World} {n0 n1 n2 : Int} {k : Nat} (h : SW w0 n0 n1 n2 k w) : w0.heap.size + 3 ≤ w.heap.size := by
  have := (Array.getElem?_eq_some_iff.1 h.2.2.2.2).1
  omega

theorem SW.set {w0 w : World} {n0 n1 n2 : Int} {k : Nat} (h : SW w0 n0 n1 n2 k w) (hG : HasAh w0) (j : Nat) (v : Value)
    (hb : WBox (w.setCell ⟨w0.heap.size + 1, j, none⟩ v) (w0.heap.size + 1) (if 1 ≤ k + 1 then n0 else 0) (if 2 ≤ k + 1 then n1 else 0) (if 3 ≤ k + 1 then n2 else 0)) :
    SW w0 n0 n1 n2 (k + 1) (w.setCell ⟨w0.heap.size + 1, j, none⟩ v) := by
  refine ⟨h.1.belowAt ((Below.refl w0.heap.size w).setCell (by show w0.heap.size ≤ w0.heap.size + 1; omega) _) hG.lt, h.2.1.setCell (by show w0.heap.size ≤ w0.heap.size + 1; omega) _, ?_, hb, ?_⟩
  · unfold Box
    rw [Below.heap_setCell _ _ _ _ (by show w0.heap.size ≠ w0.heap.size + 1; omega)]
    exact h.2.2.1
  · rw [Below.heap_setCell _ _ _ _ (by show w0.heap.size + 2 ≠ w0.heap.size + 1; omega)]
    exact h.2.2.2.2

theorem wlo1_any (w0 w : World) (n0 n1 n2 : Int) (hG : HasAh w0) (h : SW w0 n0 n1 n2 0 w) :
    Calls Tryz.prog 241 #[.int .i64 n0, .pointer (some ⟨w0.heap.size + 1, 0, none⟩)] w fun e w' => e = .returned (.bool true) ∧ SW w0 n0 n1 n2 1 w' ∧ ∀ x, w0.heap.size + 3 ≤ x → x < w.heap.size → w'.heap[x]? = w.heap[x]? := by
  have R := hidC (h.set hG 0 (.int .i64 n0) (by have := h.2.2.2.1.put0 n0; simpa using this))
  obtain ⟨c0, c1, c2, f0, f1, f2, _⟩ := h.2.2.2.1.facts
  have FR := hidC (set_frame w (w0.heap.size + 1) 0 (.int .i64 n0) (w0.heap.size + 3) (by omega))
  clear h
  go_enter Tryz.func241, Tryz.ntmps241
  go_wp2
  go_ret
  exact ⟨rfl, R.out, FR.out⟩

set_option maxHeartbeats 1000000 in
theorem wlo2_any (w0 w : World) (n0 n1 n2 : Int) (hn : 0 ≤ n0 ∧ n0 ≤ 9999) (hG : HasAh w0) (h : SW w0 n0 n1 n2 1 w) :
    Calls Tryz.prog 242 #[.int .i64 n1, .pointer (some ⟨w0.heap.size + 1, 0, none⟩)] w fun e w' => e = .returned (.bool (decide (1 ≤ n1 ∧ n1 ≤ wkN n0))) ∧ SW w0 n0 n1 n2 2 w' ∧ ∀ x, w0.heap.size + 3 ≤ x → x < w.heap.size → w'.heap[x]? = w.heap[x]? := by
  have R := hidC (h.set hG 1 (.int .i64 n1) (by have := h.2.2.2.1.put1 n1; simpa using this))
  obtain ⟨c0, c1, c2, f0, f1, f2, _⟩ := h.2.2.2.1.facts
  obtain ⟨e0, e1, e2, _⟩ := R.out.2.2.2.1.facts
  have FR := hidC (set_frame w (w0.heap.size + 1) 1 (.int .i64 n1) (w0.heap.size + 3) (by omega))
  have HN := hidC (fun w => yearWeeks_any n0 (by omega) (by omega) w)
  have hw := (wkN_is n0).2
  simp at c0 c1 c2 e0 e1 e2
  generalize wkN n0 = c at *
  clear h hn
  by_cases h1 : 1 ≤ n1
  · by_cases h2 : n1 ≤ c
    all_goals
      go_enter Tryz.func242, Tryz.ntmps242
      go_wp2_with (go_at_call 243; refine (HN.out _).mono ?_; rintro e w' ⟨rfl, rfl⟩)
      go_ret
      exact ⟨ret_boolC (by simp [h1, h2]), R.out, FR.out⟩
  · go_enter Tryz.func242, Tryz.ntmps242
    go_wp2
    go_ret
    exact ⟨ret_boolC (by simp; omega), R.out, FR.out⟩

theorem wlo3_any (w0 w : World) (n0 n1 n2 : Int) (hG : HasAh w0) (h : SW w0 n0 n1 n2 2 w) :
    Calls Tryz.prog 244 #[.int .i64 n2, .pointer (some ⟨w0.heap.size + 1, 0, none⟩)] w fun e w' => e = .returned (.bool (decide (1 ≤ n2 ∧ n2 ≤ 7))) ∧ SW w0 n0 n1 n2 3 w' ∧ ∀ x, w0.heap.size + 3 ≤ x → x < w.heap.size → w'.heap[x]? = w.heap[x]? := by
  have R := hidC (h.set hG 2 (.int .i64 n2) (by have := h.2.2.2.1.put2 n2; simpa using this))
  obtain ⟨c0, c1, c2, f0, f1, f2, _⟩ := h.2.2.2.1.facts
  have FR := hidC (set_frame w (w0.heap.size + 1) 2 (.int .i64 n2) (w0.heap.size + 3) (by omega))
  clear h
  by_cases h1 : 1 ≤ n2
  · by_cases h2 : n2 ≤ 7
    all_goals
      go_enter Tryz.func244, Tryz.ntmps244
      go_wp2
      go_ret
      exact ⟨ret_boolC (by simp [h1, h2]), R.out, FR.out⟩
  · go_enter Tryz.func244, Tryz.ntmps244
    go_wp2
    go_ret
    exact ⟨ret_boolC (by simp; omega), R.out, FR.out⟩

/-- a day by its number, with no place -/
def ofT (n : Int) : Value := if 0 ≤ n ∧ n ≤ 3652424 then .tuple #[dV (dY n) (dM n) (dD n), .int .i64 0, .int .i64 0] else .tuple #[dV 0 0 0, .int .i64 35, .int .i64 0]
theorem ofVT (n : Int) : ∃ y m d e : Int, ofV n = .tuple #[dV y m d, .int .i64 e] ∧ ofT n = .tuple #[dV y m d, .int .i64 e, .int .i64 0] := by
  unfold ofV ofT
  split
  · exact ⟨_, _, _, _, rfl, rfl⟩
  · exact ⟨_, _, _, _, rfl, rfl⟩
/-- the answer of readDayOfWeek -/
def rwV (p1 p2 : Nat) (n0 n1 n2 : Int) : Value := if 1 ≤ n1 ∧ n1 ≤ wkN n0 then if 1 ≤ n2 ∧ n2 ≤ 7 then ofT (wkD n0 n1 n2) else .tuple #[dV 0 0 0, .int .i64 30, .int .i64 (p2 : Int)] else .tuple #[dV 0 0 0, .int .i64 30, .int .i64 (p1 : Int)]

set_option maxHeartbeats 1000000 in
theorem readDayOfWeek_any (t : ByteArray) (ht : t.size ≤ 64) (p1 p2 : Nat) (h0 : sk t.data.toList 0 = 0) (h1 : sk t.data.toList 4 = p1) (h2 : sk t.data.toList (p1 + 2) = p2)
    (l0 : 4 ≤ t.size ∧ 0 ≠ t.size ∧ ∀ c ∈ subC t.data.toList 0 4, isDBC c = true) (l1 : p1 + 2 ≤ t.size ∧ p1 ≠ t.size ∧ ∀ c ∈ subC t.data.toList p1 2, isDBC c = true) (l2 : p2 + 1 ≤ t.size ∧ p2 ≠ t.size ∧ ∀ c ∈ subC t.data.toList p2 1, isDBC c = true)
    (w : World) (hA : HasAh w) :
    Calls Tryz.prog 200 #[.string t] w fun e w' => e = .returned (rwV p1 p2 (nm (subC t.data.toList 0 4)) (nm (subC t.data.toList p1 2)) (nm (subC t.data.toList p2 1))) ∧ Below w.heap.size w w' := by
  have hmf : ∀ (fn : Fn) (first cap : Array Value) (w : World), (Instr.makeFunc fn first cap).run Tryz.prog w = .ok (.func fn first cap) w := fun _ _ _ _ => rfl
  obtain ⟨n0, hn0⟩ : ∃ n : Int, n = (nm (subC t.data.toList 0 4) : Int) := ⟨_, rfl⟩
  obtain ⟨n1, hn1⟩ : ∃ n : Int, n = (nm (subC t.data.toList p1 2) : Int) := ⟨_, rfl⟩
  obtain ⟨n2, hn2⟩ : ∃ n : Int, n = (nm (subC t.data.toList p2 1) : Int) := ⟨_, rfl⟩
  have hb0 : 0 ≤ n0 ∧ n0 ≤ 9999 := by
    have h := nm_lt (subC t.data.toList 0 4) l0.2.2
    rw [sub_lenC _ _ _ (by rw [Array.length_toList]; exact l0.1)] at h
    omega
  rw [← hn0, ← hn1, ← hn2]
  have HR := hidC (fun w1 hw => refused_any t ht 3 (w.heap.size + 2) (sel3 4 2 1) (sel3 241 242 244) (sel3 0 p1 p2) (fun _ => #[.pointer (some ⟨w.heap.size + 1, 0, none⟩)])
    (sel3 true (decide (1 ≤ n1 ∧ n1 ≤ wkN n0)) (decide (1 ≤ n2 ∧ n2 ≤ 7))) (SW w n0 n1 n2) (w.heap.size + 3) (by omega)
    (fun k => match k with
      | 0 => eg_of Tryz.func241 (by kernel_rfl) rfl
      | 1 => eg_of Tryz.func242 (by kernel_rfl) rfl
      | _ + 2 => eg_of Tryz.func244 (by kernel_rfl) rfl)
    (fun k w w' h hb => h.stable hb) (fun k w h => h.size)
    (fun k j w hj h => by
      match j, hj with
      | 0, _ => exact ⟨by rw [Lib.cell_of_heap h.2.2.2.2]; rfl, by rw [Lib.cell_of_heap h.2.2.2.2]; rfl⟩
      | 1, _ => exact ⟨by rw [Lib.cell_of_heap h.2.2.2.2]; rfl, by rw [Lib.cell_of_heap h.2.2.2.2]; rfl⟩
      | 2, _ => exact ⟨by rw [Lib.cell_of_heap h.2.2.2.2]; rfl, by rw [Lib.cell_of_heap h.2.2.2.2]; rfl⟩)
    h0 (fun k hk _ => by
      match k, hk with
      | 0, _ => exact h1
      | 1, _ => exact h2)
    (fun k hk => by
      match k, hk with
      | 0, _ => exact .inr ⟨l0.1, by decide, by decide, l0.2.2⟩
      | 1, _ => exact .inr ⟨l1.1, by decide, by decide, l1.2.2⟩
      | 2, _ => exact .inr ⟨l2.1, by decide, by decide, l2.2.2⟩)
    (fun k wx hk _ h => by
      match k, hk with
      | 0, _ => exact (by rw [← hn0]; exact wlo1_any w wx n0 n1 n2 hA h : Calls Tryz.prog _ #[.int .i64 (nm (subC t.data.toList 0 4) : Int), .pointer (some ⟨w.heap.size + 1, 0, none⟩)] wx _)
      | 1, _ => exact (by rw [← hn1]; exact wlo2_any w wx n0 n1 n2 hb0 hA h : Calls Tryz.prog _ #[.int .i64 (nm (subC t.data.toList p1 2) : Int), .pointer (some ⟨w.heap.size + 1, 0, none⟩)] wx _)
      | 2, _ => exact (by rw [← hn2]; exact wlo3_any w wx n0 n1 n2 hA h : Calls Tryz.prog _ #[.int .i64 (nm (subC t.data.toList p2 1) : Int), .pointer (some ⟨w.heap.size + 1, 0, none⟩)] wx _))
    w1 hw)
  have HW := hidC (SW.start w hA n0 n1 n2)
  have e0 : (0 : Nat) ≠ t.size := l0.2.1
  have e1 := l1.2.1
  have e2 := l2.2.1
  clear h0 h1 h2 l0 l1 l2 hn0 hn1 hn2 hA
  by_cases g1 : 1 ≤ n1 ∧ n1 ≤ wkN n0
  · by_cases g2 : 1 ≤ n2 ∧ n2 ≤ 7
    · have ER : rg t.size (sel3 0 p1 p2) (sel3 true (decide (1 ≤ n1 ∧ n1 ≤ wkN n0)) (decide (1 ≤ n2 ∧ n2 ≤ 7))) 3 0 = (-1, 3) := by
        rw [rg_yes (k := 0) e0 rfl, rg_yes (k := 1) e1 (by simp [sel3, g1]), rg_yes (k := 2) e2 (by simp [sel3, g2])]; rfl
      rw [ER] at HR
      obtain ⟨y1, m1, d1, e1, hv, ht1⟩ := ofVT (wkD n0 n1 n2)
      have HV : Hid (rwV p1 p2 n0 n1 n2 = .tuple #[dV y1 m1 d1, .int .i64 e1, .int .i64 0]) := by unfold rwV; rw [if_pos g1, if_pos g2]; exact ht1
      have HF := hidC (fun w hA => fromWeek_good n0 n1 n2 ⟨by omega, hb0.2, g1.1, g1.2, g2.1, g2.2⟩ w hA)
      rw [hv] at HF
      rw [HV.out]
      clear ER g1 g2 HV hv ht1 hb0
      unfold dV at *
      go_enter Tryz.func200, Tryz.ntmps200
      go_wp2_with fail
      refine (HR.out _ HW.out).mono ?_
      rintro e w1 ⟨rfl, hs⟩
      obtain ⟨c0, c1, c2, _⟩ := hs.2.2.2.1.facts
      simp at c0 c1 c2
      have HS1 := hidC hs
      clear hs HR HW
      go_wp2_with fail
      refine (HF.out _ HS1.out.1).mono ?_
      rintro e w2 ⟨rfl, hb2⟩
      have HS2 := hidC (HS1.out.stable hb2)
      clear hb2 HF HS1 c0 c1 c2
      have hx : Box (w2.alloc (.cells #[.int .i64 y1, .int .i64 m1, .int .i64 d1] 187)) w.heap.size 0 0 0 := HS2.out.2.2.1.later (alloc_below _ _)
      obtain ⟨k0, k1, k2, f0, f1, f2, _⟩ := hx.facts
      obtain ⟨q0, q1, q2, _⟩ := (hx.put y1 m1 d1).facts
      have HB := hidC (show Below w.heap.size w (w2.alloc (.cells #[.int .i64 y1, .int .i64 m1, .int .i64 d1] 187)) from HS2.out.2.1.alloc HS2.out.2.1.size _)
      clear hx
      go_wp2
      refine bodyPost_ret (by simp [results, Tryz.results200, go_sem, q0, q1, q2]; try rfl) rfl ?_
      exact ⟨rfl, ((HB.out.setCell (Nat.le_refl _) _).setCell (Nat.le_refl _) _).setCell (Nat.le_refl _) _⟩
    · have ER : rg t.size (sel3 0 p1 p2) (sel3 true (decide (1 ≤ n1 ∧ n1 ≤ wkN n0)) (decide (1 ≤ n2 ∧ n2 ≤ 7))) 3 0 = ((p2 : Int), 3) := by
        rw [rg_yes (k := 0) e0 rfl, rg_yes (k := 1) e1 (by simp [sel3, g1]), rg_no (k := 2) e2 (by simp only [sel3]; exact decide_eq_false g2)]; rfl
      rw [ER] at HR
      have HV : Hid (rwV p1 p2 n0 n1 n2 = .tuple #[dV 0 0 0, .int .i64 30, .int .i64 (p2 : Int)]) := by unfold rwV; rw [if_pos g1, if_neg g2]; exact rfl
      rw [HV.out]
      clear ER g1 g2 HV
      unfold dV
      go_enter Tryz.func200, Tryz.ntmps200
      go_wp2_with fail
      refine (HR.out _ HW.out).mono ?_
      rintro e w1 ⟨rfl, hs⟩
      obtain ⟨k0, k1, k2, f0, f1, f2, _⟩ := hs.2.2.1.facts
      obtain ⟨d0, d1, d2, _⟩ := (hs.2.2.1.put 0 0 0).facts
      have HB := hidC hs.2.1
      clear hs HR HW
      go_wp2
      refine bodyPost_ret (by simp [results, Tryz.results200, go_sem, d0, d1, d2]; try rfl) rfl ?_
      exact ⟨rfl, ((HB.out.setCell (Nat.le_refl _) _).setCell (Nat.le_refl _) _).setCell (Nat.le_refl _) _⟩
  · have ER : rg t.size (sel3 0 p1 p2) (sel3 true (decide (1 ≤ n1 ∧ n1 ≤ wkN n0)) (decide (1 ≤ n2 ∧ n2 ≤ 7))) 3 0 = ((p1 : Int), 2) := by
      rw [rg_yes (k := 0) e0 rfl, rg_no (k := 1) e1 (by simp only [sel3]; exact decide_eq_false g1)]; rfl
    rw [ER] at HR
    have HV : Hid (rwV p1 p2 n0 n1 n2 = .tuple #[dV 0 0 0, .int .i64 30, .int .i64 (p1 : Int)]) := by unfold rwV; rw [if_neg g1]; exact rfl
    rw [HV.out]
    clear ER g1 HV
    unfold dV
    go_enter Tryz.func200, Tryz.ntmps200
    go_wp2_with fail
    refine (HR.out _ HW.out).mono ?_
    rintro e w1 ⟨rfl, hs⟩
    obtain ⟨k0, k1, k2, f0, f1, f2, _⟩ := hs.2.2.1.facts
    obtain ⟨d0, d1, d2, _⟩ := (hs.2.2.1.put 0 0 0).facts
    have HB := hidC hs.2.1
    clear hs HR HW
    go_wp2
    refine bodyPost_ret (by simp [results, Tryz.results200, go_sem, d0, d1, d2]; try rfl) rfl ?_
    exact ⟨rfl, ((HB.out.setCell (Nat.le_refl _) _).setCell (Nat.le_refl _) _).setCell (Nat.le_refl _) _⟩
end Go.Proofs.YtmgfdnccmeahjaaGreatDoor

namespace Go.Proofs.YtmgfdnccmeahjaaGreatDoor
open Go.RowKit
set_option maxRecDepth 100000

/-- the number of some digits of a text -/
def nt (t : ByteArray) (a k : Nat) : Int := (nm (subC t.data.toList a k) : Int)

/-- an answer of three -/
def rT (y m d e p : Int) : Value := .tuple #[dV y m d, .int .i64 e, .int .i64 p]
theorem rdV_is (p1 p2 : Nat) (n0 n1 n2 : Int) : ∃ y m d e p, rdV p1 p2 n0 n1 n2 = rT y m d e p := by
  unfold rdV
  split
  · split
    · exact ⟨_, _, _, _, _, rfl⟩
    · exact ⟨_, _, _, _, _, rfl⟩
  · exact ⟨_, _, _, _, _, rfl⟩
theorem ryV_is (p1 : Nat) (n0 n1 : Int) : ∃ y m d e p, ryV p1 n0 n1 = rT y m d e p := by
  unfold ryV
  split
  · exact ⟨_, _, _, _, _, rfl⟩
  · exact ⟨_, _, _, _, _, rfl⟩
theorem rwV_is (p1 p2 : Nat) (n0 n1 n2 : Int) : ∃ y m d e p, rwV p1 p2 n0 n1 n2 = rT y m d e p := by
  unfold rwV ofT
  split
  · split
    · split
      · exact ⟨_, _, _, _, _, rfl⟩
      · exact ⟨_, _, _, _, _, rfl⟩
    · exact ⟨_, _, _, _, _, rfl⟩
  · exact ⟨_, _, _, _, _, rfl⟩

/-- the answer for a text that has the shape k -/
def shA (t : ByteArray) (k : Nat) : Value :=
  match k with
  | 0 => rdV 5 8 (nt t 0 4) (nt t 5 2) (nt t 8 2)
  | 1 => rdV 4 6 (nt t 0 4) (nt t 4 2) (nt t 6 2)
  | 2 => ryV 5 (nt t 0 4) (nt t 5 3)
  | 3 => ryV 4 (nt t 0 4) (nt t 4 3)
  | 4 => rwV 6 9 (nt t 0 4) (nt t 6 2) (nt t 9 1)
  | _ => rwV 5 7 (nt t 0 4) (nt t 5 2) (nt t 7 1)

theorem shapes_any (w : World) : Calls Tryz.prog 197 #[] w fun e w' => e = .returned (.slice (some ⟨w.heap.size, 0, none⟩) 6 6) ∧ w' = w.alloc dsO := by
  go_enter Tryz.func197, Tryz.ntmps197
  go_wp2
  go_ret
  exact ⟨rfl, rfl⟩

/-- the world behind fit -/
theorem fit_ds (t : ByteArray) (ht : t.size ≤ 64) (w : World) : Calls Tryz.prog 196 #[.string t, .slice (some ⟨w.heap.size, 0, none⟩) 6 6] (w.alloc dsO) fun e w' => e = .returned (.tuple #[.int .i64 (fitL t.data.toList (SS DS) 0 0).1, .int .i64 ((fitL t.data.toList (SS DS) 0 0).2 : Nat)]) ∧ Below w.heap.size w w' := by
  refine (fit_any t ht DS DS_small (by decide) w.heap.size (w.alloc dsO) (ShB.ds (heap_alloc_new _ _))).mono ?_
  rintro e w' ⟨rfl, n, rfl⟩
  exact ⟨rfl, below_drewN ((Below.refl _ _).alloc (Nat.le_refl _) _) n⟩

theorem parse_long (t : ByteArray) (ht : 64 < t.size) (w : World) : Calls Tryz.prog 169 #[.string t] w fun e w' => e = .returned (rT 0 0 0 1 0) ∧ Below w.heap.size w w' := by
  unfold rT dV
  have hB := alloc_below w zD
  go_enter Tryz.func169, Tryz.ntmps169
  go_wp2
  refine bodyPost_ret (by simp [results, Tryz.results169, go_sem]; try rfl) rfl ?_
  exact ⟨rfl, hB⟩

theorem parse_none (t : ByteArray) (ht : t.size ≤ 64) (p : Nat) (hf : fitL t.data.toList (SS DS) 0 0 = (-1, p)) (w : World) : Calls Tryz.prog 169 #[.string t] w fun e w' => e = .returned (rT 0 0 0 31 (p : Int)) ∧ Below w.heap.size w w' := by
  have hsz : (w.alloc zD).heap.size = w.heap.size + 1 := by simp
  have HF := hidC (fit_ds t ht (w.alloc zD))
  rw [hf, hsz] at HF
  have HS := hidC (shapes_any (w.alloc zD))
  rw [hsz] at HS
  unfold rT dV
  clear hf
  go_enter Tryz.func169, Tryz.ntmps169
  go_wp2_with fail
  refine HS.out.mono ?_
  rintro e w1 ⟨rfl, rfl⟩
  go_wp2_with fail
  refine HF.out.mono ?_
  rintro e w2 ⟨rfl, hb⟩
  rw [← hsz] at hb
  have hx := (Box.new w 0 0 0).later hb
  obtain ⟨k0, k1, k2, f0, f1, f2, _⟩ := hx.facts
  obtain ⟨d0, d1, d2, _⟩ := (hx.put 0 0 0).facts
  have HB := hidC ((alloc_below w zD).trans (hb.mono (by simp)))
  clear hx hb
  go_wp2
  refine bodyPost_ret (by simp [results, Tryz.results169, go_sem, d0, d1, d2]; try rfl) rfl ?_
  exact ⟨rfl, ((HB.out.setCell (Nat.le_refl _) _).setCell (Nat.le_refl _) _).setCell (Nat.le_refl _) _⟩

set_option maxHeartbeats 1000000 in
theorem parse_0 (t : ByteArray) (hm : MKC t 0) (hf : fitL t.data.toList (SS DS) 0 0 = (0, 0)) (w : World) (hA : HasAh w) :
    Calls Tryz.prog 169 #[.string t] w fun e w' => e = .returned (shA t 0) ∧ Below w.heap.size w w' := by
  have hz := mk_size t 0 10 hm (by decide +kernel)
  have HR := hidC (fun w hA => readDay_any t (by omega) 5 8 (mk_sk t 0 0 0 hm (by decide +kernel)) (mk_sk t 0 4 5 hm (by decide +kernel)) (mk_sk t 0 7 8 hm (by decide +kernel)) ⟨by omega, by omega, mk_dig t 0 0 4 hm (by decide +kernel)⟩ ⟨by omega, by omega, mk_dig t 0 5 2 hm (by decide +kernel)⟩ ⟨by omega, by omega, mk_dig t 0 8 2 hm (by decide +kernel)⟩ w hA)
  obtain ⟨y, m, d, e, p, hv⟩ := rdV_is 5 8 (nt t 0 4) (nt t 5 2) (nt t 8 2)
  have HV : Hid (shA t 0 = rT y m d e p) := hv
  rw [HV.out]
  have HR2 : Hid (∀ w, HasAh w → Calls Tryz.prog 198 #[.string t] w fun x w' => x = .returned (rT y m d e p) ∧ Below w.heap.size w w') := fun w hA => by
    have h := HR.out w hA
    rw [← hv]
    exact h
  have hsz : (w.alloc zD).heap.size = w.heap.size + 1 := by simp
  have HF := hidC (fit_ds t (by omega) (w.alloc zD))
  rw [hf, hsz] at HF
  have HS := hidC (shapes_any (w.alloc zD))
  rw [hsz] at HS
  have HA := hidC hA
  unfold rT dV at *
  clear hf hv hm HV HR hA
  go_enter Tryz.func169, Tryz.ntmps169
  go_wp2_with fail
  refine HS.out.mono ?_
  rintro e w1 ⟨rfl, rfl⟩
  go_wp2_with fail
  refine HF.out.mono ?_
  rintro e w2 ⟨rfl, hb⟩
  rw [← hsz] at hb
  have HX := hidC ((Box.new w 0 0 0).later hb)
  have HB := hidC ((alloc_below w zD).trans (hb.mono (by simp)))
  have HA2 := hidC (HA.out.below HB.out)
  clear hb HF HS HA
  go_wp2_with fail
  refine (HR2.out _ HA2.out).mono ?_
  rintro e w3 ⟨rfl, hb3⟩
  have hx := HX.out.later hb3
  obtain ⟨k0, k1, k2, f0, f1, f2, _⟩ := hx.facts
  obtain ⟨d0, d1, d2, _⟩ := (hx.put y m d).facts
  have HB3 := hidC (HB.out.trans (hb3.mono HB.out.size))
  clear hx hb3 HX HB
  go_wp2
  refine bodyPost_ret (by simp [results, Tryz.results169, go_sem, d0, d1, d2]; try rfl) rfl ?_
  exact ⟨rfl, ((HB3.out.setCell (Nat.le_refl _) _).setCell (Nat.le_refl _) _).setCell (Nat.le_refl _) _⟩

set_option maxHeartbeats 1000000 in
theorem parse_1 (t : ByteArray) (hm : MKC t 1) (hf : fitL t.data.toList (SS DS) 0 0 = (1, 0)) (w : World) (hA : HasAh w) :
    Calls Tryz.prog 169 #[.string t] w fun e w' => e = .returned (shA t 1) ∧ Below w.heap.size w w' := by
  have hz := mk_size t 1 8 hm (by decide +kernel)
  have HR := hidC (fun w hA => readDay_any t (by omega) 4 6 (mk_sk t 1 0 0 hm (by decide +kernel)) (mk_sk t 1 4 4 hm (by decide +kernel)) (mk_sk t 1 6 6 hm (by decide +kernel)) ⟨by omega, by omega, mk_dig t 1 0 4 hm (by decide +kernel)⟩ ⟨by omega, by omega, mk_dig t 1 4 2 hm (by decide +kernel)⟩ ⟨by omega, by omega, mk_dig t 1 6 2 hm (by decide +kernel)⟩ w hA)
  obtain ⟨y, m, d, e, p, hv⟩ := rdV_is 4 6 (nt t 0 4) (nt t 4 2) (nt t 6 2)
  have HV : Hid (shA t 1 = rT y m d e p) := hv
  rw [HV.out]
  have HR2 : Hid (∀ w, HasAh w → Calls Tryz.prog 198 #[.string t] w fun x w' => x = .returned (rT y m d e p) ∧ Below w.heap.size w w') := fun w hA => by
    have h := HR.out w hA
    rw [← hv]
    exact h
  have hsz : (w.alloc zD).heap.size = w.heap.size + 1 := by simp
  have HF := hidC (fit_ds t (by omega) (w.alloc zD))
  rw [hf, hsz] at HF
  have HS := hidC (shapes_any (w.alloc zD))
  rw [hsz] at HS
  have HA := hidC hA
  unfold rT dV at *
  clear hf hv hm HV HR hA
  go_enter Tryz.func169, Tryz.ntmps169
  go_wp2_with fail
  refine HS.out.mono ?_
  rintro e w1 ⟨rfl, rfl⟩
  go_wp2_with fail
  refine HF.out.mono ?_
  rintro e w2 ⟨rfl, hb⟩
  rw [← hsz] at hb
  have HX := hidC ((Box.new w 0 0 0).later hb)
  have HB := hidC ((alloc_below w zD).trans (hb.mono (by simp)))
  have HA2 := hidC (HA.out.below HB.out)
  clear hb HF HS HA
  go_wp2_with fail
  refine (HR2.out _ HA2.out).mono ?_
  rintro e w3 ⟨rfl, hb3⟩
  have hx := HX.out.later hb3
  obtain ⟨k0, k1, k2, f0, f1, f2, _⟩ := hx.facts
  obtain ⟨d0, d1, d2, _⟩ := (hx.put y m d).facts
  have HB3 := hidC (HB.out.trans (hb3.mono HB.out.size))
  clear hx hb3 HX HB
  go_wp2
  refine bodyPost_ret (by simp [results, Tryz.results169, go_sem, d0, d1, d2]; try rfl) rfl ?_
  exact ⟨rfl, ((HB3.out.setCell (Nat.le_refl _) _).setCell (Nat.le_refl _) _).setCell (Nat.le_refl _) _⟩

set_option maxHeartbeats 1000000 in
theorem parse_2 (t : ByteArray) (hm : MKC t 2) (hf : fitL t.data.toList (SS DS) 0 0 = (2, 0)) (w : World) (hA : HasAh w) :
    Calls Tryz.prog 169 #[.string t] w fun e w' => e = .returned (shA t 2) ∧ Below w.heap.size w w' := by
  have hz := mk_size t 2 8 hm (by decide +kernel)
  have HR := hidC (fun w hA => readDayOfYear_any t (by omega) 5 (mk_sk t 2 0 0 hm (by decide +kernel)) (mk_sk t 2 4 5 hm (by decide +kernel)) ⟨by omega, by omega, mk_dig t 2 0 4 hm (by decide +kernel)⟩ ⟨by omega, by omega, mk_dig t 2 5 3 hm (by decide +kernel)⟩ w hA)
  obtain ⟨y, m, d, e, p, hv⟩ := ryV_is 5 (nt t 0 4) (nt t 5 3)
  have HV : Hid (shA t 2 = rT y m d e p) := hv
  rw [HV.out]
  have HR2 : Hid (∀ w, HasAh w → Calls Tryz.prog 199 #[.string t] w fun x w' => x = .returned (rT y m d e p) ∧ Below w.heap.size w w') := fun w hA => by
    have h := HR.out w hA
    rw [← hv]
    exact h
  have hsz : (w.alloc zD).heap.size = w.heap.size + 1 := by simp
  have HF := hidC (fit_ds t (by omega) (w.alloc zD))
  rw [hf, hsz] at HF
  have HS := hidC (shapes_any (w.alloc zD))
  rw [hsz] at HS
  have HA := hidC hA
  unfold rT dV at *
  clear hf hv hm HV HR hA
  go_enter Tryz.func169, Tryz.ntmps169
  go_wp2_with fail
  refine HS.out.mono ?_
  rintro e w1 ⟨rfl, rfl⟩
  go_wp2_with fail
  refine HF.out.mono ?_
  rintro e w2 ⟨rfl, hb⟩
  rw [← hsz] at hb
  have HX := hidC ((Box.new w 0 0 0).later hb)
  have HB := hidC ((alloc_below w zD).trans (hb.mono (by simp)))
  have HA2 := hidC (HA.out.below HB.out)
  clear hb HF HS HA
  go_wp2_with fail
  refine (HR2.out _ HA2.out).mono ?_
  rintro e w3 ⟨rfl, hb3⟩
  have hx := HX.out.later hb3
  obtain ⟨k0, k1, k2, f0, f1, f2, _⟩ := hx.facts
  obtain ⟨d0, d1, d2, _⟩ := (hx.put y m d).facts
  have HB3 := hidC (HB.out.trans (hb3.mono HB.out.size))
  clear hx hb3 HX HB
  go_wp2
  refine bodyPost_ret (by simp [results, Tryz.results169, go_sem, d0, d1, d2]; try rfl) rfl ?_
  exact ⟨rfl, ((HB3.out.setCell (Nat.le_refl _) _).setCell (Nat.le_refl _) _).setCell (Nat.le_refl _) _⟩

set_option maxHeartbeats 1000000 in
theorem parse_3 (t : ByteArray) (hm : MKC t 3) (hf : fitL t.data.toList (SS DS) 0 0 = (3, 0)) (w : World) (hA : HasAh w) :
    Calls Tryz.prog 169 #[.string t] w fun e w' => e = .returned (shA t 3) ∧ Below w.heap.size w w' := by
  have hz := mk_size t 3 7 hm (by decide +kernel)
  have HR := hidC (fun w hA => readDayOfYear_any t (by omega) 4 (mk_sk t 3 0 0 hm (by decide +kernel)) (mk_sk t 3 4 4 hm (by decide +kernel)) ⟨by omega, by omega, mk_dig t 3 0 4 hm (by decide +kernel)⟩ ⟨by omega, by omega, mk_dig t 3 4 3 hm (by decide +kernel)⟩ w hA)
  obtain ⟨y, m, d, e, p, hv⟩ := ryV_is 4 (nt t 0 4) (nt t 4 3)
  have HV : Hid (shA t 3 = rT y m d e p) := hv
  rw [HV.out]
  have HR2 : Hid (∀ w, HasAh w → Calls Tryz.prog 199 #[.string t] w fun x w' => x = .returned (rT y m d e p) ∧ Below w.heap.size w w') := fun w hA => by
    have h := HR.out w hA
    rw [← hv]
    exact h
  have hsz : (w.alloc zD).heap.size = w.heap.size + 1 := by simp
  have HF := hidC (fit_ds t (by omega) (w.alloc zD))
  rw [hf, hsz] at HF
  have HS := hidC (shapes_any (w.alloc zD))
  rw [hsz] at HS
  have HA := hidC hA
  unfold rT dV at *
  clear hf hv hm HV HR hA
  go_enter Tryz.func169, Tryz.ntmps169
  go_wp2_with fail
  refine HS.out.mono ?_
  rintro e w1 ⟨rfl, rfl⟩
  go_wp2_with fail
  refine HF.out.mono ?_
  rintro e w2 ⟨rfl, hb⟩
  rw [← hsz] at hb
  have HX := hidC ((Box.new w 0 0 0).later hb)
  have HB := hidC ((alloc_below w zD).trans (hb.mono (by simp)))
  have HA2 := hidC (HA.out.below HB.out)
  clear hb HF HS HA
  go_wp2_with fail
  refine (HR2.out _ HA2.out).mono ?_
  rintro e w3 ⟨rfl, hb3⟩
  have hx := HX.out.later hb3
  obtain ⟨k0, k1, k2, f0, f1, f2, _⟩ := hx.facts
  obtain ⟨d0, d1, d2, _⟩ := (hx.put y m d).facts
  have HB3 := hidC (HB.out.trans (hb3.mono HB.out.size))
  clear hx hb3 HX HB
  go_wp2
  refine bodyPost_ret (by simp [results, Tryz.results169, go_sem, d0, d1, d2]; try rfl) rfl ?_
  exact ⟨rfl, ((HB3.out.setCell (Nat.le_refl _) _).setCell (Nat.le_refl _) _).setCell (Nat.le_refl _) _⟩

set_option maxHeartbeats 1000000 in
theorem parse_4 (t : ByteArray) (hm : MKC t 4) (hf : fitL t.data.toList (SS DS) 0 0 = (4, 0)) (w : World) (hA : HasAh w) :
    Calls Tryz.prog 169 #[.string t] w fun e w' => e = .returned (shA t 4) ∧ Below w.heap.size w w' := by
  have hz := mk_size t 4 10 hm (by decide +kernel)
  have HR := hidC (fun w hA => readDayOfWeek_any t (by omega) 6 9 (mk_sk t 4 0 0 hm (by decide +kernel)) (mk_sk t 4 4 6 hm (by decide +kernel)) (mk_sk t 4 8 9 hm (by decide +kernel)) ⟨by omega, by omega, mk_dig t 4 0 4 hm (by decide +kernel)⟩ ⟨by omega, by omega, mk_dig t 4 6 2 hm (by decide +kernel)⟩ ⟨by omega, by omega, mk_dig t 4 9 1 hm (by decide +kernel)⟩ w hA)
  obtain ⟨y, m, d, e, p, hv⟩ := rwV_is 6 9 (nt t 0 4) (nt t 6 2) (nt t 9 1)
  have HV : Hid (shA t 4 = rT y m d e p) := hv
  rw [HV.out]
  have HR2 : Hid (∀ w, HasAh w → Calls Tryz.prog 200 #[.string t] w fun x w' => x = .returned (rT y m d e p) ∧ Below w.heap.size w w') := fun w hA => by
    have h := HR.out w hA
    rw [← hv]
    exact h
  have hsz : (w.alloc zD).heap.size = w.heap.size + 1 := by simp
  have HF := hidC (fit_ds t (by omega) (w.alloc zD))
  rw [hf, hsz] at HF
  have HS := hidC (shapes_any (w.alloc zD))
  rw [hsz] at HS
  have HA := hidC hA
  unfold rT dV at *
  clear hf hv hm HV HR hA
  go_enter Tryz.func169, Tryz.ntmps169
  go_wp2_with fail
  refine HS.out.mono ?_
  rintro e w1 ⟨rfl, rfl⟩
  go_wp2_with fail
  refine HF.out.mono ?_
  rintro e w2 ⟨rfl, hb⟩
  rw [← hsz] at hb
  have HX := hidC ((Box.new w 0 0 0).later hb)
  have HB := hidC ((alloc_below w zD).trans (hb.mono (by simp)))
  have HA2 := hidC (HA.out.below HB.out)
  clear hb HF HS HA
  go_wp2_with fail
  refine (HR2.out _ HA2.out).mono ?_
  rintro e w3 ⟨rfl, hb3⟩
  have hx := HX.out.later hb3
  obtain ⟨k0, k1, k2, f0, f1, f2, _⟩ := hx.facts
  obtain ⟨d0, d1, d2, _⟩ := (hx.put y m d).facts
  have HB3 := hidC (HB.out.trans (hb3.mono HB.out.size))
  clear hx hb3 HX HB
  go_wp2
  refine bodyPost_ret (by simp [results, Tryz.results169, go_sem, d0, d1, d2]; try rfl) rfl ?_
  exact ⟨rfl, ((HB3.out.setCell (Nat.le_refl _) _).setCell (Nat.le_refl _) _).setCell (Nat.le_refl _) _⟩

set_option maxHeartbeats 1000000 in
theorem parse_5 (t : ByteArray) (hm : MKC t 5) (hf : fitL t.data.toList (SS DS) 0 0 = (5, 0)) (w : World) (hA : HasAh w) :
    Calls Tryz.prog 169 #[.string t] w fun e w' => e = .returned (shA t 5) ∧ Below w.heap.size w w' := by
  have hz := mk_size t 5 8 hm (by decide +kernel)
  have HR := hidC (fun w hA => readDayOfWeek_any t (by omega) 5 7 (mk_sk t 5 0 0 hm (by decide +kernel)) (mk_sk t 5 4 5 hm (by decide +kernel)) (mk_sk t 5 7 7 hm (by decide +kernel)) ⟨by omega, by omega, mk_dig t 5 0 4 hm (by decide +kernel)⟩ ⟨by omega, by omega, mk_dig t 5 5 2 hm (by decide +kernel)⟩ ⟨by omega, by omega, mk_dig t 5 7 1 hm (by decide +kernel)⟩ w hA)
  obtain ⟨y, m, d, e, p, hv⟩ := rwV_is 5 7 (nt t 0 4) (nt t 5 2) (nt t 7 1)
  have HV : Hid (shA t 5 = rT y m d e p) := hv
  rw [HV.out]
  have HR2 : Hid (∀ w, HasAh w → Calls Tryz.prog 200 #[.string t] w fun x w' => x = .returned (rT y m d e p) ∧ Below w.heap.size w w') := fun w hA => by
    have h := HR.out w hA
    rw [← hv]
    exact h
  have hsz : (w.alloc zD).heap.size = w.heap.size + 1 := by simp
  have HF := hidC (fit_ds t (by omega) (w.alloc zD))
  rw [hf, hsz] at HF
  have HS := hidC (shapes_any (w.alloc zD))
  rw [hsz] at HS
  have HA := hidC hA
  unfold rT dV at *
  clear hf hv hm HV HR hA
  go_enter Tryz.func169, Tryz.ntmps169
  go_wp2_with fail
  refine HS.out.mono ?_
  rintro e w1 ⟨rfl, rfl⟩
  go_wp2_with fail
  refine HF.out.mono ?_
  rintro e w2 ⟨rfl, hb⟩
  rw [← hsz] at hb
  have HX := hidC ((Box.new w 0 0 0).later hb)
  have HB := hidC ((alloc_below w zD).trans (hb.mono (by simp)))
  have HA2 := hidC (HA.out.below HB.out)
  clear hb HF HS HA
  go_wp2_with fail
  refine (HR2.out _ HA2.out).mono ?_
  rintro e w3 ⟨rfl, hb3⟩
  have hx := HX.out.later hb3
  obtain ⟨k0, k1, k2, f0, f1, f2, _⟩ := hx.facts
  obtain ⟨d0, d1, d2, _⟩ := (hx.put y m d).facts
  have HB3 := hidC (HB.out.trans (hb3.mono HB.out.size))
  clear hx hb3 HX HB
  go_wp2
  refine bodyPost_ret (by simp [results, Tryz.results169, go_sem, d0, d1, d2]; try rfl) rfl ?_
  exact ⟨rfl, ((HB3.out.setCell (Nat.le_refl _) _).setCell (Nat.le_refl _) _).setCell (Nat.le_refl _) _⟩

end Go.Proofs.YtmgfdnccmeahjaaGreatDoor
