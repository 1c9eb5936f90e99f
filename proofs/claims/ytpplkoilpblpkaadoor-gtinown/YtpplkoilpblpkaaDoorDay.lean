/-
  Days: two, lastDay, dayFault, isDay.
-/
import Derived.Test.YtpplkoilpblpkaaDoorLater
import Derived.Lib.Strings
import Derived.Deep.CutRange
import Derived.Deep.RegionWith
import Derived.Deep.RegionHeld
import Derived.Deep.DrawnRows
namespace Go.Proofs.YtpplkoilpblpkaaDoor
open Go.RowKit
set_option maxRecDepth 100000

/-- the last day of a month -/
def lastD (y m : Nat) : Nat := if m = 2 then (if y % 4 = 0 then 29 else 28) else if m = 4 ∨ m = 6 ∨ m = 9 ∨ m = 11 then 30 else 31
def DayB (y m d : Nat) : Bool := decide (1 ≤ m ∧ m ≤ 12 ∧ d ≤ lastD y m)
abbrev DayOk (y m d : Nat) : Prop := DayB y m d = true
theorem dayOk_iff {y m d : Nat} : DayOk y m d ↔ 1 ≤ m ∧ m ≤ 12 ∧ d ≤ lastD y m := decide_eq_true_iff

def yy (v : List UInt8) : Nat := nm (v.take 2)
def mm (v : List UInt8) : Nat := nm ((v.drop 2).take 2)
def dd (v : List UInt8) : Nat := nm (v.drop 4)

theorem nm_two (l : List UInt8) (h : l.length = 2) : nm l = 10 * dv (l[0]'(by omega)) + dv (l[1]'(by omega)) := by
  match l, h with
  | [a, b], _ => simp [nm]; omega

theorem nm_two_le (l : List UInt8) (h : l.length = 2) : nm l ≤ 2805 := by
  rw [nm_two l h]
  have := dv_le (l[0]'(by omega))
  have := dv_le (l[1]'(by omega))
  omega

set_option maxHeartbeats 800000 in
theorem lastDay_any (y m : Nat) (w : World) :
    Calls Tryd.prog 57 #[.int .i64 (y : Int), .int .i64 (m : Int)] w fun e w' => e = .returned (.int .i64 (lastD y m : Nat)) ∧ w' = w := by
  unfold lastD
  by_cases h2 : m = 2
  · subst h2
    rw [if_pos rfl]
    by_cases hy : y % 4 = 0
    · have hyb : ((y : Int) % 4 == 0) = true := by simp; omega
      rw [if_pos hy]
      go_enter Tryd.func57, Tryd.ntmps57
      go_wp2
      go_ret
      exact ⟨rfl, rfl⟩
    · have hyb : ((y : Int) % 4 == 0) = false := by simp; omega
      rw [if_neg hy]
      go_enter Tryd.func57, Tryd.ntmps57
      go_wp2
      go_ret
      exact ⟨rfl, rfl⟩
  · rw [if_neg h2]
    have b2 : ((m : Int) == 2) = false := by simp; omega
    by_cases h4 : m = 4 ∨ m = 6 ∨ m = 9 ∨ m = 11
    · rw [if_pos h4]
      rcases h4 with rfl | rfl | rfl | rfl
      all_goals
        clear b2 h2
        go_enter Tryd.func57, Tryd.ntmps57
        go_wp2
        go_ret
        exact ⟨rfl, rfl⟩
    · rw [if_neg h4]
      have b4 : ((m : Int) == 4) = false := by simp; omega
      have b6 : ((m : Int) == 6) = false := by simp; omega
      have b9 : ((m : Int) == 9) = false := by simp; omega
      have b11 : ((m : Int) == 11) = false := by simp; omega
      clear h4 h2
      go_enter Tryd.func57, Tryd.ntmps57
      go_wp2
      go_ret
      exact ⟨rfl, rfl⟩

/-- the three parts of a day's text -/
theorem day_parts (v : ByteArray) (h : v.size = 6) : (v.extract 0 2).data.toList = v.data.toList.take 2 ∧ (v.extract 2 4).data.toList = (v.data.toList.drop 2).take 2 ∧ (v.extract 4 6).data.toList = v.data.toList.drop 4 ∧ (v.extract 0 2).size = 2 ∧ (v.extract 2 4).size = 2 ∧ (v.extract 4 6).size = 2 := by
  have hl := len_list v
  have e1 : (v.extract 0 2).data.toList = v.data.toList.take 2 := by rw [Lib.extract_data]; rfl
  have e2 : (v.extract 2 4).data.toList = (v.data.toList.drop 2).take 2 := by rw [Lib.extract_data]
  have e3 : (v.extract 4 6).data.toList = v.data.toList.drop 4 := by
    rw [Lib.extract_data]
    exact List.take_of_length_le (by rw [List.length_drop]; omega)
  refine ⟨e1, e2, e3, ?_, ?_, ?_⟩
  · rw [← len_list, e1, List.length_take]; omega
  · rw [← len_list, e2, List.length_take, List.length_drop]; omega
  · rw [← len_list, e3, List.length_drop]; omega

set_option maxHeartbeats 2000000 in
theorem dayFault_any (v : ByteArray) (w : World) (h : v.size = 6) :
    Calls Tryd.prog 45 #[.string v] w fun e w' => e = .returned (.tuple #[.int .i64 (if DayOk (yy v.data.toList) (mm v.data.toList) (dd v.data.toList) then 0 else 28), .int .i64 0]) ∧ Below w.heap.size w w' := by
  obtain ⟨e1, e2, e3, s1, s2, s3⟩ := day_parts v h
  have N1 : Hid (∀ w, Calls Tryd.prog 56 #[.string (v.extract 0 2)] w fun e w' => e = .returned (.int .i64 (yy v.data.toList : Nat)) ∧ w' = w) := fun w => by
    have := number_any (v.extract 0 2) w (by omega)
    rw [e1] at this
    exact this
  have N2 : Hid (∀ w, Calls Tryd.prog 56 #[.string (v.extract 2 4)] w fun e w' => e = .returned (.int .i64 (mm v.data.toList : Nat)) ∧ w' = w) := fun w => by
    have := number_any (v.extract 2 4) w (by omega)
    rw [e2] at this
    exact this
  have N3 : Hid (∀ w, Calls Tryd.prog 56 #[.string (v.extract 4 6)] w fun e w' => e = .returned (.int .i64 (dd v.data.toList : Nat)) ∧ w' = w) := fun w => by
    have := number_any (v.extract 4 6) w (by omega)
    rw [e3] at this
    exact this
  have HL : Hid (_) := fun y m w => lastDay_any y m w
  have v2 : 2 ≤ v.size := by omega
  have v4 : 4 ≤ v.size := by omega
  generalize yy v.data.toList = y at N1
  generalize mm v.data.toList = m at N2
  generalize dd v.data.toList = d at N3
  clear e1 e2 e3 s1 s2 s3
  by_cases h1 : m < 1
  · rw [if_neg (fun x : DayOk y m d => by rw [dayOk_iff] at x; omega)]
    have b1 : (m : Int) < 1 := by omega
    have bb1 : decide ((m : Int) < 1) = true := decide_eq_true b1
    go_enter Tryd.func45, Tryd.ntmps45
    go_wp2_with fail
    refine (N2.out w).mono ?_
    rintro e w1 ⟨rfl, rfl⟩
    go_wp2_with fail
    go_quiet (fail)
    go_wp2
    go_ret2
    exact ⟨rfl, below_drewN (Below.refl _ _) nq⟩
  · have b1 : ¬ (m : Int) < 1 := by omega
    have bb1 : decide ((m : Int) < 1) = false := decide_eq_false b1
    by_cases h12 : 12 < m
    · rw [if_neg (fun x : DayOk y m d => by rw [dayOk_iff] at x; omega)]
      have b2 : (12 : Int) < (m : Int) := by omega
      have bb2 : decide ((12 : Int) < (m : Int)) = true := decide_eq_true b2
      go_enter Tryd.func45, Tryd.ntmps45
      go_wp2_with fail
      refine (N2.out w).mono ?_
      rintro e w1 ⟨rfl, rfl⟩
      go_wp2_with fail
      go_quiet (fail)
      go_wp2
      go_ret2
      exact ⟨rfl, below_drewN (Below.refl _ _) nq⟩
    · have b2 : ¬ (12 : Int) < (m : Int) := by omega
      have bb2 : decide ((12 : Int) < (m : Int)) = false := decide_eq_false b2
      have HQ : Hid (_) := HL.out y m
      clear HL
      by_cases hz : d ≤ lastD y m
      · rw [if_pos (show DayOk y m d from dayOk_iff.2 ⟨by omega, by omega, hz⟩)]
        generalize lastD y m = z at HQ hz
        have b3 : ¬ (z : Int) < (d : Int) := by omega
        have bb3 : decide ((z : Int) < (d : Int)) = false := decide_eq_false b3
        go_enter Tryd.func45, Tryd.ntmps45
        go_wp2_with fail
        refine (N2.out w).mono ?_
        rintro e w1 ⟨rfl, rfl⟩
        go_wp2_with fail
        go_quiet (first
          | (go_at_call_of 56 (v.extract 0 2); exact Calls.quiet_of_same (N1.out _))
          | (go_at_call 56; exact Calls.quiet_of_same (N3.out _))
          | (go_at_call 57; exact Calls.quiet_of_same (HQ.out _)))
        go_wp2
        go_ret2
        exact ⟨rfl, below_drewN (Below.refl _ _) nq⟩
      · rw [if_neg (fun x : DayOk y m d => hz (dayOk_iff.1 x).2.2)]
        generalize lastD y m = z at HQ hz
        have b3 : (z : Int) < (d : Int) := by omega
        have bb3 : decide ((z : Int) < (d : Int)) = true := decide_eq_true b3
        go_enter Tryd.func45, Tryd.ntmps45
        go_wp2_with fail
        refine (N2.out w).mono ?_
        rintro e w1 ⟨rfl, rfl⟩
        go_wp2_with fail
        go_quiet (first
          | (go_at_call_of 56 (v.extract 0 2); exact Calls.quiet_of_same (N1.out _))
          | (go_at_call 56; exact Calls.quiet_of_same (N3.out _))
          | (go_at_call 57; exact Calls.quiet_of_same (HQ.out _)))
        go_wp2
        go_ret2
        exact ⟨rfl, below_drewN (Below.refl _ _) nq⟩

theorem below_of_drewN {w w' : World} (h : ∃ n, w' = w.drewN n) : Below w.heap.size w w' := by
  obtain ⟨n, rfl⟩ := h
  exact below_drewN (Below.refl _ _) n
end Go.Proofs.YtpplkoilpblpkaaDoor
