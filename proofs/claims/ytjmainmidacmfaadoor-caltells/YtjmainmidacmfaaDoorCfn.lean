/-
  The program's own days: isLeap, yearStart, monthStart, monthDays, weekday.
-/
import Derived.Test.YtjmainmidacmfaaDoorRows
import Derived.Test.YtjmainmidacmfaaDoorCal
import Derived.Lib.LaidTab
import Derived.WalkKit
import Derived.ProofKit
import Derived.OpenShut
import Derived.Below
import Derived.BigQuiet
import Derived.Handy
import Derived.Lib.Builder
import Derived.Lib.BufferMore
import Derived.Laws.Rows
import Derived.WalkSmall
import Derived.Deep.RegionHeld
import Derived.Deep.DrawnRows
import Derived.Deep.CutRange
import Derived.Deep.RegionWith
namespace Go.Proofs.YtjmainmidacmfaaDoor
open Go.RowKit
set_option maxRecDepth 100000

theorem ret_int {k : IntKind} {a b : Int} (h : a = b) : Ending.returned (.int k a) = .returned (.int k b) := by rw [h]
theorem ret_bool {a b : Bool} (h : a = b) : Ending.returned (.bool a) = .returned (.bool b) := by rw [h]
theorem int_eq {k : IntKind} {a b : Int} (h : a = b) : Value.int k a = .int k b := by rw [h]
theorem cell_old {w w' : World} {p : Addr} {v : Value} (h : w.cell? p = some v) (hb : Below w.heap.size w w') : w'.cell? p = some v :=
  (hb.cell (p := p) (World.block_lt_of_cell? _ _ h)).trans h

/-- the table of the days ahead of each month lies there -/
def HasAh (w : World) : Prop := ∀ k : Nat, k < 13 → w.cell? ⟨0, k, none⟩ = some (.int .i64 (tab ((k : Int) + 1)))

theorem HasAh.below {w w' : World} (h : HasAh w) (hb : Below w.heap.size w w') : HasAh w' := fun k hk => cell_old (h k hk) hb

theorem HasAh.lt {w : World} (h : HasAh w) : 0 < w.heap.size := World.block_lt_of_cell? _ _ (h 0 (by omega))
theorem HasAh.belowAt {B : Nat} {w w' : World} (h : HasAh w) (hb : Below B w w') (hB : 0 < B) : HasAh w' := fun k hk => (hb.cell (p := ⟨0, k, none⟩) hB).trans (h k hk)
theorem hid {p : Prop} (h : p) : Hid p := h

def ahL : List Int := [0, 31, 59, 90, 120, 151, 181, 212, 243, 273, 304, 334, 365]
theorem ahL_tab : ∀ k : Fin 13, ahL.getD k.val 0 = tab ((k.val : Int) + 1) := by decide

theorem hasAh_of {n : String} {rest : List (String × DataW Unit)} {w : World} (hn : Tryd.prog.globalNamed n = some 0) (h : laidMet Tryd.prog ((n, Rows.laid_larder_cal_ahead) :: rest) w) : HasAh w := by
  have hT : Lib.TabIs Tryd.prog w n .i64 ahL := Lib.tabIs_of_head hn (show (Tryd.prog.globals[(0 : Nat)]?).map (·.type) = some 76 by kernel_rfl) Tryd.underlying76 Tryd.underlying3 (by kernel_rfl) (by kernel_rfl) h
  intro k hk
  rw [hT.cell hn k hk, ahL_tab ⟨k, hk⟩]

theorem isLeap_any (y : Int) (hy : 0 ≤ y) (w : World) :
    Calls Tryd.prog 58 #[.int .i64 y] w fun e w' => e = .returned (.bool (decide (Lp y))) ∧ w' = w := by
  obtain ⟨n, rfl⟩ := Int.eq_ofNat_of_zero_le hy
  unfold Lp
  by_cases h4 : (n : Int) % 4 = 0 <;> by_cases h100 : (n : Int) % 100 = 0 <;> by_cases h400 : (n : Int) % 400 = 0
  all_goals
    go_enter Tryd.func58, Tryd.ntmps58
    go_wp2
    all_goals go_ret
    all_goals exact ⟨ret_bool (by simp [h4, h100, h400]), rfl⟩

theorem yearStart_any (y : Int) (h1 : -1 ≤ y) (h2 : y ≤ 10000) (w : World) :
    Calls Tryd.prog 46 #[.int .i64 y] w fun e w' => e = .returned (.int .i64 (ys y)) ∧ w' = w := by
  by_cases hy : 0 ≤ y
  · obtain ⟨n, rfl⟩ := Int.eq_ofNat_of_zero_le hy
    go_enter Tryd.func46, Tryd.ntmps46
    go_wp2
    go_ret
    exact ⟨ret_int (by unfold ys; omega), rfl⟩
  · obtain rfl : y = -1 := by omega
    go_enter Tryd.func46, Tryd.ntmps46
    go_wp2
    go_ret
    exact ⟨rfl, rfl⟩

theorem monthStart_any (y m : Int) (hy : 0 ≤ y) (h1 : 1 ≤ m) (h2 : m ≤ 13) (w : World) (hA : HasAh w) :
    Calls Tryd.prog 47 #[.int .i64 y, .int .i64 m] w fun e w' => e = .returned (.int .i64 (ms y m)) ∧ w' = w := by
  obtain ⟨k, hk⟩ : ∃ k : Nat, m = (k : Int) + 1 := ⟨(m - 1).toNat, by omega⟩
  have hc := hA k (by omega)
  have hl := ms_long y m h1 h2
  have HL : Hid (_) := isLeap_any y hy w
  subst hk
  have hms : ms y ((k : Int) + 1) = tab ((k : Int) + 1) + (if 2 < (k : Int) + 1 then lpN y else 0) := rfl
  generalize tab ((k : Int) + 1) = t at hc hms
  generalize ms y ((k : Int) + 1) = r at hl hms ⊢
  have hn := lpN_cases y
  clear hA
  by_cases h2 : (2 : Int) < (k : Int) + 1
  · rw [if_pos h2] at hms
    rcases hn with ⟨hn, hp⟩ | ⟨hn, hp⟩
    · rw [decide_eq_false hp] at HL
      clear hp
      go_enter Tryd.func47, Tryd.ntmps47
      go_wp2_with fail
      refine Calls.mono HL.out ?_
      rintro e w' ⟨rfl, rfl⟩
      go_wp2
      go_ret
      exact ⟨ret_int (by omega), rfl⟩
    · rw [decide_eq_true hp] at HL
      clear hp
      go_enter Tryd.func47, Tryd.ntmps47
      go_wp2_with fail
      refine Calls.mono HL.out ?_
      rintro e w' ⟨rfl, rfl⟩
      go_wp2
      go_ret
      exact ⟨ret_int (by omega), rfl⟩
  · rw [if_neg h2] at hms
    go_enter Tryd.func47, Tryd.ntmps47
    go_wp2
    go_ret
    exact ⟨ret_int (by omega), rfl⟩
end Go.Proofs.YtjmainmidacmfaaDoor
