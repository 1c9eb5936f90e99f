/-
  FromWeek.
-/
import Derived.Test.YtjpglgemnaknhaaGreatDoorCweek
namespace Go.Proofs.YtjpglgemnaknhaaGreatDoor
open Go.RowKit
set_option maxRecDepth 100000

/-- a week that may be -/
abbrev OkW (y k d : Int) : Prop := -1 ≤ y ∧ y ≤ 9999 ∧ 1 ≤ k ∧ k ≤ wkN y ∧ 1 ≤ d ∧ d ≤ 7
/-- the number of a week's day -/
def wkD (y k d : Int) : Int := wkS y + 7 * (k - 1) + d - 1

set_option maxHeartbeats 2000000 in
theorem fromWeek_bad (y k d : Int) (h : ¬ OkW y k d) (w : World) :
    Calls Tryz.prog 49 #[dV y k d] w fun e w' => e = .returned (.tuple #[dV 0 0 0, .int .i64 30]) ∧ Below w.heap.size w w' := by
  unfold dV
  have hb : ∀ n o o', Below w.heap.size w (World.drewN ((w.alloc o).alloc o') n) := fun n o o' => below_drewN (((Below.refl _ _).alloc (Nat.le_refl _) _).alloc (by simp) _) n
  by_cases c1 : y < -1
  · have b1 : decide (y < -1) = true := decide_eq_true c1
    clear h
    go_enter Tryz.func49, Tryz.ntmps49
    go_wp2_with fail
    go_quiet (fail)
    go_wp2
    go_returns
    exact ⟨rfl, (((hb _ _ _).setCell (by simp) _).setCell (by simp) _).setCell (by simp) _⟩
  · have b1 : decide (y < -1) = false := decide_eq_false c1
    by_cases c2 : 9999 < y
    · have b2 : decide (9999 < y) = true := decide_eq_true c2
      clear h
      go_enter Tryz.func49, Tryz.ntmps49
      go_wp2_with fail
      go_quiet (fail)
      go_wp2
      go_returns
      exact ⟨rfl, (((hb _ _ _).setCell (by simp) _).setCell (by simp) _).setCell (by simp) _⟩
    · have b2 : decide (9999 < y) = false := decide_eq_false c2
      by_cases c3 : k < 1
      · have b3 : decide (k < 1) = true := decide_eq_true c3
        clear h
        go_enter Tryz.func49, Tryz.ntmps49
        go_wp2_with fail
        go_quiet (fail)
        go_wp2
        go_returns
        exact ⟨rfl, (((hb _ _ _).setCell (by simp) _).setCell (by simp) _).setCell (by simp) _⟩
      · have b3 : decide (k < 1) = false := decide_eq_false c3
        have HN := hid (fun w => yearWeeks_any y (by omega) (by omega) w)
        by_cases c4 : wkN y < k
        · have b4 : decide (wkN y < k) = true := decide_eq_true c4
          clear h
          generalize wkN y = c at *
          go_enter Tryz.func49, Tryz.ntmps49
          go_wp2_with fail
          go_quiet (first
            | (go_at_call 47; exact Calls.quiet_of_same (HN.out _)))
          go_wp2
          go_returns
          exact ⟨rfl, (((hb _ _ _).setCell (by simp) _).setCell (by simp) _).setCell (by simp) _⟩
        · have b4 : decide (wkN y < k) = false := decide_eq_false c4
          by_cases c5 : d < 1
          · have b5 : decide (d < 1) = true := decide_eq_true c5
            clear h
            generalize wkN y = c at *
            go_enter Tryz.func49, Tryz.ntmps49
            go_wp2_with fail
            go_quiet (first
              | (go_at_call 47; exact Calls.quiet_of_same (HN.out _)))
            go_wp2
            go_returns
            exact ⟨rfl, (((hb _ _ _).setCell (by simp) _).setCell (by simp) _).setCell (by simp) _⟩
          · have b5 : decide (d < 1) = false := decide_eq_false c5
            have c6 : 7 < d := by
              by_cases e : 7 < d
              · exact e
              · exact absurd (⟨by omega, by omega, by omega, by omega, by omega, by omega⟩ : OkW y k d) h
            have b6 : decide (7 < d) = true := decide_eq_true c6
            clear h
            generalize wkN y = c at *
            go_enter Tryz.func49, Tryz.ntmps49
            go_wp2_with fail
            go_quiet (first
              | (go_at_call 47; exact Calls.quiet_of_same (HN.out _)))
            go_wp2
            go_returns
            exact ⟨rfl, (((hb _ _ _).setCell (by simp) _).setCell (by simp) _).setCell (by simp) _⟩

end Go.Proofs.YtjpglgemnaknhaaGreatDoor
