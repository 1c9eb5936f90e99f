/-
  The document's own Of; both sides of it.
-/
import Derived.Test.YtcmllfipaiacfaaGreatDoorRday
namespace Go.Proofs.YtcmllfipaiacfaaGreatDoor
open Go.RowKit
set_option maxRecDepth 100000

theorem refOf_good (n : Int) (h0 : 0 ≤ n) (h1 : n ≤ 3652424) (w : World) :
    Calls Tryz.prog 100 #[.int .i64 n] w fun e w' => e = .returned (.tuple #[dV (dY n) (dM n) (dD n), .int .i64 0]) ∧ Below w.heap.size w w' := by
  have HD := hid (fun w => refDate_any n h0 h1 w)
  generalize dY n = y at *
  generalize dM n = m at *
  generalize dD n = d at *
  unfold dV at *
  go_enter Tryz.func100, Tryz.ntmps100
  go_wp2_with fail
  refine (HD.out _).mono ?_
  rintro e w1 ⟨rfl, hb1⟩
  obtain ⟨k0, k1, k2, hB, hz⟩ := date_cells w w1 _ _ _ hb1
  have hbx : Box w1 w.heap.size 0 0 0 := (Box.new w 0 0 0).later hb1
  obtain ⟨_, _, _, f0, f1, f2, _⟩ := hbx.facts
  obtain ⟨d0, d1, d2, _⟩ := (hbx.put y m d).facts
  clear hb1 HD hbx
  go_wp2
  refine bodyPost_ret (by simp [results, Tryz.results100, go_sem, d0, d1, d2]; try rfl) rfl ?_
  exact ⟨rfl, ((hB.setCell (Nat.le_refl _) _).setCell (Nat.le_refl _) _).setCell (Nat.le_refl _) _⟩

theorem refOf_bad (n : Int) (h : n < 0 ∨ 3652424 < n) (w : World) :
    Calls Tryz.prog 100 #[.int .i64 n] w fun e w' => e = .returned (.tuple #[dV 0 0 0, .int .i64 35]) ∧ Below w.heap.size w w' := by
  unfold dV
  by_cases h0 : n < 0
  · go_enter Tryz.func100, Tryz.ntmps100
    go_wp2
    go_returns
    exact ⟨rfl, (Below.refl _ _).alloc (Nat.le_refl _) _⟩
  · have h1 : 3652424 < n := by omega
    go_enter Tryz.func100, Tryz.ntmps100
    go_wp2
    go_returns
    exact ⟨rfl, (Below.refl _ _).alloc (Nat.le_refl _) _⟩

/-- both sides answer the same -/
theorem of_both (n : Int) : ∃ y m d e : Int, (∀ w, HasAh w → Calls Tryz.prog 33 #[.int .i64 n] w fun x w' => x = .returned (.tuple #[dV y m d, .int .i64 e]) ∧ Below w.heap.size w w') ∧
    (∀ w, Calls Tryz.prog 100 #[.int .i64 n] w fun x w' => x = .returned (.tuple #[dV y m d, .int .i64 e]) ∧ Below w.heap.size w w') := by
  by_cases h : 0 ≤ n ∧ n ≤ 3652424
  · exact ⟨_, _, _, _, fun w hA => of_good n h.1 h.2 w hA, fun w => refOf_good n h.1 h.2 w⟩
  · exact ⟨_, _, _, _, fun w _ => of_bad n (by omega) w, fun w => refOf_bad n (by omega) w⟩

/-- nothing old has turned -/
def Later (w w' : World) : Prop := Below w.heap.size w w'

end Go.Proofs.YtcmllfipaiacfaaGreatDoor
