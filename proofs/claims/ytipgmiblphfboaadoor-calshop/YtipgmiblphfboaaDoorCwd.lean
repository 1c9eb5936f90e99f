/-
  The day of the week, and the statements' own at, for a seat that has no weeks.
-/
import Derived.Test.YtipgmiblphfboaaDoorCof
namespace Go.Proofs.YtipgmiblphfboaaDoor
open Go.RowKit
set_option maxRecDepth 100000

theorem weekday_any (n : Int) (h1 : -1000 ≤ n) (h2 : n ≤ 4000000) (w : World) :
    Calls Tryd.prog 31 #[.int .i64 n] w fun e w' => e = .returned (.int .i64 (wd n)) ∧ w' = w := by
  obtain ⟨r, hr, hr1, hr2, hwd⟩ : ∃ r : Int, n.tmod 7 = r ∧ -7 < r ∧ r < 7 ∧ wd n = (r + 7 + 5) % 7 := by
    by_cases h0 : 0 ≤ n
    · exact ⟨_, Int.tmod_eq_emod_of_nonneg h0, by omega, by omega, by unfold wd; omega⟩
    · refine ⟨-((-n) % 7), ?_, by omega, by omega, by unfold wd; omega⟩
      have : n = -(-n) := by omega
      rw [this, Int.neg_tmod, Int.tmod_eq_emod_of_nonneg (by omega), Int.neg_neg]
  have hq : (r + 7 + 5).tmod 7 = (r + 7 + 5) % 7 := Int.tmod_eq_emod_of_nonneg (by omega)
  have hb : 0 ≤ (r + 7 + 5) % 7 ∧ (r + 7 + 5) % 7 < 7 := by omega
  rw [hwd]
  clear hwd
  go_enter Tryd.func31, Tryd.ntmps31
  go_wp2
  go_ret
  exact ⟨by first | rfl | exact ret_int (by omega), rfl⟩

theorem at_any (n : Int) (hx : -9223372036854775808 ≤ n ∧ n ≤ 9223372036854775807) (w : World) (hA : HasAh w) :
    Calls Tryd.prog 8 #[.int .i64 n] w fun e w' => e = .returned (dV (dY (wi n 0 3652424)) (dM (wi n 0 3652424)) (dD (wi n 0 3652424))) ∧ Below w.heap.size w w' := by
  have HA := hid hA
  have HW := hid (fun w => within_any n 0 3652424 hx (by omega) (by omega) (by omega) w)
  have hk := wi_in n 0 3652424 (by omega)
  generalize wi n 0 3652424 = k at *
  have HO := hid (fun w h => of_good k hk.1 hk.2 w h)
  clear hA hx
  generalize dY k = y at *
  generalize dM k = m at *
  generalize dD k = d at *
  unfold dV at *
  go_enter Tryd.func8, Tryd.ntmps8
  go_wp2_with fail
  refine (HW.out _).mono ?_
  rintro e w' ⟨rfl, rfl⟩
  go_wp2_with fail
  refine (HO.out _ (HA.out.alloc _)).mono ?_
  rintro e w1 ⟨rfl, hb1⟩
  obtain ⟨k0, k1, k2, hB, hz⟩ := date_cells w w1 _ _ _ hb1
  have hbx : Box w1 w.heap.size 0 0 0 := (Box.new w 0 0 0).later hb1
  obtain ⟨_, _, _, f0, f1, f2, _⟩ := hbx.facts
  obtain ⟨d0, d1, d2, _⟩ := ((hbx.put y m d).later ((Below.refl _ _).alloc (Nat.le_refl _) (.cells #[.int .i64 y, .int .i64 m, .int .i64 d] 33))).facts
  have hne2 : ¬ w.heap.size = w1.heap.size := by omega
  clear hb1 HO hbx
  go_wp2
  refine bodyPost_ret (by simp [results, Tryd.results8, go_sem, d0, d1, d2]; try rfl) rfl ?_
  exact ⟨rfl, by first
    | exact (((hB.alloc hB.size _).setCell (Nat.le_refl _) _).setCell (Nat.le_refl _) _).setCell (Nat.le_refl _) _
    | exact (((hB.setCell (Nat.le_refl _) _).setCell (Nat.le_refl _) _).setCell (Nat.le_refl _) _).alloc (by simpa using hB.size) _⟩
end Go.Proofs.YtipgmiblphfboaaDoor
