/-
  The statements' own at.
-/
import Derived.Test.YtjmainmidacmfaaDoorCof
namespace Go.Proofs.YtjmainmidacmfaaDoor
open Go.RowKit
set_option maxRecDepth 100000

theorem at_anyE (n : Int) (hx : -9223372036854775808 ≤ n ∧ n ≤ 9223372036854775807) (w : World) (hA : HasAh w) :
    Calls Tryd.prog 14 #[.int .i64 n] w fun e w' => e = .returned (dV (dY (wi n 0 3652424)) (dM (wi n 0 3652424)) (dD (wi n 0 3652424))) ∧ Below w.heap.size w w' := by
  have HA := hid hA
  have HW := hid (fun w => within_any n 0 3652424 hx (by omega) (by omega) (by omega) w)
  have hk := wi_in n 0 3652424 (by omega)
  generalize wi n 0 3652424 = k at *
  have HO := hid (fun w h => of_good k hk.1 hk.2 w h)
  clear hA hx
  generalize dY k = y at *
  generalize dM k = m at *
  generalize dD k = d at *
  unfold dV at *
  go_enter Tryd.func14, Tryd.ntmps14
  go_wp2_with fail
  refine (HW.out _).mono ?_
  rintro e w' ⟨rfl, rfl⟩
  go_wp2_with fail
  refine (HO.out _ (HA.out.alloc _)).mono ?_
  rintro e w1 ⟨rfl, hb1⟩
  obtain ⟨k0, k1, k2, hB, hz⟩ := date_cells w w1 _ _ _ hb1
  have hbx : Box w1 w.heap.size 0 0 0 := (Box.new w 0 0 0).later hb1
  obtain ⟨_, _, _, f0, f1, f2, _⟩ := hbx.facts
  obtain ⟨d0, d1, d2, _⟩ := ((hbx.put y m d).later ((Below.refl _ _).alloc (Nat.le_refl _) (.cells #[.int .i64 y, .int .i64 m, .int .i64 d] 36))).facts
  have hne2 : ¬ w.heap.size = w1.heap.size := by omega
  clear hb1 HO hbx
  go_wp2
  refine bodyPost_ret (by simp [results, Tryd.results14, go_sem, d0, d1, d2]; try rfl) rfl ?_
  exact ⟨rfl, by first
    | exact (((hB.alloc hB.size _).setCell (Nat.le_refl _) _).setCell (Nat.le_refl _) _).setCell (Nat.le_refl _) _
    | exact (((hB.setCell (Nat.le_refl _) _).setCell (Nat.le_refl _) _).setCell (Nat.le_refl _) _).alloc (by simpa using hB.size) _⟩
end Go.Proofs.YtjmainmidacmfaaDoor
