/-
  Of; the statements' own within and at.
-/
import Derived.Test.YtjmainmidacmfaaDoorCday
namespace Go.Proofs.YtjmainmidacmfaaDoor
open Go.RowKit
set_option maxRecDepth 100000

theorem of_good (n : Int) (h0 : 0 ≤ n) (h1 : n ≤ 3652424) (w : World) (hA : HasAh w) :
    Calls Tryd.prog 16 #[.int .i64 n] w fun e w' => e = .returned (.tuple #[dV (dY n) (dM n) (dD n), .int .i64 0]) ∧ Below w.heap.size w w' := by
  have HA : Hid (HasAh w) := hA
  have HD : Hid (_) := fun w h => dateOf_any n h0 h1 w h
  clear hA
  generalize dY n = y at *
  generalize dM n = m at *
  generalize dD n = d at *
  unfold dV at *
  go_enter Tryd.func16, Tryd.ntmps16
  go_wp2_with fail
  refine (HD.out _ (HA.out.alloc _)).mono ?_
  rintro e w1 ⟨rfl, hb1⟩
  obtain ⟨k0, k1, k2, hB, hz⟩ := date_cells w w1 _ _ _ hb1
  have hbx : Box w1 w.heap.size 0 0 0 := (Box.new w 0 0 0).later hb1
  obtain ⟨_, _, _, f0, f1, f2, _⟩ := hbx.facts
  obtain ⟨d0, d1, d2, _⟩ := (hbx.put y m d).facts
  clear hb1 HD hbx
  go_wp2
  refine bodyPost_ret (by simp [results, Tryd.results16, go_sem, d0, d1, d2]; try rfl) rfl ?_
  exact ⟨rfl, ((hB.setCell (Nat.le_refl _) _).setCell (Nat.le_refl _) _).setCell (Nat.le_refl _) _⟩

theorem of_bad (n : Int) (h : n < 0 ∨ 3652424 < n) (w : World) :
    Calls Tryd.prog 16 #[.int .i64 n] w fun e w' => e = .returned (.tuple #[dV 0 0 0, .int .i64 35]) ∧ Below w.heap.size w w' := by
  unfold dV
  by_cases h0 : n < 0
  · go_enter Tryd.func16, Tryd.ntmps16
    go_wp2
    go_returns
    exact ⟨rfl, (Below.refl _ _).alloc (Nat.le_refl _) _⟩
  · have h1 : 3652424 < n := by omega
    go_enter Tryd.func16, Tryd.ntmps16
    go_wp2
    go_returns
    exact ⟨rfl, (Below.refl _ _).alloc (Nat.le_refl _) _⟩

/-- a number made one from lo to hi -/
def wi (x lo hi : Int) : Int := lo + (if x < 0 then -(x + 1) else x) % (hi - lo + 1)

theorem wi_in (x lo hi : Int) (h : lo ≤ hi) : lo ≤ wi x lo hi ∧ wi x lo hi ≤ hi := by
  unfold wi
  have a := Int.emod_nonneg (if x < 0 then -(x + 1) else x) (show hi - lo + 1 ≠ 0 by omega)
  have b := Int.emod_lt_of_pos (if x < 0 then -(x + 1) else x) (show 0 < hi - lo + 1 by omega)
  omega
theorem wi_self (x hi : Int) (h0 : 0 ≤ x) (h : x ≤ hi) : wi x 0 hi = x := by
  unfold wi
  rw [if_neg (by omega), Int.emod_eq_of_lt h0 (by omega)]
  omega

theorem within_any (x lo hi : Int) (hx : -9223372036854775808 ≤ x ∧ x ≤ 9223372036854775807) (h1 : -10000 ≤ lo) (h2 : lo ≤ hi) (h3 : hi ≤ 1000000000000) (w : World) :
    Calls Tryd.prog 12 #[.int .i64 x, .int .i64 lo, .int .i64 hi] w fun e w' => e = .returned (.int .i64 (wi x lo hi)) ∧ w' = w := by
  have hin := wi_in x lo hi h2
  unfold wi at hin ⊢
  obtain ⟨D, hD⟩ : ∃ D : Nat, (D : Int) = hi - lo + 1 := ⟨(hi - lo + 1).toNat, by omega⟩
  have hD0 : (D : Int) ≠ 0 := by omega
  have hDp : 0 < (D : Int) := by omega
  rw [← hD] at hin ⊢
  obtain rfl : hi = lo + (D : Int) - 1 := by omega
  have hs : lo + (D : Int) - 1 - lo = (D : Int) - 1 := by omega
  have hs2 : (D : Int) - 1 + 1 = (D : Int) := by omega
  by_cases hneg : x < 0
  · rw [if_pos hneg] at hin ⊢
    obtain ⟨X, hX⟩ : ∃ X : Nat, x + 1 = -(X : Int) := ⟨(-(x + 1)).toNat, by omega⟩
    have hT : (x + 1).tmod (D : Int) = -((X : Int) % (D : Int)) := by rw [hX, Int.neg_tmod, Int.tmod_eq_emod_of_nonneg (by omega)]
    rw [hX, Int.neg_neg] at hin ⊢
    have hm0 := Int.emod_nonneg (X : Int) hD0
    have hm1 := Int.emod_lt_of_pos (X : Int) hDp
    have HX : Hid (_) := hX
    clear hX hD
    generalize (X : Int) % (D : Int) = r at *
    go_enter Tryd.func12, Tryd.ntmps12
    go_wp2
    go_ret
    exact ⟨rfl, rfl⟩
  · rw [if_neg hneg] at hin ⊢
    obtain ⟨X, hX⟩ : ∃ X : Nat, x = (X : Int) := ⟨x.toNat, by omega⟩
    subst hX
    have hm0 := Int.emod_nonneg (X : Int) hD0
    have hm1 := Int.emod_lt_of_pos (X : Int) hDp
    clear hD
    go_enter Tryd.func12, Tryd.ntmps12
    go_wp2
    go_ret
    exact ⟨rfl, rfl⟩
end Go.Proofs.YtjmainmidacmfaaDoor
