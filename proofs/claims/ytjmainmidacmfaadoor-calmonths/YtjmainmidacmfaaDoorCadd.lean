/-
  Months added to a day, a span to an instant.
-/
import Derived.Test.YtjmainmidacmfaaDoorCspan
namespace Go.Proofs.YtjmainmidacmfaaDoor
open Go.RowKit
set_option maxRecDepth 100000

/-- the month's number behind so many months -/
def mk (n mo : Int) : Int := 12 * dY n + dM n - 1 + mo
def aD (n mo : Int) : Int := min (dD n) (lg (mk n mo / 12) (mk n mo % 12 + 1))
/-- the day's number behind so many months -/
def am (n mo : Int) : Int := nb (mk n mo / 12) (mk n mo % 12 + 1) (aD n mo)

theorem am_vd (n mo : Int) (h : 0 ≤ n ∧ n ≤ 3652424) (h0 : 0 ≤ mk n mo) (h1 : mk n mo < 120000) : VD (mk n mo / 12) (mk n mo % 12 + 1) (aD n mo) := by
  have hd := (dt_is n h).1
  have hl := lg_le (mk n mo / 12) (mk n mo % 12 + 1)
  have hd1 := hd.2.2.2.2.1
  refine ⟨by omega, by omega, by omega, by omega, ?_, ?_⟩
  · unfold aD; omega
  · unfold aD; omega

theorem am_range (n mo : Int) (h : 0 ≤ n ∧ n ≤ 3652424) (h0 : 0 ≤ mk n mo) (h1 : mk n mo < 120000) : 0 ≤ am n mo ∧ am n mo ≤ 3652424 :=
  nb_range _ _ _ (am_vd n mo h h0 h1)

set_option maxHeartbeats 4000000 in
theorem addMonths_any (n mo : Int) (h : 0 ≤ n ∧ n ≤ 3652424) (hm : -20000000000 ≤ mo ∧ mo ≤ 20000000000) (w : World) (hA : HasAh w) :
    Calls Tryd.prog 30 #[.int .i64 n, .int .i64 mo] w fun e w' =>
      e = .returned (if 0 ≤ mk n mo ∧ mk n mo < 120000 then .tuple #[.int .i64 (am n mo), .int .i64 0] else .tuple #[.int .i64 0, .int .i64 35]) ∧ Below w.heap.size w w' := by
  have HA := hid hA
  have HD := hid (fun w h' => dateOf_any n h.1 h.2 w h')
  have hd := (dt_is n h).1
  have hvd := am_vd n mo h
  have hl := lg_le (dY n) (dM n)
  have ham : am n mo = nb (mk n mo / 12) (mk n mo % 12 + 1) (aD n mo) := rfl
  have had : min (dD n) (lg (mk n mo / 12) (mk n mo % 12 + 1)) = aD n mo := rfl
  have hmk : 12 * dY n + dM n - 1 + mo = mk n mo := rfl
  have hy : 0 ≤ dY n ∧ dY n ≤ 9999 := ⟨hd.1, hd.2.1⟩
  have hm1 : 1 ≤ dM n ∧ dM n ≤ 12 := ⟨hd.2.2.1, hd.2.2.2.1⟩
  have hd1 : 1 ≤ dD n ∧ dD n ≤ 31 := ⟨hd.2.2.2.2.1, by have := hd.2.2.2.2.2; omega⟩
  clear hA hd hl h
  generalize dY n = y at *
  generalize dM n = m at *
  generalize dD n = d at *
  generalize mk n mo = k at *
  generalize am n mo = r at *
  generalize aD n mo = d2 at *
  unfold dV at *
  by_cases hk0 : 0 ≤ k
  · by_cases hk1 : k < 120000
    · rw [if_pos ⟨hk0, hk1⟩]
      have hv2 := hvd hk0 hk1
      have HN := hid (fun w h => numberOf_any _ _ _ hv2 w h)
      have HM := hid (fun w h => monthDays_any (k / 12) (k % 12 + 1) (by omega) (by omega) (by omega) w h)
      have hg := lg_le (k / 12) (k % 12 + 1)
      rw [← ham] at HN
      generalize lg (k / 12) (k % 12 + 1) = g at *
      have hq : k.tdiv 12 = k / 12 := Int.tdiv_eq_ediv_of_nonneg hk0
      have hr : k.tmod 12 = k % 12 := Int.tmod_eq_emod_of_nonneg hk0
      have hq1 : 0 ≤ k / 12 ∧ k / 12 ≤ 9999 := by omega
      have hr1 : 0 ≤ k % 12 ∧ k % 12 ≤ 11 := by omega
      have HAD := hid had
      clear hvd hv2 ham had
      unfold dV at *
      go_enter Tryd.func30, Tryd.ntmps30
      go_wp2_with fail
      refine (HD.out _ HA.out).mono ?_
      rintro e w1 ⟨rfl, hb1⟩
      have HA1 := hid (HasAh.below HA.out hb1)
      clear HD
      go_upto_region 6 with fail
      have hmin : (d ≤ g ∧ d2 = d) ∨ (¬ d ≤ g ∧ d2 = g) := by rw [← HAD.out]; omega
      clear HAD
      rcases hmin with ⟨hdg, rfl⟩ | ⟨hdg, rfl⟩
      · go_region_with (first
          | (go_at_call 33; refine (HM.out _ ((HA1.out.alloc _).below ((Below.refl _ _).drew))).mono ?_; rintro e w2 ⟨rfl, rfl⟩))
        all_goals (go_wp2_with fail)
        all_goals (refine (HN.out _ ((HA1.out.alloc _).below ((Below.refl _ _).drew))).mono ?_)
        all_goals (rintro e w3 ⟨rfl, hb3⟩)
        all_goals (go_wp2)
        all_goals go_ret2
        all_goals exact ⟨rfl, ((hb1.alloc hb1.size _).drew).trans (hb3.mono (by have := hb1.size; simp; omega))⟩
      · go_region_with (first
          | (go_at_call 33; refine (HM.out _ ((HA1.out.alloc _).below ((Below.refl _ _).drew))).mono ?_; rintro e w2 ⟨rfl, rfl⟩))
        all_goals (go_wp2_with fail)
        all_goals (refine (HN.out _ ((HA1.out.alloc _).below ((Below.refl _ _).drew))).mono ?_)
        all_goals (rintro e w3 ⟨rfl, hb3⟩)
        all_goals (go_wp2)
        all_goals go_ret2
        all_goals exact ⟨rfl, ((hb1.alloc hb1.size _).drew).trans (hb3.mono (by have := hb1.size; simp; omega))⟩
    · rw [if_neg (fun x => hk1 x.2)]
      clear hvd ham had
      go_enter Tryd.func30, Tryd.ntmps30
      go_wp2_with fail
      refine (HD.out _ HA.out).mono ?_
      rintro e w1 ⟨rfl, hb1⟩
      clear HD
      go_wp2
      go_ret2
      exact ⟨rfl, hb1.alloc hb1.size _⟩
  · rw [if_neg (fun x => hk0 x.1)]
    clear hvd ham had
    go_enter Tryd.func30, Tryd.ntmps30
    go_wp2_with fail
    refine (HD.out _ HA.out).mono ?_
    rintro e w1 ⟨rfl, hb1⟩
    clear HD
    go_wp2
    go_ret2
    exact ⟨rfl, hb1.alloc hb1.size _⟩
end Go.Proofs.YtjmainmidacmfaaDoor
