/-
  The document's own List, whatever is asked; two lists of days held against one another.
-/
import Derived.Test.YtjmainmidacmfaaDoorRlist
namespace Go.Proofs.YtjmainmidacmfaaDoor
open Go.RowKit
set_option maxRecDepth 100000

set_option maxHeartbeats 1000000 in
theorem list_none (y m d y' m' d' a b r1 r2 s0 most : Int) (hr : (r1 = 30) ∨ (r1 = 0 ∧ r2 = 30) ∨ (r1 = 0 ∧ r2 = 0 ∧ s0 = 0))
    (D1 : ∀ w, Calls Tryd.prog 37 #[dV y m d] w fun e w' => e = .returned (.tuple #[.int .i64 a, .int .i64 r1]) ∧ Below w.heap.size w w')
    (D2 : ∀ w, Calls Tryd.prog 37 #[dV y' m' d'] w fun e w' => e = .returned (.tuple #[.int .i64 b, .int .i64 r2]) ∧ Below w.heap.size w w') (w : World) :
    Calls Tryd.prog 20 #[dV y m d, dV y' m' d', .int .i64 s0, .int .i64 most] w fun e w' => e = .returned (.slice none 0 0) ∧ Below w.heap.size w w' := by
  have HD1 := hid D1
  have HD2 := hid D2
  clear D1 D2
  unfold dV at *
  have B0 := hid (show Below w.heap.size w ((w.alloc (.cells #[.int .i64 y, .int .i64 m, .int .i64 d] 36)).alloc (.cells #[.int .i64 y', .int .i64 m', .int .i64 d'] 36)) from ((Below.refl _ _).alloc (Nat.le_refl _) _).alloc (by simp) _)
  have X0 := hid (show Box ((w.alloc (.cells #[.int .i64 y, .int .i64 m, .int .i64 d] 36)).alloc (.cells #[.int .i64 y', .int .i64 m', .int .i64 d'] 36)) (w.heap.size + 1) y' m' d' by
    have h := Box.new (w.alloc (.cells #[.int .i64 y, .int .i64 m, .int .i64 d] 36)) y' m' d'
    rw [World.size_alloc] at h
    exact h)
  rcases hr with rfl | ⟨rfl, rfl⟩ | ⟨rfl, rfl, rfl⟩
  all_goals
    go_enter Tryd.func20, Tryd.ntmps20
    go_wp2_with fail
    refine (HD1.out _).mono ?_
    rintro e w1 ⟨rfl, hb1⟩
    have X1 := hid (X0.out.later hb1)
    have B1 := hid (B0.out.trans (hb1.mono B0.out.size))
    obtain ⟨k0, k1, k2, _⟩ := X1.out.facts
    clear hb1
    go_wp2_with fail
    refine (HD2.out _).mono ?_
    rintro e w2 ⟨rfl, hb2⟩
    have B2 := hid (B1.out.trans (hb2.mono B1.out.size))
    clear hb2 k0 k1 k2 X1 X0 HD1 HD2 B1 B0
    go_wp2
    go_ret
    exact ⟨rfl, B2.out⟩

theorem refList_any (y m d y' m' d' s most : Int) (w : World) :
    Calls Tryd.prog 20 #[dV y m d, dV y' m' d', .int .i64 s, .int .i64 most] w fun e w' => (∃ v, e = .returned v ∧ RD w' v (wkK (cnE (dn y m d) (dn y' m' d') (stE y m d y' m' d' s)) most) (fun j => dn y m d + (j : Int) * stE y m d y' m' d' s)) ∧ Below w.heap.size w w' := by
  have D1 := fun w => refDays_any y m d w
  have D2 := fun w => refDays_any y' m' d' w
  have ha := dn_in y m d
  have hb := dn_in y' m' d'
  have e1 : (if VD y m d then nb y m d else 0) = dn y m d := rfl
  have e2 : (if VD y' m' d' then nb y' m' d' else 0) = dn y' m' d' := rfl
  rw [e1] at D1
  rw [e2] at D2
  by_cases h : VD y m d ∧ VD y' m' d' ∧ s ≠ 0
  · obtain ⟨h1, h2, h3⟩ := h
    rw [if_pos h1] at D1
    rw [if_pos h2] at D2
    have hst : stE y m d y' m' d' s = clS s := if_pos ⟨h1, h2⟩
    by_cases p : 0 < s
    · by_cases q : s ≤ 3652425
      · rw [hst, show clS s = s by unfold clS; omega]
        exact list_up y m d y' m' d' _ _ s most ha hb ⟨p, q⟩ D1 D2 w
      · rw [hst, show clS s = 3652425 by unfold clS; omega]
        exact list_upc y m d y' m' d' _ _ s most ha hb (by omega) D1 D2 w
    · by_cases q : -3652425 ≤ s
      · rw [hst, show clS s = s by unfold clS; omega]
        exact list_dn y m d y' m' d' _ _ s most ha hb ⟨by omega, q⟩ D1 D2 w
      · rw [hst, show clS s = -3652425 by unfold clS; omega]
        exact list_dnc y m d y' m' d' _ _ s most ha hb (by omega) D1 D2 w
  · have hst : stE y m d y' m' d' s = 0 := by
      unfold stE
      split
      · rename_i hv
        have : s = 0 := by
          by_cases e : s = 0
          · exact e
          · exact absurd ⟨hv.1, hv.2, e⟩ h
        rw [this]; rfl
      · rfl
    rw [hst, cn_zero]
    have hk : wkK 0 most = 0 := by unfold wkK; split <;> omega
    rw [hk]
    refine (list_none y m d y' m' d' _ _ _ _ s most ?_ D1 D2 w).mono ?_
    · by_cases h1 : VD y m d
      · by_cases h2 : VD y' m' d'
        · right; right
          refine ⟨if_pos h1, if_pos h2, ?_⟩
          by_cases e : s = 0
          · exact e
          · exact absurd ⟨h1, h2, e⟩ h
        · right; left
          exact ⟨if_pos h1, if_neg h2⟩
      · left
        exact if_neg h1
    · rintro e w' ⟨rfl, hb⟩
      exact ⟨⟨_, rfl, .inl ⟨rfl, _, _, rfl⟩⟩, hb⟩

set_option maxHeartbeats 1000000 in
theorem dates_any (v1 v2 : Value) (n : Nat) (f : Nat → Int) (hn : n ≤ 100000000) (w : World) (h1 : RD w v1 n f) (h2 : RD w v2 n f) :
    Calls Tryd.prog 21 #[v1, v2] w fun e w' => e = .returned (.bool true) ∧ Below w.heap.size w w' := by
  by_cases h0 : n = 0
  · subst h0
    obtain ⟨a1, c1, rfl⟩ : ∃ ao cap, v1 = .slice ao 0 cap := by
      rcases h1 with ⟨_, ao, c, h⟩ | ⟨g, c, h, _⟩
      · exact ⟨_, _, h⟩
      · exact ⟨_, _, h⟩
    obtain ⟨a2, c2, rfl⟩ : ∃ ao cap, v2 = .slice ao 0 cap := by
      rcases h2 with ⟨_, ao, c, h⟩ | ⟨g, c, h, _⟩
      · exact ⟨_, _, h⟩
      · exact ⟨_, _, h⟩
    clear h1 h2
    go_enter Tryd.func21, Tryd.ntmps21
    go_wp2_with fail
    go_rounds 1
    go_ret
    exact ⟨rfl, Below.refl _ _⟩
  · rcases h1 with ⟨h, _⟩ | ⟨g1, c1, rfl, hc1, hcell1⟩
    · exact absurd h h0
    rcases h2 with ⟨h, _⟩ | ⟨g2, c2, rfl, hc2, hcell2⟩
    · exact absurd h h0
    have HC1 := hid hcell1
    have HC2 := hid hcell2
    clear hcell1 hcell2 h0
    go_enter Tryd.func21, Tryd.ntmps21
    go_wp2_with fail
    go_loopw [5] (fun i wr => ∃ k : Nat, i = .int .i64 (k : Int) ∧ k ≤ n ∧ Below w.heap.size w wr) (fun i _ => n - (intOf i).toNat)
    case atStart => exact ⟨0, rfl, by omega, Below.refl _ _⟩
    case round =>
      obtain ⟨k, rfl, hk, hB⟩ := hrel
      have HB := hid hB
      clear hB
      by_cases hlt : k < n
      · have c := HC1.out k hlt
        have d := HC2.out k hlt
        have k0 := cell_old c.1 HB.out
        have k1 := cell_old c.2.1 HB.out
        have k2 := cell_old c.2.2 HB.out
        have d0 := cell_old d.1 HB.out
        have d1 := cell_old d.2.1 HB.out
        have d2 := cell_old d.2.2 HB.out
        clear c d
        generalize dY (f k) = y1 at *
        generalize dM (f k) = m1 at *
        generalize dD (f k) = dd1 at *
        go_wp2_with fail
        go_quiet (fail)
        have HBd := hid (HB.out.trans (below_drewN (Below.refl _ _) nq))
        clear k0 k1 k2 d0 d1 d2
        go_wp2
        go_roundw
        case rel => exact ⟨k + 1, by go_num, by omega, HBd.out⟩
        case measure => simp [intOf]; omega
      · go_wp2
        go_ret
        exact ⟨rfl, HB.out⟩
end Go.Proofs.YtjmainmidacmfaaDoor
