/-
  The document's own List.
-/
import Derived.Test.YtjmainmidacmfaaDoorRDay
import Derived.Test.YtjmainmidacmfaaDoorRof
namespace Go.Proofs.YtjmainmidacmfaaDoor
open Go.RowKit
set_option maxRecDepth 100000

theorem wk_stop {n : Nat} {most : Int} {k : Nat} (h1 : k ≤ n) (h2 : (k : Int) ≤ max most 0) (h3 : ¬ (k < n ∧ (k : Int) < most)) : k = wkK n most := by
  unfold wkK
  split <;> omega

theorem own_belowE {w w' : World} {base : Nat} {e : TypeId} {size : Nat} {v : Value} {n : Nat} {xs : List Value} (h : w.ownsRow base e size v n xs) (hb : Below w.heap.size w w') : w'.ownsRow base e size v n xs :=
  h.kept (Below.grew hb) (by cases v.ownBlock <;> simp)

set_option maxHeartbeats 1000000 in
theorem list_up (y m d y' m' d' a b s0 most : Int) (ha : 0 ≤ a ∧ a ≤ 3652424) (hb : 0 ≤ b ∧ b ≤ 3652424) (hs : 0 < s0 ∧ s0 ≤ 3652425)
    (D1 : ∀ w, Calls Tryd.prog 37 #[dV y m d] w fun e w' => e = .returned (.tuple #[.int .i64 a, .int .i64 0]) ∧ Below w.heap.size w w')
    (D2 : ∀ w, Calls Tryd.prog 37 #[dV y' m' d'] w fun e w' => e = .returned (.tuple #[.int .i64 b, .int .i64 0]) ∧ Below w.heap.size w w') (w : World) :
    Calls Tryd.prog 20 #[dV y m d, dV y' m' d', .int .i64 s0, .int .i64 most] w fun e w' => (∃ v, e = .returned v ∧ RD w' v (wkK (cnE a b s0) most) (fun j => a + (j : Int) * s0)) ∧ Below w.heap.size w w' := by
  obtain ⟨i0, hi, hz0, hz1, hz2⟩ := info_parts dateinfo
  have hN := cn_le a b s0 ha hb
  have HCN := hid (fun k : Nat => cn_pos (a := a) (b := b) (s := s0) (by omega) k)
  have HKK := hid (fun (k : Nat) h1 h2 h3 => wk_stop (n := cnE a b s0) (most := most) (k := k) h1 h2 h3)
  have HD1 := hid D1
  have HD2 := hid D2
  generalize cnE a b s0 = N at *
  obtain ⟨KK, hKK⟩ : ∃ KK, wkK N most = KK := ⟨_, rfl⟩
  rw [hKK] at HKK ⊢
  clear D1 D2 hKK
  unfold dV at *
  have B0 := hid (show Below w.heap.size w ((w.alloc (.cells #[.int .i64 y, .int .i64 m, .int .i64 d] 36)).alloc (.cells #[.int .i64 y', .int .i64 m', .int .i64 d'] 36)) from ((Below.refl _ _).alloc (Nat.le_refl _) _).alloc (by simp) _)
  have X0 := hid (show Box ((w.alloc (.cells #[.int .i64 y, .int .i64 m, .int .i64 d] 36)).alloc (.cells #[.int .i64 y', .int .i64 m', .int .i64 d'] 36)) (w.heap.size + 1) y' m' d' by
    have h := Box.new (w.alloc (.cells #[.int .i64 y, .int .i64 m, .int .i64 d] 36)) y' m' d'
    rw [World.size_alloc] at h
    exact h)
  have hsz : (s0 == 0) = false := by simp; omega
  go_enter Tryd.func20, Tryd.ntmps20
  go_wp2_with fail
  refine (HD1.out _).mono ?_
  rintro e w1 ⟨rfl, hb1⟩
  have X1 := hid (X0.out.later hb1)
  have B1 := hid (B0.out.trans (hb1.mono B0.out.size))
  obtain ⟨k0, k1, k2, _⟩ := X1.out.facts
  clear hb1
  go_wp2_with fail
  refine (HD2.out _).mono ?_
  rintro e w2 ⟨rfl, hb2⟩
  have B2 := hid (B1.out.trans (hb2.mono B1.out.size))
  clear hb2 k0 k1 k2 X1 X0 HD1 HD2 B1 B0
  go_wp2_with fail
  go_loopw [9, 14] (fun l n wr => ∃ (k : Nat) (p : Int), k ≤ N ∧ (k : Int) ≤ max most 0 ∧ Hid (p = a + (k : Int) * s0) ∧ n = .int .i64 p ∧ 0 ≤ p ∧ p ≤ 7304849 ∧ wr.ownsRow w.heap.size 36 3 l k (dc (upE a s0 k)) ∧ Below w.heap.size w wr) (fun _ n _ => (b + 1 - intOf n).toNat)
  case atStart => exact ⟨0, a, Nat.zero_le _, by omega, hid (by omega), rfl, by omega, by omega, World.ownsRow_nil _ _ _ _, B2.out⟩
  case round =>
    obtain ⟨k, p, hk, hkm, hp, rfl, hp0, hp1, hown, hB⟩ := hrel
    have HO := hid hown
    have HB := hid hB
    have hiff := HCN.out k
    rw [← hp.out] at hiff
    have HKm := hid hkm
    have hvl : ∃ ao cap, u9 = .slice ao k cap := by
      rcases hown.2 with ⟨rfl, rfl⟩ | ⟨g, cap, cur, rfl, _⟩
      · exact ⟨_, _, rfl⟩
      · exact ⟨_, _, rfl⟩
    obtain ⟨ao, cap, rfl⟩ := hvl
    clear hown hB hkm B2
    by_cases hlt : p ≤ b
    · have hk1 : k < N := hiff.2 hlt
      by_cases hlm : (k : Int) < most
      · have HD := hid (fun w => refDate_any p (by omega) (by omega) w)
        have HP := hid (show p + s0 = a + ((k + 1 : Nat) : Int) * s0 by rw [hp.out, Int.natCast_add, Int.add_mul]; omega)
        have HU := hid (show dc (upE a s0 k) ++ dcE p = dc (upE a s0 (k + 1)) by rw [upE_succ, dc_snoc, ← hp.out])
        clear hiff
        unfold dV at HD
        go_wp2_with fail
        refine (HD.out _).mono ?_
        rintro e w3 ⟨rfl, hb3⟩
        have HO3 := hid ((own_belowE HO.out hb3).alloc (.cells #[.int .i64 (dY p), .int .i64 (dM p), .int .i64 (dD p)] 36))
        have HB3 := hid ((HB.out.trans (hb3.mono HB.out.size)).alloc (HB.out.trans (hb3.mono HB.out.size)).size (.cells #[.int .i64 (dY p), .int .i64 (dM p), .int .i64 (dD p)] 36))
        have X3 := hid (Box.new w3 (dY p) (dM p) (dD p))
        clear hb3 HO HB HD
        obtain ⟨w4, hw4⟩ : ∃ w4, w3.alloc (.cells #[.int .i64 (dY p), .int .i64 (dM p), .int .i64 (dD p)] 36) = w4 := ⟨_, rfl⟩
        rw [hw4] at HO3 HB3 X3
        obtain ⟨k0, k1, k2, _⟩ := X3.out.facts
        have hz4 := HB3.out.size
        go_wp2_with (at_builtin; refine wpList_append_own _ rfl _ _ 44 rfl w.heap.size 36 i0 (.agg #[.int .i64 0, .int .i64 0, .int .i64 0]) 3 24 Tryd.underlying44 hi hz0 hz1 hz2 rfl (by decide) _ _ _ rfl (HO3.out.alloc _) ⟨w4.heap.size, 0, none⟩ 1 1 (dcE p) rfl rfl (three_new w4 p) (three_one p) (by unfold maxLen; omega) (by omega) (by simp; omega) ?_)
        intro v' w5 hown' hgrow _
        have HO5 := hid hown'
        rw [HU.out] at HO5
        have HB5 := hid ((HB3.out.alloc HB3.out.size (.cells #[.int .i64 (dY p), .int .i64 (dM p), .int .i64 (dD p)] 36)).grown hgrow (by simp; omega) (fun j ej => (World.ownsRow.lt HO3.out j ej).1))
        clear hown' hgrow k0 k1 k2 hw4 HO3 HB3 X3
        go_wp2
        go_roundw
        case rel => exact ⟨k + 1, p + s0, hk1, by omega, HP.out, by go_num, by omega, by omega, HO5.out, HB5.out⟩
        case measure => simp [intOf]; omega
      · have hkk := HKK.out k hk HKm.out (fun h => hlm h.2)
        have HR := hid (RD.of_row HO.out)
        have HKE := hid hkk
        clear hiff hkk HKK
        go_wp2
        go_ret
        rw [← HKE.out]
        exact ⟨⟨_, rfl, HR.out⟩, HB.out⟩
    · have hkk := HKK.out k hk HKm.out (fun h => hlt (hiff.1 h.1))
      have HR := hid (RD.of_row HO.out)
      have HKE := hid hkk
      clear hiff hkk HKK
      by_cases hin : p ≤ 3652424
      · go_wp2
        go_ret
        rw [← HKE.out]
        exact ⟨⟨_, rfl, HR.out⟩, HB.out⟩
      · go_wp2
        go_ret
        rw [← HKE.out]
        exact ⟨⟨_, rfl, HR.out⟩, HB.out⟩

set_option maxHeartbeats 1000000 in
theorem list_upc (y m d y' m' d' a b s0 most : Int) (ha : 0 ≤ a ∧ a ≤ 3652424) (hb : 0 ≤ b ∧ b ≤ 3652424) (hs : 3652425 < s0)
    (D1 : ∀ w, Calls Tryd.prog 37 #[dV y m d] w fun e w' => e = .returned (.tuple #[.int .i64 a, .int .i64 0]) ∧ Below w.heap.size w w')
    (D2 : ∀ w, Calls Tryd.prog 37 #[dV y' m' d'] w fun e w' => e = .returned (.tuple #[.int .i64 b, .int .i64 0]) ∧ Below w.heap.size w w') (w : World) :
    Calls Tryd.prog 20 #[dV y m d, dV y' m' d', .int .i64 s0, .int .i64 most] w fun e w' => (∃ v, e = .returned v ∧ RD w' v (wkK (cnE a b 3652425) most) (fun j => a + (j : Int) * 3652425)) ∧ Below w.heap.size w w' := by
  obtain ⟨i0, hi, hz0, hz1, hz2⟩ := info_parts dateinfo
  have hN := cn_le a b 3652425 ha hb
  have HCN := hid (fun k : Nat => cn_pos (a := a) (b := b) (s := 3652425) (by omega) k)
  have HKK := hid (fun (k : Nat) h1 h2 h3 => wk_stop (n := cnE a b 3652425) (most := most) (k := k) h1 h2 h3)
  have HD1 := hid D1
  have HD2 := hid D2
  generalize cnE a b 3652425 = N at *
  obtain ⟨KK, hKK⟩ : ∃ KK, wkK N most = KK := ⟨_, rfl⟩
  rw [hKK] at HKK ⊢
  clear D1 D2 hKK
  unfold dV at *
  have B0 := hid (show Below w.heap.size w ((w.alloc (.cells #[.int .i64 y, .int .i64 m, .int .i64 d] 36)).alloc (.cells #[.int .i64 y', .int .i64 m', .int .i64 d'] 36)) from ((Below.refl _ _).alloc (Nat.le_refl _) _).alloc (by simp) _)
  have X0 := hid (show Box ((w.alloc (.cells #[.int .i64 y, .int .i64 m, .int .i64 d] 36)).alloc (.cells #[.int .i64 y', .int .i64 m', .int .i64 d'] 36)) (w.heap.size + 1) y' m' d' by
    have h := Box.new (w.alloc (.cells #[.int .i64 y, .int .i64 m, .int .i64 d] 36)) y' m' d'
    rw [World.size_alloc] at h
    exact h)
  have hsz : (s0 == 0) = false := by simp; omega
  go_enter Tryd.func20, Tryd.ntmps20
  go_wp2_with fail
  refine (HD1.out _).mono ?_
  rintro e w1 ⟨rfl, hb1⟩
  have X1 := hid (X0.out.later hb1)
  have B1 := hid (B0.out.trans (hb1.mono B0.out.size))
  obtain ⟨k0, k1, k2, _⟩ := X1.out.facts
  clear hb1
  go_wp2_with fail
  refine (HD2.out _).mono ?_
  rintro e w2 ⟨rfl, hb2⟩
  have B2 := hid (B1.out.trans (hb2.mono B1.out.size))
  clear hb2 k0 k1 k2 X1 X0 HD1 HD2 B1 B0
  go_wp2_with fail
  go_loopw [9, 14] (fun l n wr => ∃ (k : Nat) (p : Int), k ≤ N ∧ (k : Int) ≤ max most 0 ∧ Hid (p = a + (k : Int) * 3652425) ∧ n = .int .i64 p ∧ 0 ≤ p ∧ p ≤ 7304849 ∧ wr.ownsRow w.heap.size 36 3 l k (dc (upE a 3652425 k)) ∧ Below w.heap.size w wr) (fun _ n _ => (b + 1 - intOf n).toNat)
  case atStart => exact ⟨0, a, Nat.zero_le _, by omega, hid (by omega), rfl, by omega, by omega, World.ownsRow_nil _ _ _ _, B2.out⟩
  case round =>
    obtain ⟨k, p, hk, hkm, hp, rfl, hp0, hp1, hown, hB⟩ := hrel
    have HO := hid hown
    have HB := hid hB
    have hiff := HCN.out k
    rw [← hp.out] at hiff
    have HKm := hid hkm
    have hvl : ∃ ao cap, u9 = .slice ao k cap := by
      rcases hown.2 with ⟨rfl, rfl⟩ | ⟨g, cap, cur, rfl, _⟩
      · exact ⟨_, _, rfl⟩
      · exact ⟨_, _, rfl⟩
    obtain ⟨ao, cap, rfl⟩ := hvl
    clear hown hB hkm B2
    by_cases hlt : p ≤ b
    · have hk1 : k < N := hiff.2 hlt
      by_cases hlm : (k : Int) < most
      · have HD := hid (fun w => refDate_any p (by omega) (by omega) w)
        have HP := hid (show p + 3652425 = a + ((k + 1 : Nat) : Int) * 3652425 by rw [hp.out, Int.natCast_add, Int.add_mul]; omega)
        have HU := hid (show dc (upE a 3652425 k) ++ dcE p = dc (upE a 3652425 (k + 1)) by rw [upE_succ, dc_snoc, ← hp.out])
        clear hiff
        unfold dV at HD
        go_wp2_with fail
        refine (HD.out _).mono ?_
        rintro e w3 ⟨rfl, hb3⟩
        have HO3 := hid ((own_belowE HO.out hb3).alloc (.cells #[.int .i64 (dY p), .int .i64 (dM p), .int .i64 (dD p)] 36))
        have HB3 := hid ((HB.out.trans (hb3.mono HB.out.size)).alloc (HB.out.trans (hb3.mono HB.out.size)).size (.cells #[.int .i64 (dY p), .int .i64 (dM p), .int .i64 (dD p)] 36))
        have X3 := hid (Box.new w3 (dY p) (dM p) (dD p))
        clear hb3 HO HB HD
        obtain ⟨w4, hw4⟩ : ∃ w4, w3.alloc (.cells #[.int .i64 (dY p), .int .i64 (dM p), .int .i64 (dD p)] 36) = w4 := ⟨_, rfl⟩
        rw [hw4] at HO3 HB3 X3
        obtain ⟨k0, k1, k2, _⟩ := X3.out.facts
        have hz4 := HB3.out.size
        go_wp2_with (at_builtin; refine wpList_append_own _ rfl _ _ 44 rfl w.heap.size 36 i0 (.agg #[.int .i64 0, .int .i64 0, .int .i64 0]) 3 24 Tryd.underlying44 hi hz0 hz1 hz2 rfl (by decide) _ _ _ rfl (HO3.out.alloc _) ⟨w4.heap.size, 0, none⟩ 1 1 (dcE p) rfl rfl (three_new w4 p) (three_one p) (by unfold maxLen; omega) (by omega) (by simp; omega) ?_)
        intro v' w5 hown' hgrow _
        have HO5 := hid hown'
        rw [HU.out] at HO5
        have HB5 := hid ((HB3.out.alloc HB3.out.size (.cells #[.int .i64 (dY p), .int .i64 (dM p), .int .i64 (dD p)] 36)).grown hgrow (by simp; omega) (fun j ej => (World.ownsRow.lt HO3.out j ej).1))
        clear hown' hgrow k0 k1 k2 hw4 HO3 HB3 X3
        go_wp2
        go_roundw
        case rel => exact ⟨k + 1, p + 3652425, hk1, by omega, HP.out, by go_num, by omega, by omega, HO5.out, HB5.out⟩
        case measure => simp [intOf]; omega
      · have hkk := HKK.out k hk HKm.out (fun h => hlm h.2)
        have HR := hid (RD.of_row HO.out)
        have HKE := hid hkk
        clear hiff hkk HKK
        go_wp2
        go_ret
        rw [← HKE.out]
        exact ⟨⟨_, rfl, HR.out⟩, HB.out⟩
    · have hkk := HKK.out k hk HKm.out (fun h => hlt (hiff.1 h.1))
      have HR := hid (RD.of_row HO.out)
      have HKE := hid hkk
      clear hiff hkk HKK
      by_cases hin : p ≤ 3652424
      · go_wp2
        go_ret
        rw [← HKE.out]
        exact ⟨⟨_, rfl, HR.out⟩, HB.out⟩
      · go_wp2
        go_ret
        rw [← HKE.out]
        exact ⟨⟨_, rfl, HR.out⟩, HB.out⟩

set_option maxHeartbeats 1000000 in
theorem list_dn (y m d y' m' d' a b s0 most : Int) (ha : 0 ≤ a ∧ a ≤ 3652424) (hb : 0 ≤ b ∧ b ≤ 3652424) (hs : s0 < 0 ∧ -3652425 ≤ s0)
    (D1 : ∀ w, Calls Tryd.prog 37 #[dV y m d] w fun e w' => e = .returned (.tuple #[.int .i64 a, .int .i64 0]) ∧ Below w.heap.size w w')
    (D2 : ∀ w, Calls Tryd.prog 37 #[dV y' m' d'] w fun e w' => e = .returned (.tuple #[.int .i64 b, .int .i64 0]) ∧ Below w.heap.size w w') (w : World) :
    Calls Tryd.prog 20 #[dV y m d, dV y' m' d', .int .i64 s0, .int .i64 most] w fun e w' => (∃ v, e = .returned v ∧ RD w' v (wkK (cnE a b s0) most) (fun j => a + (j : Int) * s0)) ∧ Below w.heap.size w w' := by
  obtain ⟨i0, hi, hz0, hz1, hz2⟩ := info_parts dateinfo
  have hN := cn_le a b s0 ha hb
  have HCN := hid (fun k : Nat => cn_neg (a := a) (b := b) (s := s0) (by omega) k)
  have HKK := hid (fun (k : Nat) h1 h2 h3 => wk_stop (n := cnE a b s0) (most := most) (k := k) h1 h2 h3)
  have HD1 := hid D1
  have HD2 := hid D2
  generalize cnE a b s0 = N at *
  obtain ⟨KK, hKK⟩ : ∃ KK, wkK N most = KK := ⟨_, rfl⟩
  rw [hKK] at HKK ⊢
  clear D1 D2 hKK
  unfold dV at *
  have B0 := hid (show Below w.heap.size w ((w.alloc (.cells #[.int .i64 y, .int .i64 m, .int .i64 d] 36)).alloc (.cells #[.int .i64 y', .int .i64 m', .int .i64 d'] 36)) from ((Below.refl _ _).alloc (Nat.le_refl _) _).alloc (by simp) _)
  have X0 := hid (show Box ((w.alloc (.cells #[.int .i64 y, .int .i64 m, .int .i64 d] 36)).alloc (.cells #[.int .i64 y', .int .i64 m', .int .i64 d'] 36)) (w.heap.size + 1) y' m' d' by
    have h := Box.new (w.alloc (.cells #[.int .i64 y, .int .i64 m, .int .i64 d] 36)) y' m' d'
    rw [World.size_alloc] at h
    exact h)
  have hsz : (s0 == 0) = false := by simp; omega
  go_enter Tryd.func20, Tryd.ntmps20
  go_wp2_with fail
  refine (HD1.out _).mono ?_
  rintro e w1 ⟨rfl, hb1⟩
  have X1 := hid (X0.out.later hb1)
  have B1 := hid (B0.out.trans (hb1.mono B0.out.size))
  obtain ⟨k0, k1, k2, _⟩ := X1.out.facts
  clear hb1
  go_wp2_with fail
  refine (HD2.out _).mono ?_
  rintro e w2 ⟨rfl, hb2⟩
  have B2 := hid (B1.out.trans (hb2.mono B1.out.size))
  clear hb2 k0 k1 k2 X1 X0 HD1 HD2 B1 B0
  go_wp2_with fail
  go_loopw [9, 14] (fun l n wr => ∃ (k : Nat) (p : Int), k ≤ N ∧ (k : Int) ≤ max most 0 ∧ Hid (p = a + (k : Int) * s0) ∧ n = .int .i64 p ∧ -3652425 ≤ p ∧ p ≤ 3652424 ∧ wr.ownsRow w.heap.size 36 3 l k (dc (upE a s0 k)) ∧ Below w.heap.size w wr) (fun _ n _ => (intOf n + 1 - b).toNat)
  case atStart => exact ⟨0, a, Nat.zero_le _, by omega, hid (by omega), rfl, by omega, by omega, World.ownsRow_nil _ _ _ _, B2.out⟩
  case round =>
    obtain ⟨k, p, hk, hkm, hp, rfl, hp0, hp1, hown, hB⟩ := hrel
    have HO := hid hown
    have HB := hid hB
    have hiff := HCN.out k
    rw [← hp.out] at hiff
    have HKm := hid hkm
    have hvl : ∃ ao cap, u9 = .slice ao k cap := by
      rcases hown.2 with ⟨rfl, rfl⟩ | ⟨g, cap, cur, rfl, _⟩
      · exact ⟨_, _, rfl⟩
      · exact ⟨_, _, rfl⟩
    obtain ⟨ao, cap, rfl⟩ := hvl
    clear hown hB hkm B2
    by_cases hlt : b ≤ p
    · have hk1 : k < N := hiff.2 hlt
      by_cases hlm : (k : Int) < most
      · have HD := hid (fun w => refDate_any p (by omega) (by omega) w)
        have HP := hid (show p + s0 = a + ((k + 1 : Nat) : Int) * s0 by rw [hp.out, Int.natCast_add, Int.add_mul]; omega)
        have HU := hid (show dc (upE a s0 k) ++ dcE p = dc (upE a s0 (k + 1)) by rw [upE_succ, dc_snoc, ← hp.out])
        clear hiff
        unfold dV at HD
        go_wp2_with fail
        refine (HD.out _).mono ?_
        rintro e w3 ⟨rfl, hb3⟩
        have HO3 := hid ((own_belowE HO.out hb3).alloc (.cells #[.int .i64 (dY p), .int .i64 (dM p), .int .i64 (dD p)] 36))
        have HB3 := hid ((HB.out.trans (hb3.mono HB.out.size)).alloc (HB.out.trans (hb3.mono HB.out.size)).size (.cells #[.int .i64 (dY p), .int .i64 (dM p), .int .i64 (dD p)] 36))
        have X3 := hid (Box.new w3 (dY p) (dM p) (dD p))
        clear hb3 HO HB HD
        obtain ⟨w4, hw4⟩ : ∃ w4, w3.alloc (.cells #[.int .i64 (dY p), .int .i64 (dM p), .int .i64 (dD p)] 36) = w4 := ⟨_, rfl⟩
        rw [hw4] at HO3 HB3 X3
        obtain ⟨k0, k1, k2, _⟩ := X3.out.facts
        have hz4 := HB3.out.size
        go_wp2_with (at_builtin; refine wpList_append_own _ rfl _ _ 44 rfl w.heap.size 36 i0 (.agg #[.int .i64 0, .int .i64 0, .int .i64 0]) 3 24 Tryd.underlying44 hi hz0 hz1 hz2 rfl (by decide) _ _ _ rfl (HO3.out.alloc _) ⟨w4.heap.size, 0, none⟩ 1 1 (dcE p) rfl rfl (three_new w4 p) (three_one p) (by unfold maxLen; omega) (by omega) (by simp; omega) ?_)
        intro v' w5 hown' hgrow _
        have HO5 := hid hown'
        rw [HU.out] at HO5
        have HB5 := hid ((HB3.out.alloc HB3.out.size (.cells #[.int .i64 (dY p), .int .i64 (dM p), .int .i64 (dD p)] 36)).grown hgrow (by simp; omega) (fun j ej => (World.ownsRow.lt HO3.out j ej).1))
        clear hown' hgrow k0 k1 k2 hw4 HO3 HB3 X3
        go_wp2
        go_roundw
        case rel => exact ⟨k + 1, p + s0, hk1, by omega, HP.out, by go_num, by omega, by omega, HO5.out, HB5.out⟩
        case measure => simp [intOf]; omega
      · have hkk := HKK.out k hk HKm.out (fun h => hlm h.2)
        have HR := hid (RD.of_row HO.out)
        have HKE := hid hkk
        clear hiff hkk HKK
        go_wp2
        go_ret
        rw [← HKE.out]
        exact ⟨⟨_, rfl, HR.out⟩, HB.out⟩
    · have hkk := HKK.out k hk HKm.out (fun h => hlt (hiff.1 h.1))
      have HR := hid (RD.of_row HO.out)
      have HKE := hid hkk
      clear hiff hkk HKK
      by_cases hin : 0 ≤ p
      · go_wp2
        go_ret
        rw [← HKE.out]
        exact ⟨⟨_, rfl, HR.out⟩, HB.out⟩
      · go_wp2
        go_ret
        rw [← HKE.out]
        exact ⟨⟨_, rfl, HR.out⟩, HB.out⟩

set_option maxHeartbeats 1000000 in
theorem list_dnc (y m d y' m' d' a b s0 most : Int) (ha : 0 ≤ a ∧ a ≤ 3652424) (hb : 0 ≤ b ∧ b ≤ 3652424) (hs : s0 < -3652425)
    (D1 : ∀ w, Calls Tryd.prog 37 #[dV y m d] w fun e w' => e = .returned (.tuple #[.int .i64 a, .int .i64 0]) ∧ Below w.heap.size w w')
    (D2 : ∀ w, Calls Tryd.prog 37 #[dV y' m' d'] w fun e w' => e = .returned (.tuple #[.int .i64 b, .int .i64 0]) ∧ Below w.heap.size w w') (w : World) :
    Calls Tryd.prog 20 #[dV y m d, dV y' m' d', .int .i64 s0, .int .i64 most] w fun e w' => (∃ v, e = .returned v ∧ RD w' v (wkK (cnE a b (-3652425)) most) (fun j => a + (j : Int) * (-3652425))) ∧ Below w.heap.size w w' := by
  obtain ⟨i0, hi, hz0, hz1, hz2⟩ := info_parts dateinfo
  have hN := cn_le a b (-3652425) ha hb
  have HCN := hid (fun k : Nat => cn_neg (a := a) (b := b) (s := (-3652425)) (by omega) k)
  have HKK := hid (fun (k : Nat) h1 h2 h3 => wk_stop (n := cnE a b (-3652425)) (most := most) (k := k) h1 h2 h3)
  have HD1 := hid D1
  have HD2 := hid D2
  generalize cnE a b (-3652425) = N at *
  obtain ⟨KK, hKK⟩ : ∃ KK, wkK N most = KK := ⟨_, rfl⟩
  rw [hKK] at HKK ⊢
  clear D1 D2 hKK
  unfold dV at *
  have B0 := hid (show Below w.heap.size w ((w.alloc (.cells #[.int .i64 y, .int .i64 m, .int .i64 d] 36)).alloc (.cells #[.int .i64 y', .int .i64 m', .int .i64 d'] 36)) from ((Below.refl _ _).alloc (Nat.le_refl _) _).alloc (by simp) _)
  have X0 := hid (show Box ((w.alloc (.cells #[.int .i64 y, .int .i64 m, .int .i64 d] 36)).alloc (.cells #[.int .i64 y', .int .i64 m', .int .i64 d'] 36)) (w.heap.size + 1) y' m' d' by
    have h := Box.new (w.alloc (.cells #[.int .i64 y, .int .i64 m, .int .i64 d] 36)) y' m' d'
    rw [World.size_alloc] at h
    exact h)
  have hsz : (s0 == 0) = false := by simp; omega
  go_enter Tryd.func20, Tryd.ntmps20
  go_wp2_with fail
  refine (HD1.out _).mono ?_
  rintro e w1 ⟨rfl, hb1⟩
  have X1 := hid (X0.out.later hb1)
  have B1 := hid (B0.out.trans (hb1.mono B0.out.size))
  obtain ⟨k0, k1, k2, _⟩ := X1.out.facts
  clear hb1
  go_wp2_with fail
  refine (HD2.out _).mono ?_
  rintro e w2 ⟨rfl, hb2⟩
  have B2 := hid (B1.out.trans (hb2.mono B1.out.size))
  clear hb2 k0 k1 k2 X1 X0 HD1 HD2 B1 B0
  go_wp2_with fail
  go_loopw [9, 14] (fun l n wr => ∃ (k : Nat) (p : Int), k ≤ N ∧ (k : Int) ≤ max most 0 ∧ Hid (p = a + (k : Int) * (-3652425)) ∧ n = .int .i64 p ∧ -3652425 ≤ p ∧ p ≤ 3652424 ∧ wr.ownsRow w.heap.size 36 3 l k (dc (upE a (-3652425) k)) ∧ Below w.heap.size w wr) (fun _ n _ => (intOf n + 1 - b).toNat)
  case atStart => exact ⟨0, a, Nat.zero_le _, by omega, hid (by omega), rfl, by omega, by omega, World.ownsRow_nil _ _ _ _, B2.out⟩
  case round =>
    obtain ⟨k, p, hk, hkm, hp, rfl, hp0, hp1, hown, hB⟩ := hrel
    have HO := hid hown
    have HB := hid hB
    have hiff := HCN.out k
    rw [← hp.out] at hiff
    have HKm := hid hkm
    have hvl : ∃ ao cap, u9 = .slice ao k cap := by
      rcases hown.2 with ⟨rfl, rfl⟩ | ⟨g, cap, cur, rfl, _⟩
      · exact ⟨_, _, rfl⟩
      · exact ⟨_, _, rfl⟩
    obtain ⟨ao, cap, rfl⟩ := hvl
    clear hown hB hkm B2
    by_cases hlt : b ≤ p
    · have hk1 : k < N := hiff.2 hlt
      by_cases hlm : (k : Int) < most
      · have HD := hid (fun w => refDate_any p (by omega) (by omega) w)
        have HP := hid (show p + (-3652425) = a + ((k + 1 : Nat) : Int) * (-3652425) by rw [hp.out, Int.natCast_add, Int.add_mul]; omega)
        have HU := hid (show dc (upE a (-3652425) k) ++ dcE p = dc (upE a (-3652425) (k + 1)) by rw [upE_succ, dc_snoc, ← hp.out])
        clear hiff
        unfold dV at HD
        go_wp2_with fail
        refine (HD.out _).mono ?_
        rintro e w3 ⟨rfl, hb3⟩
        have HO3 := hid ((own_belowE HO.out hb3).alloc (.cells #[.int .i64 (dY p), .int .i64 (dM p), .int .i64 (dD p)] 36))
        have HB3 := hid ((HB.out.trans (hb3.mono HB.out.size)).alloc (HB.out.trans (hb3.mono HB.out.size)).size (.cells #[.int .i64 (dY p), .int .i64 (dM p), .int .i64 (dD p)] 36))
        have X3 := hid (Box.new w3 (dY p) (dM p) (dD p))
        clear hb3 HO HB HD
        obtain ⟨w4, hw4⟩ : ∃ w4, w3.alloc (.cells #[.int .i64 (dY p), .int .i64 (dM p), .int .i64 (dD p)] 36) = w4 := ⟨_, rfl⟩
        rw [hw4] at HO3 HB3 X3
        obtain ⟨k0, k1, k2, _⟩ := X3.out.facts
        have hz4 := HB3.out.size
        go_wp2_with (at_builtin; refine wpList_append_own _ rfl _ _ 44 rfl w.heap.size 36 i0 (.agg #[.int .i64 0, .int .i64 0, .int .i64 0]) 3 24 Tryd.underlying44 hi hz0 hz1 hz2 rfl (by decide) _ _ _ rfl (HO3.out.alloc _) ⟨w4.heap.size, 0, none⟩ 1 1 (dcE p) rfl rfl (three_new w4 p) (three_one p) (by unfold maxLen; omega) (by omega) (by simp; omega) ?_)
        intro v' w5 hown' hgrow _
        have HO5 := hid hown'
        rw [HU.out] at HO5
        have HB5 := hid ((HB3.out.alloc HB3.out.size (.cells #[.int .i64 (dY p), .int .i64 (dM p), .int .i64 (dD p)] 36)).grown hgrow (by simp; omega) (fun j ej => (World.ownsRow.lt HO3.out j ej).1))
        clear hown' hgrow k0 k1 k2 hw4 HO3 HB3 X3
        go_wp2
        go_roundw
        case rel => exact ⟨k + 1, p + (-3652425), hk1, by omega, HP.out, by go_num, by omega, by omega, HO5.out, HB5.out⟩
        case measure => simp [intOf]; omega
      · have hkk := HKK.out k hk HKm.out (fun h => hlm h.2)
        have HR := hid (RD.of_row HO.out)
        have HKE := hid hkk
        clear hiff hkk HKK
        go_wp2
        go_ret
        rw [← HKE.out]
        exact ⟨⟨_, rfl, HR.out⟩, HB.out⟩
    · have hkk := HKK.out k hk HKm.out (fun h => hlt (hiff.1 h.1))
      have HR := hid (RD.of_row HO.out)
      have HKE := hid hkk
      clear hiff hkk HKK
      by_cases hin : 0 ≤ p
      · go_wp2
        go_ret
        rw [← HKE.out]
        exact ⟨⟨_, rfl, HR.out⟩, HB.out⟩
      · go_wp2
        go_ret
        rw [← HKE.out]
        exact ⟨⟨_, rfl, HR.out⟩, HB.out⟩

end Go.Proofs.YtjmainmidacmfaaDoor
