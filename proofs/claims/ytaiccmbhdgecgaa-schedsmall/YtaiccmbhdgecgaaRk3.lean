/-
  The document's Count, of any steps.
-/
import Derived.Test.YtaiccmbhdgecgaaRk2
namespace Go.Proofs.Ytaiccmbhdgecgaa
open Go.RowKit
set_option maxRecDepth 100000

/-- as the document reckons it: of what is left -/
def dN (N : List Nat) : Nat → Nat
  | 0 => 1
  | j + 1 => dN N j * chd (tN2 N - sN N j) (N.getD j 0)
theorem sN_at (N : List Nat) (j : Nat) (h : j < N.length) : sN N j + N.getD j 0 ≤ tN2 N := by
  have h1 : sN N (j + 1) = sN N j + N.getD j 0 := rfl
  have h2 := sN_mono N (show j + 1 ≤ N.length from h)
  have h3 : tN2 N = sN N N.length := rfl
  omega
theorem dN_pf (N : List Nat) (hs : tN2 N ≤ 24) : ∀ j, j ≤ N.length → dN N j * (pf N j * fac (tN2 N - sN N j)) = fac (tN2 N)
  | 0, _ => by show 1 * (1 * fac (tN2 N - 0)) = _; rw [Nat.one_mul, Nat.one_mul, Nat.sub_zero]
  | j + 1, h => by
    have ih := dN_pf N hs j (by omega)
    have ha := sN_at N j h
    have hf := chd_fac (tN2 N - sN N j) (N.getD j 0) (by omega) (by omega)
    show dN N j * chd (tN2 N - sN N j) (N.getD j 0) * (pf N j * fac (N.getD j 0) * fac (tN2 N - (sN N j + N.getD j 0))) = _
    rw [← ih, ← hf, show tN2 N - sN N j - N.getD j 0 = tN2 N - (sN N j + N.getD j 0) by omega]
    generalize chd (tN2 N - sN N j) (N.getD j 0) = a
    generalize fac (N.getD j 0) = b
    generalize fac (tN2 N - (sN N j + N.getD j 0)) = c
    generalize dN N j = d
    generalize pf N j = p
    rw [Nat.mul_assoc, Nat.mul_assoc p b c, Nat.mul_left_comm a p, ]
theorem dN_all (N : List Nat) (hs : tN2 N ≤ 24) : dN N N.length = mN N := by
  have h1 := dN_pf N hs N.length (Nat.le_refl _)
  have h2 := cN_pf N N.length hs
  have e : tN2 N - sN N N.length = 0 := Nat.sub_self _
  rw [e, show fac 0 = 1 from rfl, Nat.mul_one] at h1
  apply Nat.eq_of_mul_eq_mul_right (pf_pos N N.length)
  rw [h1]
  exact h2.symm
theorem dN_pos (N : List Nat) (hs : tN2 N ≤ 24) (j : Nat) (hj : j ≤ N.length) : 0 < dN N j := by
  have h := dN_pf N hs j hj
  have h2 := fac_pos (tN2 N)
  rcases Nat.eq_zero_or_pos (dN N j) with e | e
  · rw [e, Nat.zero_mul] at h; omega
  · exact e
theorem dN_up (N : List Nat) (hs : tN2 N ≤ 24) (j : Nat) (hj : j < N.length) : dN N j ≤ dN N (j + 1) := by
  show dN N j ≤ dN N j * chd (tN2 N - sN N j) (N.getD j 0)
  exact Nat.le_mul_of_pos_right _ (chd_le _ _ (by omega) (by have := sN_at N j hj; omega)).2
theorem dN_mono (N : List Nat) (hs : tN2 N ≤ 24) : ∀ {i j : Nat}, i ≤ j → j ≤ N.length → dN N i ≤ dN N j := by
  intro i j h
  induction h with
  | refl => exact fun _ => Nat.le_refl _
  | step h ih => exact fun hj => Nat.le_trans (ih (by omega)) (dN_up N hs _ (by omega))
theorem cN_up (N : List Nat) (hs : tN2 N ≤ 24) (j : Nat) (hj : j < N.length) : cN N j ≤ cN N (j + 1) := by
  show cN N j ≤ cN N j * chs (sN N j + N.getD j 0) (N.getD j 0) (N.getD j 0)
  exact Nat.le_mul_of_pos_right _ (chs_le24 _ _ _ (by have := sN_at N j hj; omega) (Nat.le_add_left _ _) (Nat.le_refl _)).2
theorem cOk_iff (N : List Nat) (hs : tN2 N ≤ 24) : ∀ j, j ≤ N.length → (cOk N j = true ↔ cN N j ≤ 4611686018427387904)
  | 0, _ => by simp [cOk, cN]
  | j + 1, h => by
    show (cOk N j && decide (cN N (j + 1) ≤ 4611686018427387904)) = true ↔ _
    rw [Bool.and_eq_true, decide_eq_true_eq, cOk_iff N hs j (by omega)]
    have := cN_up N hs j h
    omega
theorem cntA_is (N : List Nat) (h : stOk (iN N) = true) : cntA (iN N) = if mN N ≤ 4611686018427387904 then ((mN N : Int), 0) else (0, 26) := by
  obtain ⟨_, M, hM, hM2, hM3⟩ := stOk_of h
  rw [iN_nats] at hM3
  subst hM3
  unfold cntA
  rw [if_pos h, iN_nats]
  have h9 := cOk_iff N hM2 N.length (Nat.le_refl _)
  by_cases c : mN N ≤ 4611686018427387904
  · rw [if_pos c, if_pos (h9.2 c)]
  · rw [if_neg c, if_neg (fun e => c (h9.1 e))]
set_option maxHeartbeats 1000000 in
theorem count7_any (v : Value) (R : List Int) (w : World) (hr : RI w v R) (hl : R.length ≤ 9223372036854775807) :
    Calls Try.prog 29 #[v] w fun e w' => e = .returned (.tuple #[.int .i64 (cntA R).1, .int .i64 (cntA R).2]) ∧ w' = w := by
  have HK := hid (steps7_any v R w hr hl)
  by_cases hs : stOk R = true
  · obtain ⟨hk1, N, rfl, hT, _⟩ := stOk_of hs
    have hk2 := (okN_iff _).1 hk1
    have HA := hid (cntA_is N hs)
    obtain ⟨A, hA⟩ : ∃ A, cntA (iN N) = A := ⟨_, rfl⟩
    rw [hA] at HA ⊢
    rw [iN_len] at hk2
    obtain ⟨ao, cap, rfl, hc, hn0, hcell⟩ := hr
    rw [iN_len] at hc
    have HC := hid hcell
    have HT := hid hT
    have hl16 : N.length ≤ 16 := by omega
    have HS2 := hid hs
    clear hcell hn0 hs hk1 hk2 hl hA
    rw [iN_len] at HK ⊢
    go_enter Try.func29, Try.ntmps29
    go_wp2_with fail
    refine Calls.mono HK.out ?_
    rintro e w1 ⟨⟨s0, rfl, hs0⟩, rfl⟩
    rw [iN_nats] at hs0
    have hs0 := hs0 HS2.out
    subst hs0
    rw [HS2.out]
    have hT24 : (tN2 N : Int) ≤ 24 := by have := HT.out; omega
    clear HK hT
    obtain ⟨tt, htt⟩ : ∃ tt, tN2 N = tt := ⟨_, rfl⟩
    rw [htt] at hT24 ⊢
    have HTT := hid htt
    clear htt
    go_wp2_with fail
    go_loopw [4, 6, 7, 8] (fun vp vc vi _ wx => ∃ j : Nat, j ≤ N.length ∧ vi = .int .i64 (j : Int) ∧ vc = .int .i64 (dN N j : Int) ∧ vp = .int .i64 ((tt - sN N j : Nat) : Int) ∧ (dN N j : Int) ≤ 4611686018427387904 ∧ wx = w1) (fun _ _ vi _ _ => N.length - (intOf vi).toNat)
    case atStart => exact ⟨0, Nat.zero_le _, rfl, rfl, rfl, by show ((1 : Nat) : Int) ≤ _; decide, rfl⟩
    case round =>
      obtain ⟨j, hj, rfl, rfl, rfl, hcm, rfl⟩ := hrel
      by_cases h : j < N.length
      · have hI : (j : Int) < (N.length : Int) := by omega
        obtain ⟨g, off, hao, c0⟩ := HC.out j (by rw [iN_len]; exact h)
        subst hao
        rw [iN_at N j _ h] at c0
        have hsa := sN_at N j h
        rw [gN N j h, HTT.out] at hsa
        have HS := hid (show sN N (j + 1) = sN N j + N[j] by rw [← gN N j h]; rfl)
        have HD := hid (show dN N (j + 1) = dN N j * chd (tt - sN N j) N[j] by rw [← gN N j h, ← HTT.out]; rfl)
        have hc1 := dN_pos N HT.out j hj
        have HM := hid (dN_mono N HT.out (show j + 1 ≤ N.length from h) (Nat.le_refl _))
        have HCh := hid (choose_any (tt - sN N j) N[j] wr (by omega) (by omega))
        have hcc := chd_le (tt - sN N j) N[j] (by omega) (by omega)
        generalize N[j] = x at c0 HS hsa HD HCh hcc
        have hsub : ((tt - sN N j : Nat) : Int) - (x : Int) = ((tt - (sN N j + x) : Nat) : Int) := by omega
        have HSub := hid hsub
        generalize sN N j = s at *
        obtain ⟨q, hq⟩ : ∃ q, tt - s = q := ⟨_, rfl⟩
        rw [hq] at HCh hcc HD HSub ⊢
        have hq24 : (q : Int) ≤ 24 := by omega
        clear hsub hq
        generalize chd q x = y at HD HCh hcc
        generalize hdn : dN N j = c at *
        obtain ⟨hcc, hcc0⟩ := hcc
        have hyz : (y : Int) ≠ 0 := by omega
        have hqt := quo_test y c hcc0
        have E3 : (c : Int) * (y : Int) = ((c * y : Nat) : Int) := by push_cast; rfl
        rw [Nat.mul_comm y c] at hqt
        obtain ⟨Q, hQ⟩ : ∃ Q, 4611686018427387904 / y = Q := ⟨_, rfl⟩
        have hQI : (4611686018427387904 : Int) / (y : Int) = (Q : Int) := by rw [← hQ]; rfl
        have hQb : Q ≤ 4611686018427387904 := by rw [← hQ]; exact Nat.div_le_self _ _
        rw [hQ] at hqt
        have hQb2 : (Q : Int) ≤ 4611686018427387904 := Int.ofNat_le.2 hQb
        have hccI : (y : Int) ≤ 2704156 := Int.ofNat_le.2 hcc
        have HQt := hid hqt
        clear hqt hQ hQb hcc hcc0 hdn
        by_cases hgt : Q < c
        · have hgI : (Q : Int) < (c : Int) := Int.ofNat_lt.2 hgt
          have HE := hid (show A = (0, 26) by
            rw [HA.out, if_neg]
            have h1 := HQt.out.1 hgt
            have h2 := HM.out
            rw [HD.out, dN_all N HT.out] at h2
            omega)
          clear hgt
          go_wp2_with fail
          refine Calls.mono HCh.out ?_
          rintro e w2 ⟨rfl, rfl⟩
          clear HCh
          go_wp2
          go_ret2
          exact ⟨by rw [HE.out]; rfl, rfl⟩
        · have hgI : ¬ (Q : Int) < (c : Int) := fun e => hgt (Int.ofNat_lt.1 e)
          have hcy : c * y ≤ 4611686018427387904 := by
            rcases Nat.lt_or_ge 4611686018427387904 (c * y) with h9 | h9
            · exact absurd (HQt.out.2 (Nat.not_le.2 h9)) hgt
            · exact h9
          obtain ⟨z, hz⟩ : ∃ z, c * y = z := ⟨_, rfl⟩
          rw [hz] at E3 hcy HD
          have hcyI : (z : Int) ≤ 4611686018427387904 := Int.ofNat_le.2 hcy
          have HCY := hid hcyI
          clear hz hcy hgt
          go_wp2_with fail
          refine Calls.mono HCh.out ?_
          rintro e w2 ⟨rfl, rfl⟩
          clear HCh
          go_wp2
          go_roundw
          case rel => exact ⟨j + 1, by omega, by go_num, by rw [HD.out], by rw [HS.out, ← HSub.out], by rw [HD.out]; exact HCY.out, by first | rfl | trivial⟩
          case measure => simp [intOf]; omega
      · have hI : ¬ (j : Int) < (N.length : Int) := by omega
        obtain rfl : j = N.length := by omega
        have HE := hid (show A = ((dN N N.length : Int), 0) by
          rw [HA.out, dN_all N HT.out, if_pos]
          rw [dN_all N HT.out] at hcm
          omega)
        generalize hdn : dN N N.length = c at *
        clear hdn
        go_wp2
        go_ret2
        exact ⟨by rw [HE.out]; rfl, rfl⟩
  · have hs' : stOk R = false := by simpa using hs
    have HE := hid (show cntA R = (0, 2) by unfold cntA; rw [if_neg hs])
    obtain ⟨ao, cap, rfl⟩ := hr.len0
    obtain ⟨A, hA⟩ : ∃ A, cntA R = A := ⟨_, rfl⟩
    rw [hA] at HE ⊢
    have HS := hid hs'
    clear hr hs hs' hA
    go_enter Try.func29, Try.ntmps29
    go_wp2_with fail
    refine Calls.mono HK.out ?_
    rintro e w1 ⟨⟨s0, rfl, _⟩, rfl⟩
    rw [HS.out]
    clear HK
    go_wp2
    go_ret2
    exact ⟨by rw [HE.out]; rfl, rfl⟩
end Go.Proofs.Ytaiccmbhdgecgaa
