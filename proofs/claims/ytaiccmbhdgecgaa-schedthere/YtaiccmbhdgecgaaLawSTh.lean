/-
  SchedThere: the law's walk.
-/
import Derived.Test.YtaiccmbhdgecgaaMn9
import Derived.Test.YtaiccmbhdgecgaaNt4
namespace Go.Proofs.Ytaiccmbhdgecgaa
open Go.RowKit
set_option maxRecDepth 100000

set_option maxHeartbeats 4000000 in
theorem there_any (v : Value) (R : List Int) (n : Int) (w : World) (hr : RI w v R) (hl : R.length * 8 ≤ reachBytes) (hn : -9223372036854775808 ≤ n ∧ n ≤ 9223372036854775807) :
    Calls Try.prog 3 #[v, .int .i64 n] w fun e w' => e = .returned (.bool true) ∧ Below w.heap.size w w' := by
  have hrb : reachBytes = 140737488351232 := rfl
  have HC := hid (countR_any v R w hr (by omega))
  have HN := hid (nthR_any v R n w hr (by omega) hn)
  have HR := hid hr
  obtain ⟨ao, cap, rfl⟩ := hr.len0
  have hRl : R.length < 17592186043905 := by omega
  obtain ⟨cn, hcn⟩ : ∃ cn, cntA R = cn := ⟨_, rfl⟩
  have HCN := hid hcn
  have hce := cnt_err R
  rw [hcn] at HC hce
  clear hr hcn
  go_enter Try.func3, Try.ntmps3
  go_wp2_with fail
  refine Calls.mono HC.out ?_
  rintro e w1 ⟨rfl, rfl⟩
  clear HC
  go_wp2_with fail
  refine Calls.mono HN.out ?_
  rintro e w2 ⟨hA, hb2⟩
  have B2 := hid hb2
  have HLi := hid (lives_any w2)
  clear HN hb2
  unfold NthA at hA
  rw [HCN.out] at hA
  rcases hA with ⟨hne, rfl⟩ | ⟨h0, hout, rfl⟩ | ⟨h0, N, m, v', L, hN, hnm, hm, hcA, a1, a2, a3, a4, rfl, ho, hmx⟩
  · as_aux_lemma =>
    obtain ⟨c1, c2⟩ := cn
    have hne : ¬ c2 = 0 := hne
    have hb0 : (c2 == 0) = false := by simpa using hne
    have hbb : (c2 == c2) = true := by simp
    clear hce HCN hne
    go_wp2_with fail
    refine Calls.mono HLi.out ?_
    rintro e w3 ⟨rfl, hb3⟩
    have B3 := hid (B2.out.trans (hb3.mono B2.out.size))
    clear hb3 HLi
    go_wp2
    go_ret
    exact ⟨rfl, B3.out⟩
  · as_aux_lemma =>
    obtain ⟨N, rfl, a1, a2, a3, a4, a5⟩ := cnt_ok (show (cntA R).2 = 0 by rw [HCN.out]; exact h0)
    have hcA := HCN.out
    rw [a5] at hcA
    subst hcA
    have hp := mN_pos N a3
    have hmI : ((mN N : Nat) : Int) ≤ 4611686018427387904 := by omega
    have hpI : ¬ ((mN N : Nat) : Int) < 1 := by omega
    have hpI2 : (1 : Int) ≤ ((mN N : Nat) : Int) := by omega
    have hout : n < 0 ∨ ((mN N : Nat) : Int) ≤ n := hout
    clear hce HCN a5 a4 a3 hp HLi h0
    generalize mN N = M at *
    rcases hout with ho | ho
    · go_wp2
      go_ret
      exact ⟨rfl, B2.out⟩
    · by_cases hneg : n < 0
      · go_wp2
        go_ret
        exact ⟨rfl, B2.out⟩
      · go_wp2
        go_ret
        exact ⟨rfl, B2.out⟩
  · subst hN
    subst hcA
    subst hnm
    have hLl := mx_len hmx a3
    have hin := mx_in hmx
    have hp := mN_pos N a3
    have HRk := hid (fun wx (hb : Below w2.heap.size w2 wx) => rankX v' L N m wx (RI.below ho.reads hb) hmx a1 a2 a3 a4 HCN.out hm)
    have HMx := hid hmx
    have HO := hid ho
    have HR2 := hid (HR.out.below B2.out)
    have HN2 := hid (fun wx (hb : Below w1.heap.size w1 wx) (hm1 : m + 1 < mN N) => nthX _ N (m + 1) wx (RI.below HR.out hb) a1 a2 a3 a4 HCN.out hm1)
    have HA := hid (And.intro a1 (And.intro a2 (And.intro a3 a4)))
    have HM := hid hm
    have hmI : ((mN N : Nat) : Int) ≤ 4611686018427387904 := by omega
    have hmM : (m : Int) < ((mN N : Nat) : Int) := by omega
    have hL24 : L.length ≤ 24 := by omega
    have hN16 : (iN N).length ≤ 16 := by rw [iN_len]; exact a2
    obtain ⟨al, cl, rfl⟩ := ho.reads.len0
    have hl' : (iN L).length = L.length := iN_len L
    have hn' : (iN N).length = N.length := iN_len N
    rw [hl'] at HRk HO ⊢
    rw [hn'] at HR HR2 HN2 hN16 ⊢
    clear hce HCN h0 hmx ho hm a1 a2 a3 a4 hp hLl hin hl' hn' hRl hl HLi
    have HRk2 := hid (HRk.out w2 (Below.refl _ _))
    clear HRk
    obtain ⟨M, hM⟩ : ∃ M, mN N = M := ⟨_, rfl⟩
    rw [hM] at hmI hmM
    have HMM := hid hM
    rw [hM]
    clear hM
    go_wp2_with fail
    refine Calls.mono HRk2.out ?_
    rintro e w3 ⟨rfl, hb3⟩
    have B3 := hid (B2.out.trans (hb3.mono B2.out.size))
    have HO3 := hid (HO.out.below hb3)
    have HR3 := hid (HR.out.below B3.out)
    clear hb3 HRk2 HO HR2
    go_wp2_with fail
    go_loopw [11, 12, 13] (fun vh _ _ wx => ∃ h : Nat, h ≤ N.length ∧ vh = .int .i64 (h : Int) ∧ wx = w3) (fun vh _ _ _ => N.length - (intOf vh).toNat)
    case atStart => exact ⟨0, Nat.zero_le _, rfl, rfl⟩
    case round =>
      obtain ⟨h, hh, rfl, rfl⟩ := hrel
      by_cases hlt : h < N.length
      · have hhI : (h : Int) < (N.length : Int) := by omega
        obtain ⟨_, _, hvs, _, _, hKc⟩ := HR3.out
        obtain ⟨gk, offk, hgk, ck⟩ := hKc h (by rw [iN_len]; exact hlt)
        injection hvs with hv1 hv2 hv3
        subst hv1 hv3 hgk
        rw [iN_at N h _ hlt] at ck
        have HCk := hid ck
        have HE := hid (show N[h] = L.count h by rw [mx_count HMx.out h, gN N h hlt])
        clear hKc hv2 ck
        generalize N[h] = s at *
        obtain ⟨wo, hwo⟩ : ∃ wo, wo = wr := ⟨_, rfl⟩
        subst hwo
        go_wp2_with fail
        go_loopw [12, 13] (fun vk vi wx => ∃ i : Nat, i ≤ L.length ∧ vk = .int .i64 ((cnt L h i : Nat) : Int) ∧ vi = .int .i64 (i : Int) ∧ wx = wo) (fun _ vi _ => L.length - (intOf vi).toNat)
        case atStart => exact ⟨0, Nat.zero_le _, rfl, rfl, rfl⟩
        case round =>
          obtain ⟨i, hi, rfl, rfl, rfl⟩ := hrel
          by_cases hil : i < L.length
          · have hiI : (i : Int) < (L.length : Int) := by omega
            obtain ⟨_, _, hvs, _, _, hLc⟩ := HO3.out.reads
            obtain ⟨gl, offl, hgl, cl2⟩ := hLc i (by rw [iN_len]; exact hil)
            injection hvs with hv1 hv2 hv3
            subst hv1 hv3 hgl
            rw [iN_at L i _ hil] at cl2
            have HSt := hid (cnt_step L h i hil)
            have hcl := cnt_le L h i
            clear hLc hv2
            generalize L[i] = y at *
            generalize cnt L h i = k at *
            have hkI : (k : Int) ≤ 24 := by omega
            by_cases hyh : y = h
            · subst hyh
              have hbb : ((y : Int) == (y : Int)) = true := by simp
              have HSt2 := hid (show cnt L y (i + 1) = k + 1 by rw [HSt.out, if_pos rfl])
              clear HSt
              go_wp2
              go_roundw
              case rel => exact ⟨i + 1, by omega, by rw [HSt2.out]; go_num, by go_num, by first | rfl | trivial⟩
              case measure => simp [intOf]; omega
            · have hbb : ((y : Int) == (h : Int)) = false := by
                have : ¬ (y : Int) = (h : Int) := by omega
                simpa using this
              have HSt2 := hid (show cnt L h (i + 1) = k by rw [HSt.out, if_neg hyh]; rfl)
              clear HSt hyh
              go_wp2
              go_roundw
              case rel => exact ⟨i + 1, by omega, by rw [HSt2.out], by go_num, by first | rfl | trivial⟩
              case measure => simp [intOf]; omega
          · have hiI : ¬ (i : Int) < (L.length : Int) := by omega
            obtain rfl : i = L.length := by omega
            rw [cnt_all, ← HE.out]
            have ck := HCk.out
            have hbb : ((s : Int) == (s : Int)) = true := by simp
            have hne : ¬ ¬ (s : Int) = (s : Int) := by simp
            go_wp2
            go_roundw
            case rel => exact ⟨h + 1, by omega, by go_num, by first | rfl | trivial⟩
            case measure => simp [intOf]; omega
      · have hhI : ¬ (h : Int) < (N.length : Int) := by omega
        obtain rfl : h = N.length := by omega
        by_cases hl1 : m + 1 = M
        · have hb1 : ((m : Int) + 1 == (M : Int)) = true := by simp; omega
          clear HN2
          go_wp2
          go_ret
          exact ⟨rfl, B3.out⟩
        · have hb1 : ((m : Int) + 1 == (M : Int)) = false := by simp; omega
          have HN3 := hid (HN2.out wr B3.out (by rw [HMM.out]; omega))
          have e1 : ((m + 1 : Nat) : Int) = (m : Int) + 1 := by omega
          rw [e1] at HN3
          clear HN2 hl1 e1
          go_wp2_with fail
          refine Calls.mono HN3.out ?_
          rintro e w4 ⟨⟨v4, L4, rfl, ho4, hx4⟩, hb4⟩
          have B4 := hid (B3.out.trans (hb4.mono B3.out.size))
          have HBl := hid (below_any _ v4 (iN L) (iN L4) w4 (HO3.out.reads.below hb4) ho4.reads (by rw [iN_len]; omega) (by rw [iN_len, mx_len hx4 HA.out.2.2.1]; have := HA.out.2.2.1; omega))
          rw [mx_below L N m (m + 1) L4 HMx.out hx4 (by omega)] at HBl
          clear ho4 hx4 hb4 HN3
          go_wp2_with fail
          refine Calls.mono HBl.out ?_
          rintro e w5 ⟨rfl, hb5⟩
          have B5 := hid (B4.out.trans (hb5.mono B4.out.size))
          clear hb5
          go_wp2
          go_ret
          exact ⟨rfl, B5.out⟩
end Go.Proofs.Ytaiccmbhdgecgaa
