/-
  SchedWaits: the law's walk.
-/
import Derived.Test.YtecjpjjcahanoabWt1
import Derived.Test.YtecjpjjcahanoabLawSMi
import Derived.Test.YtecjpjjcahanoabOpsIn
namespace Go.Proofs.Ytecjpjjcahanoab
open Go.RowKit Go.Maps
set_option maxRecDepth 100000

theorem new_no (n : Int) (w : World) (hn : ¬ (1 ≤ n ∧ n ≤ 16)) :
    Calls Try.prog 9 #[.int .i64 n] w fun e w' => e = .returned (.tuple #[.pointer none, .int .i64 2]) ∧ w' = w := by
  have HI := hid (isCount_any n)
  rw [show okN n = false by cases h : okN n with | false => rfl | true => exact absurd ((okN_iff n).1 h) hn] at HI
  clear hn
  go_enter Try.func9, Try.ntmps9
  go_wp2_with (go_at_call 38; refine (HI.out _).mono ?_; rintro e w3 ⟨rfl, rfl⟩)
  go_ret2
  exact ⟨rfl, rfl⟩
set_option maxHeartbeats 1000000 in
theorem waits_no (s n k : Int) (v : Value) (w : World) (hno : okM n k = false) :
    Calls Try.prog 5 #[.int .u64 s, .int .i64 n, .int .i64 k, v] w fun e w' => e = .returned (.bool true) ∧ Below w.heap.size w w' := by
  have hM : ¬ (1 ≤ n ∧ n ≤ 16 ∧ 2 * n - 1 ≤ k ∧ k ≤ 1024) := fun h => by rw [(okM_iff n k).2 h] at hno; cases hno
  by_cases hn : 1 ≤ n ∧ n ≤ 16
  · obtain ⟨m, rfl⟩ : ∃ m : Nat, n = (m : Int) := ⟨n.toNat, by omega⟩
    have HN := hid (new_any m w (by omega) (by omega))
    have hm1 : 1 ≤ (m : Int) := by omega
    have hm2 : (m : Int) ≤ 16 := by omega
    have DD : k < 2 * (m : Int) - 1 ∨ (¬ k < 2 * (m : Int) - 1 ∧ k > 1024) := by omega
    clear hno hM hn
    rcases DD with h1 | ⟨h1, h2⟩
    all_goals
      go_enter Try.func5, Try.ntmps5
      go_wp2_with fail
      refine Calls.mono HN.out ?_
      rintro e w1 ⟨⟨d, hb, mb, rfl, _⟩, hB⟩
      have B := hid hB
      clear hB HN
      go_wp2
      go_ret
      exact ⟨rfl, B.out⟩
  · have HN := hid (new_no n w hn)
    have DD : ¬ 1 ≤ n ∨ (1 ≤ n ∧ decide (n ≤ 16) = false) := by
      by_cases h : 1 ≤ n
      · exact .inr ⟨h, decide_eq_false (by omega)⟩
      · exact .inl h
    clear hno hM hn
    rcases DD with h1 | ⟨h1, h2⟩
    all_goals
      go_enter Try.func5, Try.ntmps5
      go_wp2_with fail
      refine Calls.mono HN.out ?_
      rintro e w1 ⟨rfl, rfl⟩
      go_wp2
      go_ret
      exact ⟨rfl, Below.refl _ _⟩
set_option maxHeartbeats 16000000 in
theorem waits_few (s n k : Int) (v : Value) (P : List Opr) (w : World) (hr : OL w v P) (hcmp : ¬ 4000 < (P.length : Int)) :
    Calls Try.prog 5 #[.int .u64 s, .int .i64 n, .int .i64 k, v] w fun e w' => e = .returned (.bool true) ∧ Below w.heap.size w w' := by
  cases hok : okM n k with
  | false => exact waits_no s n k v w hok
  | true =>
  obtain ⟨n1, n2, k1, k2⟩ := (okM_iff n k).1 hok
  obtain ⟨m, rfl⟩ : ∃ m : Nat, n = (m : Int) := ⟨n.toNat, by omega⟩
  obtain ⟨kk, rfl⟩ : ∃ kk : Nat, k = (kk : Int) := ⟨k.toNat, by omega⟩
  obtain ⟨most, hmost⟩ : ∃ most : Nat, most = min P.length 4000 := ⟨_, rfl⟩
  have hmle : most ≤ 4000 := by omega
  have hmP : most ≤ P.length := by omega
  have HMV := hid (show (most : Int) = (P.length : Int) by omega)
  have hmq : ((most : Int) == (P.length : Int)) = true := by simp; omega
  have hmq2 : ((most : Int) != (P.length : Int)) = false := by simp; omega
  have HN := hid (new_any m w (by omega) (by omega))
  have HMx := hid (fun w => mixed_any s (m : Int) (kk : Int) w ⟨by omega, by omega⟩)
  obtain ⟨R, _, _, hR2, hSo⟩ := some_mixed s (m : Int) (kk : Int) most (by omega)
  have hR : R = mxL s m ((kk + 1) / 2) most := by rw [hR2 kk m _ hok rfl rfl rfl, mxL_take _ _ _ _ _ (by omega)]
  have hRl : R.length = most := by rw [hR, mxL_len]
  have hfa := mixed_fair s m ((kk + 1) / 2) kk most ⟨by omega, by omega⟩ (by omega) rfl (by omega)
  rw [← hR] at hfa
  have HFair := hid (show ∀ j, j < R.length → ¬ badF R m (kk : Int) j from by
    rcases hfa with ⟨_, e, _⟩ | ⟨_, i, _, _, _, e, _⟩ | ⟨_, h, _, _⟩
    · cases e
    · cases e
    · rwa [Int.toNat_natCast] at h)
  have HRin := hid (show ∀ j (h : j < R.length), 0 ≤ R[j] ∧ R[j] < (m : Int) from fun j h => by
    subst hR
    rw [mx_at]
    exact mxP_in s m _ j (by omega) (by omega))
  have HSo := hid hSo
  obtain ⟨ao, cap, rfl, hc, hn0, hcell⟩ := hr
  have HC := hid hcell
  have hm1 : 1 ≤ (m : Int) := by omega
  have hkk1 : 1 ≤ (kk : Int) := by omega
  clear hcell hn0 hR2 hSo hR hfa hok hmost
  go_enter Try.func5, Try.ntmps5
  go_wp2_with fail
  refine Calls.mono HN.out ?_
  rintro e w1 ⟨⟨d, hb, mb, rfl, hbd⟩, hB1⟩
  have HBD := hid hbd
  have B1 := hid hB1
  clear hbd hB1 HN
  go_wp2_with fail
  refine Calls.mono (HMx.out _) ?_
  rintro e w2 ⟨hmx, hB2⟩
  obtain ⟨fn, lb, rfl, hso⟩ := HSo.out _ _ hmx
  have HS2 := hid (hso w2 (Below.refl _ _))
  rw [HMV.out] at HS2
  have B2 := hid hB2
  clear hmx hB2 hso HMx HSo
  go_wp2_with fail
  refine Calls.mono HS2.out ?_
  rintro e w3 ⟨⟨vp, rfl, hop⟩, hB3⟩
  have hz1 := B1.out.size
  have hz2 := B2.out.size
  have BC := hid (B1.out.trans ((B2.out.trans (hB3.mono hz2)).mono hz1))
  have HWS := hid (show WS w w3 d hb mb m 0 0 (LA R m 0) vp R 0 (List.replicate m (0, 0, 0)) (fun _ => .slice none 0 0) (fun _ => []) from
    ⟨HBD.out.later (B2.out.trans (hB3.mono hz2)), Nat.le_refl _, by simp, (fun on x hx => by simp at hx), (fun on => by simp), (fun i => by simp [LA, List.getD_eq_getElem?_getD, List.getElem?_replicate]; split <;> simp), (fun i hi => by simp), hop.mono (by omega), (fun g hg hof => by
      have h1 := (World.ownsRow.lt hop g hg).1
      have h2 := (HBD.out.lt g hof).1
      omega), BC.out⟩)
  obtain ⟨ap, cp, hvp⟩ := hop.reads.len0
  rw [hRl] at hvp
  subst hvp
  clear hop hB3 HS2 HBD B1 B2
  go_wp2
  go_loopw [12, 13, 14, 15] (fun vi _ _ _ wr => ∃ j : Nat, j ≤ most ∧ vi = .int .i64 (j : Int) ∧ WN w d hb mb m j (j : Int) (LA R m j) (.slice ap most cp) R wr) (fun vi _ _ _ _ => most - (intOf vi).toNat)
  case atStart => exact ⟨0, Nat.zero_le _, rfl, ⟨_, _, _, _, HWS.out⟩⟩
  case round =>
    obtain ⟨j, hj, rfl, N, S, M, L, hws⟩ := hrel
    have HW := hid hws
    clear hws HWS BC
    by_cases h : j < most
    · have hI : (j : Int) < (most : Int) := by omega
      have hI2 : (j : Int) < (P.length : Int) := by omega
      have hjR : j < R.length := by omega
      obtain ⟨⟨bs, bt⟩, gs, off, hao, p0, p1, p2⟩ := HC.out j (by omega)
      subst hao
      have p0 := below_cells HW.out.below _ _ p0
      have p1 := below_cells HW.out.below _ _ p1
      have p2 := below_cells HW.out.below _ _ p2
      obtain ⟨y, hy⟩ : ∃ y, P[j] = y := ⟨_, rfl⟩
      rw [hy] at p0 p1 p2 bs bt
      obtain ⟨kd, x, on⟩ := y
      simp only at p0 p1 p2 bs bt
      clear hy
      obtain ⟨hr0, hr1⟩ := HRin.out j hjR
      obtain ⟨i, hi⟩ : ∃ i : Nat, R[j] = (i : Int) := ⟨R[j].toNat, by omega⟩
      have HLA := hid (show LA R m (j + 1) = (LA R m j).set i ((j : Int) + 1) by rw [LA_next R m j hjR, hi, Int.toNat_natCast])
      have HRi := hid hi
      have him : i < m := by omega
      clear hi hr0 hr1
      have hj0 : 0 ≤ (j : Int) := by omega
      have hj9 : (j : Int) ≤ 1000000000 := by omega
      have hj5 : j ≤ 100000 := by omega
      have HW1 := hid (fun oo : Obj => HW.out.later ((Below.refl _ _).alloc (Nat.le_refl _) oo))
      have DK : kd = 0 ∨ kd = 1 ∨ kd = 2 ∨ kd = 3 ∨ kd = 4 ∨ (kd ≠ 0 ∧ kd ≠ 1 ∧ kd ≠ 2 ∧ kd ≠ 3 ∧ kd ≠ 4) := by omega
      rcases DK with rfl | rfl | rfl | rfl | rfl | ⟨g0, g1, g2, g3, g4⟩
      · as_aux_lemma =>
          have HO := hid (ws_start (HW1.out (.cells #[.int .i64 0, .int .i64 x, .int .i64 on] 48)) hj0 x)
          go_wp2_with fail
          refine Calls.mono HO.out ?_
          rintro e wb ⟨⟨vb, rfl⟩, N2, S2, M2, L2, hws2⟩
          clear HO
          obtain ⟨g1, cp1, hv1, _, _, hcl⟩ := hws2.op.form (by omega)
          have c1 := hcl j hjR
          rw [HRi.out] at c1
          obtain ⟨rfl, rfl⟩ : ap = some ⟨g1, 0, none⟩ ∧ cp = cp1 := by injection hv1 with e1 _ e3; exact ⟨e1, e3⟩
          have HWP := hid (ws_pick hws2 ⟨hj0, hj9⟩ i him (LA_len _ _ _))
          clear hws2 hcl hv1
          go_wp2_with fail
          refine Calls.mono HWP.out ?_
          rintro e wc ⟨⟨vc, rfl⟩, N3, S3, M3, L3, hws3⟩
          have HW3 := hid (show WS w wc d hb mb m (j + 1) (((j + 1 : Nat) : Int)) (LA R m (j + 1)) (.slice (some ⟨g1, 0, none⟩) most cp) R N3 S3 M3 L3 from by rw [HLA.out]; exact hws3)
          have HLo := hid (longest_any wc hws3.bd (by omega) (fun i hi => ⟨(hws3.since i hi).1, (hws3.since i hi).2.1⟩))
          clear hws3 HWP
          go_wp2_with fail
          refine Calls.mono HLo.out ?_
          rintro e wd ⟨⟨lo, ct, rfl, hlg⟩, hBd⟩
          have HW4 := hid (HW3.out.later hBd)
          clear hBd HLo
          have HRd := hid (ready_any wd HW4.out.bd)
          rcases hlg with ⟨hnil, rfl, rfl⟩ | ⟨hlo, i2, hi2, hst, rfl⟩
          · rw [hnil] at HRd
            have hk0 : ¬ (kk : Int) ≤ 0 := by omega
            go_wp2_with fail
            refine Calls.mono HRd.out ?_
            rintro e we ⟨⟨v5, rfl, ho5⟩, hB5⟩
            have HW5 := hid (HW4.out.later hB5)
            obtain ⟨a5, c5, hv5⟩ := ho5.reads.len0
            rw [List.length_nil] at hv5
            subst hv5
            clear ho5 hB5 HRd
            go_wp2
            go_roundw
            case rel => exact ⟨j + 1, by omega, by go_num, ⟨_, _, _, _, HW5.out⟩⟩
            case measure => simp [intOf]; omega
          · have hne : rdy S3 S3.length ≠ [] := fun e => by have := rdy_has S3 S3.length i2 hi2 hi2 hst; rw [e] at this; simp at this
            have hpos : (rdy S3 S3.length).length ≠ 0 := fun e => hne (List.eq_nil_of_length_eq_zero e)
            obtain ⟨s0, s1, s2⟩ := HW3.out.since i2 hi2
            have hlt := fair_lt HFair.out j hjR i2 (by have := HW3.out.len; omega) s0 (s2 hst)
            have hct1 : ¬ (j : Int) + 1 - S3[i2].2.2 ≥ (kk : Int) := by omega
            have hct2 : 0 ≤ (j : Int) + 1 - S3[i2].2.2 := by omega
            have hct3 : (j : Int) + 1 - S3[i2].2.2 < (kk : Int) := by omega
            have hlo2 : ¬ lo < 0 := by omega
            clear hst s0 s1 s2 hlt hne
            generalize (j : Int) + 1 - S3[i2].2.2 = ct at hct1 hct2 hct3
            go_wp2_with fail
            refine Calls.mono HRd.out ?_
            rintro e we ⟨⟨v5, rfl, ho5⟩, hB5⟩
            have HW5 := hid (HW4.out.later hB5)
            obtain ⟨a5, c5, hv5⟩ := ho5.reads.len0
            subst hv5
            have hlb : (((rdy S3 S3.length).length : Int) == 0) = false := by rw [beq_eq_false_iff_ne]; omega
            generalize (rdy S3 S3.length).length = rl at hlb hpos
            clear ho5 hB5 HRd
            go_wp2
            go_roundw
            case rel => exact ⟨j + 1, by omega, by go_num, ⟨_, _, _, _, HW5.out⟩⟩
            case measure => simp [intOf]; omega
      · as_aux_lemma =>
          have HO := hid (ws_block (HW1.out (.cells #[.int .i64 1, .int .i64 x, .int .i64 on] 48)) hj0 x on ⟨bt.1, bt.2⟩ hj5)
          go_wp2_with fail
          refine Calls.mono HO.out ?_
          rintro e wb ⟨⟨vb, rfl⟩, N2, S2, M2, L2, hws2⟩
          clear HO
          obtain ⟨g1, cp1, hv1, _, _, hcl⟩ := hws2.op.form (by omega)
          have c1 := hcl j hjR
          rw [HRi.out] at c1
          obtain ⟨rfl, rfl⟩ : ap = some ⟨g1, 0, none⟩ ∧ cp = cp1 := by injection hv1 with e1 _ e3; exact ⟨e1, e3⟩
          have HWP := hid (ws_pick hws2 ⟨hj0, hj9⟩ i him (LA_len _ _ _))
          clear hws2 hcl hv1
          go_wp2_with fail
          refine Calls.mono HWP.out ?_
          rintro e wc ⟨⟨vc, rfl⟩, N3, S3, M3, L3, hws3⟩
          have HW3 := hid (show WS w wc d hb mb m (j + 1) (((j + 1 : Nat) : Int)) (LA R m (j + 1)) (.slice (some ⟨g1, 0, none⟩) most cp) R N3 S3 M3 L3 from by rw [HLA.out]; exact hws3)
          have HLo := hid (longest_any wc hws3.bd (by omega) (fun i hi => ⟨(hws3.since i hi).1, (hws3.since i hi).2.1⟩))
          clear hws3 HWP
          go_wp2_with fail
          refine Calls.mono HLo.out ?_
          rintro e wd ⟨⟨lo, ct, rfl, hlg⟩, hBd⟩
          have HW4 := hid (HW3.out.later hBd)
          clear hBd HLo
          have HRd := hid (ready_any wd HW4.out.bd)
          rcases hlg with ⟨hnil, rfl, rfl⟩ | ⟨hlo, i2, hi2, hst, rfl⟩
          · rw [hnil] at HRd
            have hk0 : ¬ (kk : Int) ≤ 0 := by omega
            go_wp2_with fail
            refine Calls.mono HRd.out ?_
            rintro e we ⟨⟨v5, rfl, ho5⟩, hB5⟩
            have HW5 := hid (HW4.out.later hB5)
            obtain ⟨a5, c5, hv5⟩ := ho5.reads.len0
            rw [List.length_nil] at hv5
            subst hv5
            clear ho5 hB5 HRd
            go_wp2
            go_roundw
            case rel => exact ⟨j + 1, by omega, by go_num, ⟨_, _, _, _, HW5.out⟩⟩
            case measure => simp [intOf]; omega
          · have hne : rdy S3 S3.length ≠ [] := fun e => by have := rdy_has S3 S3.length i2 hi2 hi2 hst; rw [e] at this; simp at this
            have hpos : (rdy S3 S3.length).length ≠ 0 := fun e => hne (List.eq_nil_of_length_eq_zero e)
            obtain ⟨s0, s1, s2⟩ := HW3.out.since i2 hi2
            have hlt := fair_lt HFair.out j hjR i2 (by have := HW3.out.len; omega) s0 (s2 hst)
            have hct1 : ¬ (j : Int) + 1 - S3[i2].2.2 ≥ (kk : Int) := by omega
            have hct2 : 0 ≤ (j : Int) + 1 - S3[i2].2.2 := by omega
            have hct3 : (j : Int) + 1 - S3[i2].2.2 < (kk : Int) := by omega
            have hlo2 : ¬ lo < 0 := by omega
            clear hst s0 s1 s2 hlt hne
            generalize (j : Int) + 1 - S3[i2].2.2 = ct at hct1 hct2 hct3
            go_wp2_with fail
            refine Calls.mono HRd.out ?_
            rintro e we ⟨⟨v5, rfl, ho5⟩, hB5⟩
            have HW5 := hid (HW4.out.later hB5)
            obtain ⟨a5, c5, hv5⟩ := ho5.reads.len0
            subst hv5
            have hlb : (((rdy S3 S3.length).length : Int) == 0) = false := by rw [beq_eq_false_iff_ne]; omega
            generalize (rdy S3 S3.length).length = rl at hlb hpos
            clear ho5 hB5 HRd
            go_wp2
            go_roundw
            case rel => exact ⟨j + 1, by omega, by go_num, ⟨_, _, _, _, HW5.out⟩⟩
            case measure => simp [intOf]; omega
      · as_aux_lemma =>
          have HO := hid (ws_wake (HW1.out (.cells #[.int .i64 2, .int .i64 x, .int .i64 on] 48)) hj0 on ⟨bt.1, bt.2⟩ hj5)
          go_wp2_with fail
          refine Calls.mono HO.out ?_
          rintro e wb ⟨⟨vb, rfl⟩, N2, S2, M2, L2, hws2⟩
          clear HO
          obtain ⟨g1, cp1, hv1, _, _, hcl⟩ := hws2.op.form (by omega)
          have c1 := hcl j hjR
          rw [HRi.out] at c1
          obtain ⟨rfl, rfl⟩ : ap = some ⟨g1, 0, none⟩ ∧ cp = cp1 := by injection hv1 with e1 _ e3; exact ⟨e1, e3⟩
          have HWP := hid (ws_pick hws2 ⟨hj0, hj9⟩ i him (LA_len _ _ _))
          clear hws2 hcl hv1
          go_wp2_with fail
          refine Calls.mono HWP.out ?_
          rintro e wc ⟨⟨vc, rfl⟩, N3, S3, M3, L3, hws3⟩
          have HW3 := hid (show WS w wc d hb mb m (j + 1) (((j + 1 : Nat) : Int)) (LA R m (j + 1)) (.slice (some ⟨g1, 0, none⟩) most cp) R N3 S3 M3 L3 from by rw [HLA.out]; exact hws3)
          have HLo := hid (longest_any wc hws3.bd (by omega) (fun i hi => ⟨(hws3.since i hi).1, (hws3.since i hi).2.1⟩))
          clear hws3 HWP
          go_wp2_with fail
          refine Calls.mono HLo.out ?_
          rintro e wd ⟨⟨lo, ct, rfl, hlg⟩, hBd⟩
          have HW4 := hid (HW3.out.later hBd)
          clear hBd HLo
          have HRd := hid (ready_any wd HW4.out.bd)
          rcases hlg with ⟨hnil, rfl, rfl⟩ | ⟨hlo, i2, hi2, hst, rfl⟩
          · rw [hnil] at HRd
            have hk0 : ¬ (kk : Int) ≤ 0 := by omega
            go_wp2_with fail
            refine Calls.mono HRd.out ?_
            rintro e we ⟨⟨v5, rfl, ho5⟩, hB5⟩
            have HW5 := hid (HW4.out.later hB5)
            obtain ⟨a5, c5, hv5⟩ := ho5.reads.len0
            rw [List.length_nil] at hv5
            subst hv5
            clear ho5 hB5 HRd
            go_wp2
            go_roundw
            case rel => exact ⟨j + 1, by omega, by go_num, ⟨_, _, _, _, HW5.out⟩⟩
            case measure => simp [intOf]; omega
          · have hne : rdy S3 S3.length ≠ [] := fun e => by have := rdy_has S3 S3.length i2 hi2 hi2 hst; rw [e] at this; simp at this
            have hpos : (rdy S3 S3.length).length ≠ 0 := fun e => hne (List.eq_nil_of_length_eq_zero e)
            obtain ⟨s0, s1, s2⟩ := HW3.out.since i2 hi2
            have hlt := fair_lt HFair.out j hjR i2 (by have := HW3.out.len; omega) s0 (s2 hst)
            have hct1 : ¬ (j : Int) + 1 - S3[i2].2.2 ≥ (kk : Int) := by omega
            have hct2 : 0 ≤ (j : Int) + 1 - S3[i2].2.2 := by omega
            have hct3 : (j : Int) + 1 - S3[i2].2.2 < (kk : Int) := by omega
            have hlo2 : ¬ lo < 0 := by omega
            clear hst s0 s1 s2 hlt hne
            generalize (j : Int) + 1 - S3[i2].2.2 = ct at hct1 hct2 hct3
            go_wp2_with fail
            refine Calls.mono HRd.out ?_
            rintro e we ⟨⟨v5, rfl, ho5⟩, hB5⟩
            have HW5 := hid (HW4.out.later hB5)
            obtain ⟨a5, c5, hv5⟩ := ho5.reads.len0
            subst hv5
            have hlb : (((rdy S3 S3.length).length : Int) == 0) = false := by rw [beq_eq_false_iff_ne]; omega
            generalize (rdy S3 S3.length).length = rl at hlb hpos
            clear ho5 hB5 HRd
            go_wp2
            go_roundw
            case rel => exact ⟨j + 1, by omega, by go_num, ⟨_, _, _, _, HW5.out⟩⟩
            case measure => simp [intOf]; omega
      · as_aux_lemma =>
          have HO := hid (ws_first (HW1.out (.cells #[.int .i64 3, .int .i64 x, .int .i64 on] 48)) hj0 on ⟨bt.1, bt.2⟩ hj5)
          go_wp2_with fail
          refine Calls.mono HO.out ?_
          rintro e wb ⟨⟨vb, rfl⟩, N2, S2, M2, L2, hws2⟩
          clear HO
          obtain ⟨g1, cp1, hv1, _, _, hcl⟩ := hws2.op.form (by omega)
          have c1 := hcl j hjR
          rw [HRi.out] at c1
          obtain ⟨rfl, rfl⟩ : ap = some ⟨g1, 0, none⟩ ∧ cp = cp1 := by injection hv1 with e1 _ e3; exact ⟨e1, e3⟩
          have HWP := hid (ws_pick hws2 ⟨hj0, hj9⟩ i him (LA_len _ _ _))
          clear hws2 hcl hv1
          go_wp2_with fail
          refine Calls.mono HWP.out ?_
          rintro e wc ⟨⟨vc, rfl⟩, N3, S3, M3, L3, hws3⟩
          have HW3 := hid (show WS w wc d hb mb m (j + 1) (((j + 1 : Nat) : Int)) (LA R m (j + 1)) (.slice (some ⟨g1, 0, none⟩) most cp) R N3 S3 M3 L3 from by rw [HLA.out]; exact hws3)
          have HLo := hid (longest_any wc hws3.bd (by omega) (fun i hi => ⟨(hws3.since i hi).1, (hws3.since i hi).2.1⟩))
          clear hws3 HWP
          go_wp2_with fail
          refine Calls.mono HLo.out ?_
          rintro e wd ⟨⟨lo, ct, rfl, hlg⟩, hBd⟩
          have HW4 := hid (HW3.out.later hBd)
          clear hBd HLo
          have HRd := hid (ready_any wd HW4.out.bd)
          rcases hlg with ⟨hnil, rfl, rfl⟩ | ⟨hlo, i2, hi2, hst, rfl⟩
          · rw [hnil] at HRd
            have hk0 : ¬ (kk : Int) ≤ 0 := by omega
            go_wp2_with fail
            refine Calls.mono HRd.out ?_
            rintro e we ⟨⟨v5, rfl, ho5⟩, hB5⟩
            have HW5 := hid (HW4.out.later hB5)
            obtain ⟨a5, c5, hv5⟩ := ho5.reads.len0
            rw [List.length_nil] at hv5
            subst hv5
            clear ho5 hB5 HRd
            go_wp2
            go_roundw
            case rel => exact ⟨j + 1, by omega, by go_num, ⟨_, _, _, _, HW5.out⟩⟩
            case measure => simp [intOf]; omega
          · have hne : rdy S3 S3.length ≠ [] := fun e => by have := rdy_has S3 S3.length i2 hi2 hi2 hst; rw [e] at this; simp at this
            have hpos : (rdy S3 S3.length).length ≠ 0 := fun e => hne (List.eq_nil_of_length_eq_zero e)
            obtain ⟨s0, s1, s2⟩ := HW3.out.since i2 hi2
            have hlt := fair_lt HFair.out j hjR i2 (by have := HW3.out.len; omega) s0 (s2 hst)
            have hct1 : ¬ (j : Int) + 1 - S3[i2].2.2 ≥ (kk : Int) := by omega
            have hct2 : 0 ≤ (j : Int) + 1 - S3[i2].2.2 := by omega
            have hct3 : (j : Int) + 1 - S3[i2].2.2 < (kk : Int) := by omega
            have hlo2 : ¬ lo < 0 := by omega
            clear hst s0 s1 s2 hlt hne
            generalize (j : Int) + 1 - S3[i2].2.2 = ct at hct1 hct2 hct3
            go_wp2_with fail
            refine Calls.mono HRd.out ?_
            rintro e we ⟨⟨v5, rfl, ho5⟩, hB5⟩
            have HW5 := hid (HW4.out.later hB5)
            obtain ⟨a5, c5, hv5⟩ := ho5.reads.len0
            subst hv5
            have hlb : (((rdy S3 S3.length).length : Int) == 0) = false := by rw [beq_eq_false_iff_ne]; omega
            generalize (rdy S3 S3.length).length = rl at hlb hpos
            clear ho5 hB5 HRd
            go_wp2
            go_roundw
            case rel => exact ⟨j + 1, by omega, by go_num, ⟨_, _, _, _, HW5.out⟩⟩
            case measure => simp [intOf]; omega
      · as_aux_lemma =>
          have HO := hid (ws_finish (HW1.out (.cells #[.int .i64 4, .int .i64 x, .int .i64 on] 48)) hj0 x)
          go_wp2_with fail
          refine Calls.mono HO.out ?_
          rintro e wb ⟨⟨vb, rfl⟩, N2, S2, M2, L2, hws2⟩
          clear HO
          obtain ⟨g1, cp1, hv1, _, _, hcl⟩ := hws2.op.form (by omega)
          have c1 := hcl j hjR
          rw [HRi.out] at c1
          obtain ⟨rfl, rfl⟩ : ap = some ⟨g1, 0, none⟩ ∧ cp = cp1 := by injection hv1 with e1 _ e3; exact ⟨e1, e3⟩
          have HWP := hid (ws_pick hws2 ⟨hj0, hj9⟩ i him (LA_len _ _ _))
          clear hws2 hcl hv1
          go_wp2_with fail
          refine Calls.mono HWP.out ?_
          rintro e wc ⟨⟨vc, rfl⟩, N3, S3, M3, L3, hws3⟩
          have HW3 := hid (show WS w wc d hb mb m (j + 1) (((j + 1 : Nat) : Int)) (LA R m (j + 1)) (.slice (some ⟨g1, 0, none⟩) most cp) R N3 S3 M3 L3 from by rw [HLA.out]; exact hws3)
          have HLo := hid (longest_any wc hws3.bd (by omega) (fun i hi => ⟨(hws3.since i hi).1, (hws3.since i hi).2.1⟩))
          clear hws3 HWP
          go_wp2_with fail
          refine Calls.mono HLo.out ?_
          rintro e wd ⟨⟨lo, ct, rfl, hlg⟩, hBd⟩
          have HW4 := hid (HW3.out.later hBd)
          clear hBd HLo
          have HRd := hid (ready_any wd HW4.out.bd)
          rcases hlg with ⟨hnil, rfl, rfl⟩ | ⟨hlo, i2, hi2, hst, rfl⟩
          · rw [hnil] at HRd
            have hk0 : ¬ (kk : Int) ≤ 0 := by omega
            go_wp2_with fail
            refine Calls.mono HRd.out ?_
            rintro e we ⟨⟨v5, rfl, ho5⟩, hB5⟩
            have HW5 := hid (HW4.out.later hB5)
            obtain ⟨a5, c5, hv5⟩ := ho5.reads.len0
            rw [List.length_nil] at hv5
            subst hv5
            clear ho5 hB5 HRd
            go_wp2
            go_roundw
            case rel => exact ⟨j + 1, by omega, by go_num, ⟨_, _, _, _, HW5.out⟩⟩
            case measure => simp [intOf]; omega
          · have hne : rdy S3 S3.length ≠ [] := fun e => by have := rdy_has S3 S3.length i2 hi2 hi2 hst; rw [e] at this; simp at this
            have hpos : (rdy S3 S3.length).length ≠ 0 := fun e => hne (List.eq_nil_of_length_eq_zero e)
            obtain ⟨s0, s1, s2⟩ := HW3.out.since i2 hi2
            have hlt := fair_lt HFair.out j hjR i2 (by have := HW3.out.len; omega) s0 (s2 hst)
            have hct1 : ¬ (j : Int) + 1 - S3[i2].2.2 ≥ (kk : Int) := by omega
            have hct2 : 0 ≤ (j : Int) + 1 - S3[i2].2.2 := by omega
            have hct3 : (j : Int) + 1 - S3[i2].2.2 < (kk : Int) := by omega
            have hlo2 : ¬ lo < 0 := by omega
            clear hst s0 s1 s2 hlt hne
            generalize (j : Int) + 1 - S3[i2].2.2 = ct at hct1 hct2 hct3
            go_wp2_with fail
            refine Calls.mono HRd.out ?_
            rintro e we ⟨⟨v5, rfl, ho5⟩, hB5⟩
            have HW5 := hid (HW4.out.later hB5)
            obtain ⟨a5, c5, hv5⟩ := ho5.reads.len0
            subst hv5
            have hlb : (((rdy S3 S3.length).length : Int) == 0) = false := by rw [beq_eq_false_iff_ne]; omega
            generalize (rdy S3 S3.length).length = rl at hlb hpos
            clear ho5 hB5 HRd
            go_wp2
            go_roundw
            case rel => exact ⟨j + 1, by omega, by go_num, ⟨_, _, _, _, HW5.out⟩⟩
            case measure => simp [intOf]; omega
      · as_aux_lemma =>
          have q0 : (kd == 0) = false := by simp [g0]
          have q1 : (kd == 1) = false := by simp [g1]
          have q2 : (kd == 2) = false := by simp [g2]
          have q3 : (kd == 3) = false := by simp [g3]
          have q4 : (kd == 4) = false := by simp [g4]
          clear g0 g1 g2 g3 g4
          have hws2 := (HW1.out (.cells #[.int .i64 kd, .int .i64 x, .int .i64 on] 48)).more
          obtain ⟨g1, cp1, hv1, _, _, hcl⟩ := hws2.op.form (by omega)
          have c1 := hcl j hjR
          rw [HRi.out] at c1
          obtain ⟨rfl, rfl⟩ : ap = some ⟨g1, 0, none⟩ ∧ cp = cp1 := by injection hv1 with e1 _ e3; exact ⟨e1, e3⟩
          have HWP := hid (ws_pick hws2 ⟨hj0, hj9⟩ i him (LA_len _ _ _))
          clear hws2 hcl hv1
          go_wp2_with fail
          refine Calls.mono HWP.out ?_
          rintro e wc ⟨⟨vc, rfl⟩, N3, S3, M3, L3, hws3⟩
          have HW3 := hid (show WS w wc d hb mb m (j + 1) (((j + 1 : Nat) : Int)) (LA R m (j + 1)) (.slice (some ⟨g1, 0, none⟩) most cp) R N3 S3 M3 L3 from by rw [HLA.out]; exact hws3)
          have HLo := hid (longest_any wc hws3.bd (by omega) (fun i hi => ⟨(hws3.since i hi).1, (hws3.since i hi).2.1⟩))
          clear hws3 HWP
          go_wp2_with fail
          refine Calls.mono HLo.out ?_
          rintro e wd ⟨⟨lo, ct, rfl, hlg⟩, hBd⟩
          have HW4 := hid (HW3.out.later hBd)
          clear hBd HLo
          have HRd := hid (ready_any wd HW4.out.bd)
          rcases hlg with ⟨hnil, rfl, rfl⟩ | ⟨hlo, i2, hi2, hst, rfl⟩
          · rw [hnil] at HRd
            have hk0 : ¬ (kk : Int) ≤ 0 := by omega
            go_wp2_with fail
            refine Calls.mono HRd.out ?_
            rintro e we ⟨⟨v5, rfl, ho5⟩, hB5⟩
            have HW5 := hid (HW4.out.later hB5)
            obtain ⟨a5, c5, hv5⟩ := ho5.reads.len0
            rw [List.length_nil] at hv5
            subst hv5
            clear ho5 hB5 HRd
            go_wp2
            go_roundw
            case rel => exact ⟨j + 1, by omega, by go_num, ⟨_, _, _, _, HW5.out⟩⟩
            case measure => simp [intOf]; omega
          · have hne : rdy S3 S3.length ≠ [] := fun e => by have := rdy_has S3 S3.length i2 hi2 hi2 hst; rw [e] at this; simp at this
            have hpos : (rdy S3 S3.length).length ≠ 0 := fun e => hne (List.eq_nil_of_length_eq_zero e)
            obtain ⟨s0, s1, s2⟩ := HW3.out.since i2 hi2
            have hlt := fair_lt HFair.out j hjR i2 (by have := HW3.out.len; omega) s0 (s2 hst)
            have hct1 : ¬ (j : Int) + 1 - S3[i2].2.2 ≥ (kk : Int) := by omega
            have hct2 : 0 ≤ (j : Int) + 1 - S3[i2].2.2 := by omega
            have hct3 : (j : Int) + 1 - S3[i2].2.2 < (kk : Int) := by omega
            have hlo2 : ¬ lo < 0 := by omega
            clear hst s0 s1 s2 hlt hne
            generalize (j : Int) + 1 - S3[i2].2.2 = ct at hct1 hct2 hct3
            go_wp2_with fail
            refine Calls.mono HRd.out ?_
            rintro e we ⟨⟨v5, rfl, ho5⟩, hB5⟩
            have HW5 := hid (HW4.out.later hB5)
            obtain ⟨a5, c5, hv5⟩ := ho5.reads.len0
            subst hv5
            have hlb : (((rdy S3 S3.length).length : Int) == 0) = false := by rw [beq_eq_false_iff_ne]; omega
            generalize (rdy S3 S3.length).length = rl at hlb hpos
            clear ho5 hB5 HRd
            go_wp2
            go_roundw
            case rel => exact ⟨j + 1, by omega, by go_num, ⟨_, _, _, _, HW5.out⟩⟩
            case measure => simp [intOf]; omega
    · have hI : ¬ (j : Int) < (most : Int) := by omega
      go_wp2
      go_ret
      exact ⟨rfl, HW.out.below⟩
set_option maxHeartbeats 16000000 in
theorem waits_lot (s n k : Int) (v : Value) (P : List Opr) (w : World) (hr : OL w v P) (hl : P.length * 24 ≤ reachBytes) (hcmp : 4000 < (P.length : Int)) :
    Calls Try.prog 5 #[.int .u64 s, .int .i64 n, .int .i64 k, v] w fun e w' => e = .returned (.bool true) ∧ Below w.heap.size w w' := by
  cases hok : okM n k with
  | false => exact waits_no s n k v w hok
  | true =>
  obtain ⟨n1, n2, k1, k2⟩ := (okM_iff n k).1 hok
  obtain ⟨m, rfl⟩ : ∃ m : Nat, n = (m : Int) := ⟨n.toNat, by omega⟩
  obtain ⟨kk, rfl⟩ : ∃ kk : Nat, k = (kk : Int) := ⟨k.toNat, by omega⟩
  have hl' : P.length ≤ 5864062014634 := by have : reachBytes = 140737488351232 := rfl; omega
  clear hl
  obtain ⟨most, hmost⟩ : ∃ most : Nat, most = min P.length 4000 := ⟨_, rfl⟩
  have hmle : most ≤ 4000 := by omega
  have hmP : most ≤ P.length := by omega
  have HMV := hid (show (most : Int) = 4000 by omega)
  have hmq : ((most : Int) == 4000) = true := by simp; omega
  have hmq2 : ((most : Int) != 4000) = false := by simp; omega
  have HN := hid (new_any m w (by omega) (by omega))
  have HMx := hid (fun w => mixed_any s (m : Int) (kk : Int) w ⟨by omega, by omega⟩)
  obtain ⟨R, _, _, hR2, hSo⟩ := some_mixed s (m : Int) (kk : Int) most (by omega)
  have hR : R = mxL s m ((kk + 1) / 2) most := by rw [hR2 kk m _ hok rfl rfl rfl, mxL_take _ _ _ _ _ (by omega)]
  have hRl : R.length = most := by rw [hR, mxL_len]
  have hfa := mixed_fair s m ((kk + 1) / 2) kk most ⟨by omega, by omega⟩ (by omega) rfl (by omega)
  rw [← hR] at hfa
  have HFair := hid (show ∀ j, j < R.length → ¬ badF R m (kk : Int) j from by
    rcases hfa with ⟨_, e, _⟩ | ⟨_, i, _, _, _, e, _⟩ | ⟨_, h, _, _⟩
    · cases e
    · cases e
    · rwa [Int.toNat_natCast] at h)
  have HRin := hid (show ∀ j (h : j < R.length), 0 ≤ R[j] ∧ R[j] < (m : Int) from fun j h => by
    subst hR
    rw [mx_at]
    exact mxP_in s m _ j (by omega) (by omega))
  have HSo := hid hSo
  obtain ⟨ao, cap, rfl, hc, hn0, hcell⟩ := hr
  have HC := hid hcell
  have hm1 : 1 ≤ (m : Int) := by omega
  have hkk1 : 1 ≤ (kk : Int) := by omega
  clear hcell hn0 hR2 hSo hR hfa hok hmost
  go_enter Try.func5, Try.ntmps5
  go_wp2_with fail
  refine Calls.mono HN.out ?_
  rintro e w1 ⟨⟨d, hb, mb, rfl, hbd⟩, hB1⟩
  have HBD := hid hbd
  have B1 := hid hB1
  clear hbd hB1 HN
  go_wp2_with fail
  refine Calls.mono (HMx.out _) ?_
  rintro e w2 ⟨hmx, hB2⟩
  obtain ⟨fn, lb, rfl, hso⟩ := HSo.out _ _ hmx
  have HS2 := hid (hso w2 (Below.refl _ _))
  rw [HMV.out] at HS2
  have B2 := hid hB2
  clear hmx hB2 hso HMx HSo
  go_wp2_with fail
  refine Calls.mono HS2.out ?_
  rintro e w3 ⟨⟨vp, rfl, hop⟩, hB3⟩
  have hz1 := B1.out.size
  have hz2 := B2.out.size
  have BC := hid (B1.out.trans ((B2.out.trans (hB3.mono hz2)).mono hz1))
  have HWS := hid (show WS w w3 d hb mb m 0 0 (LA R m 0) vp R 0 (List.replicate m (0, 0, 0)) (fun _ => .slice none 0 0) (fun _ => []) from
    ⟨HBD.out.later (B2.out.trans (hB3.mono hz2)), Nat.le_refl _, by simp, (fun on x hx => by simp at hx), (fun on => by simp), (fun i => by simp [LA, List.getD_eq_getElem?_getD, List.getElem?_replicate]; split <;> simp), (fun i hi => by simp), hop.mono (by omega), (fun g hg hof => by
      have h1 := (World.ownsRow.lt hop g hg).1
      have h2 := (HBD.out.lt g hof).1
      omega), BC.out⟩)
  obtain ⟨ap, cp, hvp⟩ := hop.reads.len0
  rw [hRl] at hvp
  subst hvp
  clear hop hB3 HS2 HBD B1 B2
  go_wp2
  go_loopw [12, 13, 14, 15] (fun vi _ _ _ wr => ∃ j : Nat, j ≤ most ∧ vi = .int .i64 (j : Int) ∧ WN w d hb mb m j (j : Int) (LA R m j) (.slice ap most cp) R wr) (fun vi _ _ _ _ => most - (intOf vi).toNat)
  case atStart => exact ⟨0, Nat.zero_le _, rfl, ⟨_, _, _, _, HWS.out⟩⟩
  case round =>
    obtain ⟨j, hj, rfl, N, S, M, L, hws⟩ := hrel
    have HW := hid hws
    clear hws HWS BC
    by_cases h : j < most
    · have hI : (j : Int) < (most : Int) := by omega
      have hI2 : (j : Int) < (P.length : Int) := by omega
      have hjR : j < R.length := by omega
      obtain ⟨⟨bs, bt⟩, gs, off, hao, p0, p1, p2⟩ := HC.out j (by omega)
      subst hao
      have p0 := below_cells HW.out.below _ _ p0
      have p1 := below_cells HW.out.below _ _ p1
      have p2 := below_cells HW.out.below _ _ p2
      obtain ⟨y, hy⟩ : ∃ y, P[j] = y := ⟨_, rfl⟩
      rw [hy] at p0 p1 p2 bs bt
      obtain ⟨kd, x, on⟩ := y
      simp only at p0 p1 p2 bs bt
      clear hy
      obtain ⟨hr0, hr1⟩ := HRin.out j hjR
      obtain ⟨i, hi⟩ : ∃ i : Nat, R[j] = (i : Int) := ⟨R[j].toNat, by omega⟩
      have HLA := hid (show LA R m (j + 1) = (LA R m j).set i ((j : Int) + 1) by rw [LA_next R m j hjR, hi, Int.toNat_natCast])
      have HRi := hid hi
      have him : i < m := by omega
      clear hi hr0 hr1
      have hj0 : 0 ≤ (j : Int) := by omega
      have hj9 : (j : Int) ≤ 1000000000 := by omega
      have hj5 : j ≤ 100000 := by omega
      have HW1 := hid (fun oo : Obj => HW.out.later ((Below.refl _ _).alloc (Nat.le_refl _) oo))
      have DK : kd = 0 ∨ kd = 1 ∨ kd = 2 ∨ kd = 3 ∨ kd = 4 ∨ (kd ≠ 0 ∧ kd ≠ 1 ∧ kd ≠ 2 ∧ kd ≠ 3 ∧ kd ≠ 4) := by omega
      rcases DK with rfl | rfl | rfl | rfl | rfl | ⟨g0, g1, g2, g3, g4⟩
      · as_aux_lemma =>
          have HO := hid (ws_start (HW1.out (.cells #[.int .i64 0, .int .i64 x, .int .i64 on] 48)) hj0 x)
          go_wp2_with fail
          refine Calls.mono HO.out ?_
          rintro e wb ⟨⟨vb, rfl⟩, N2, S2, M2, L2, hws2⟩
          clear HO
          obtain ⟨g1, cp1, hv1, _, _, hcl⟩ := hws2.op.form (by omega)
          have c1 := hcl j hjR
          rw [HRi.out] at c1
          obtain ⟨rfl, rfl⟩ : ap = some ⟨g1, 0, none⟩ ∧ cp = cp1 := by injection hv1 with e1 _ e3; exact ⟨e1, e3⟩
          have HWP := hid (ws_pick hws2 ⟨hj0, hj9⟩ i him (LA_len _ _ _))
          clear hws2 hcl hv1
          go_wp2_with fail
          refine Calls.mono HWP.out ?_
          rintro e wc ⟨⟨vc, rfl⟩, N3, S3, M3, L3, hws3⟩
          have HW3 := hid (show WS w wc d hb mb m (j + 1) (((j + 1 : Nat) : Int)) (LA R m (j + 1)) (.slice (some ⟨g1, 0, none⟩) most cp) R N3 S3 M3 L3 from by rw [HLA.out]; exact hws3)
          have HLo := hid (longest_any wc hws3.bd (by omega) (fun i hi => ⟨(hws3.since i hi).1, (hws3.since i hi).2.1⟩))
          clear hws3 HWP
          go_wp2_with fail
          refine Calls.mono HLo.out ?_
          rintro e wd ⟨⟨lo, ct, rfl, hlg⟩, hBd⟩
          have HW4 := hid (HW3.out.later hBd)
          clear hBd HLo
          have HRd := hid (ready_any wd HW4.out.bd)
          rcases hlg with ⟨hnil, rfl, rfl⟩ | ⟨hlo, i2, hi2, hst, rfl⟩
          · rw [hnil] at HRd
            have hk0 : ¬ (kk : Int) ≤ 0 := by omega
            go_wp2_with fail
            refine Calls.mono HRd.out ?_
            rintro e we ⟨⟨v5, rfl, ho5⟩, hB5⟩
            have HW5 := hid (HW4.out.later hB5)
            obtain ⟨a5, c5, hv5⟩ := ho5.reads.len0
            rw [List.length_nil] at hv5
            subst hv5
            clear ho5 hB5 HRd
            go_wp2
            go_roundw
            case rel => exact ⟨j + 1, by omega, by go_num, ⟨_, _, _, _, HW5.out⟩⟩
            case measure => simp [intOf]; omega
          · have hne : rdy S3 S3.length ≠ [] := fun e => by have := rdy_has S3 S3.length i2 hi2 hi2 hst; rw [e] at this; simp at this
            have hpos : (rdy S3 S3.length).length ≠ 0 := fun e => hne (List.eq_nil_of_length_eq_zero e)
            obtain ⟨s0, s1, s2⟩ := HW3.out.since i2 hi2
            have hlt := fair_lt HFair.out j hjR i2 (by have := HW3.out.len; omega) s0 (s2 hst)
            have hct1 : ¬ (j : Int) + 1 - S3[i2].2.2 ≥ (kk : Int) := by omega
            have hct2 : 0 ≤ (j : Int) + 1 - S3[i2].2.2 := by omega
            have hct3 : (j : Int) + 1 - S3[i2].2.2 < (kk : Int) := by omega
            have hlo2 : ¬ lo < 0 := by omega
            clear hst s0 s1 s2 hlt hne
            generalize (j : Int) + 1 - S3[i2].2.2 = ct at hct1 hct2 hct3
            go_wp2_with fail
            refine Calls.mono HRd.out ?_
            rintro e we ⟨⟨v5, rfl, ho5⟩, hB5⟩
            have HW5 := hid (HW4.out.later hB5)
            obtain ⟨a5, c5, hv5⟩ := ho5.reads.len0
            subst hv5
            have hlb : (((rdy S3 S3.length).length : Int) == 0) = false := by rw [beq_eq_false_iff_ne]; omega
            generalize (rdy S3 S3.length).length = rl at hlb hpos
            clear ho5 hB5 HRd
            go_wp2
            go_roundw
            case rel => exact ⟨j + 1, by omega, by go_num, ⟨_, _, _, _, HW5.out⟩⟩
            case measure => simp [intOf]; omega
      · as_aux_lemma =>
          have HO := hid (ws_block (HW1.out (.cells #[.int .i64 1, .int .i64 x, .int .i64 on] 48)) hj0 x on ⟨bt.1, bt.2⟩ hj5)
          go_wp2_with fail
          refine Calls.mono HO.out ?_
          rintro e wb ⟨⟨vb, rfl⟩, N2, S2, M2, L2, hws2⟩
          clear HO
          obtain ⟨g1, cp1, hv1, _, _, hcl⟩ := hws2.op.form (by omega)
          have c1 := hcl j hjR
          rw [HRi.out] at c1
          obtain ⟨rfl, rfl⟩ : ap = some ⟨g1, 0, none⟩ ∧ cp = cp1 := by injection hv1 with e1 _ e3; exact ⟨e1, e3⟩
          have HWP := hid (ws_pick hws2 ⟨hj0, hj9⟩ i him (LA_len _ _ _))
          clear hws2 hcl hv1
          go_wp2_with fail
          refine Calls.mono HWP.out ?_
          rintro e wc ⟨⟨vc, rfl⟩, N3, S3, M3, L3, hws3⟩
          have HW3 := hid (show WS w wc d hb mb m (j + 1) (((j + 1 : Nat) : Int)) (LA R m (j + 1)) (.slice (some ⟨g1, 0, none⟩) most cp) R N3 S3 M3 L3 from by rw [HLA.out]; exact hws3)
          have HLo := hid (longest_any wc hws3.bd (by omega) (fun i hi => ⟨(hws3.since i hi).1, (hws3.since i hi).2.1⟩))
          clear hws3 HWP
          go_wp2_with fail
          refine Calls.mono HLo.out ?_
          rintro e wd ⟨⟨lo, ct, rfl, hlg⟩, hBd⟩
          have HW4 := hid (HW3.out.later hBd)
          clear hBd HLo
          have HRd := hid (ready_any wd HW4.out.bd)
          rcases hlg with ⟨hnil, rfl, rfl⟩ | ⟨hlo, i2, hi2, hst, rfl⟩
          · rw [hnil] at HRd
            have hk0 : ¬ (kk : Int) ≤ 0 := by omega
            go_wp2_with fail
            refine Calls.mono HRd.out ?_
            rintro e we ⟨⟨v5, rfl, ho5⟩, hB5⟩
            have HW5 := hid (HW4.out.later hB5)
            obtain ⟨a5, c5, hv5⟩ := ho5.reads.len0
            rw [List.length_nil] at hv5
            subst hv5
            clear ho5 hB5 HRd
            go_wp2
            go_roundw
            case rel => exact ⟨j + 1, by omega, by go_num, ⟨_, _, _, _, HW5.out⟩⟩
            case measure => simp [intOf]; omega
          · have hne : rdy S3 S3.length ≠ [] := fun e => by have := rdy_has S3 S3.length i2 hi2 hi2 hst; rw [e] at this; simp at this
            have hpos : (rdy S3 S3.length).length ≠ 0 := fun e => hne (List.eq_nil_of_length_eq_zero e)
            obtain ⟨s0, s1, s2⟩ := HW3.out.since i2 hi2
            have hlt := fair_lt HFair.out j hjR i2 (by have := HW3.out.len; omega) s0 (s2 hst)
            have hct1 : ¬ (j : Int) + 1 - S3[i2].2.2 ≥ (kk : Int) := by omega
            have hct2 : 0 ≤ (j : Int) + 1 - S3[i2].2.2 := by omega
            have hct3 : (j : Int) + 1 - S3[i2].2.2 < (kk : Int) := by omega
            have hlo2 : ¬ lo < 0 := by omega
            clear hst s0 s1 s2 hlt hne
            generalize (j : Int) + 1 - S3[i2].2.2 = ct at hct1 hct2 hct3
            go_wp2_with fail
            refine Calls.mono HRd.out ?_
            rintro e we ⟨⟨v5, rfl, ho5⟩, hB5⟩
            have HW5 := hid (HW4.out.later hB5)
            obtain ⟨a5, c5, hv5⟩ := ho5.reads.len0
            subst hv5
            have hlb : (((rdy S3 S3.length).length : Int) == 0) = false := by rw [beq_eq_false_iff_ne]; omega
            generalize (rdy S3 S3.length).length = rl at hlb hpos
            clear ho5 hB5 HRd
            go_wp2
            go_roundw
            case rel => exact ⟨j + 1, by omega, by go_num, ⟨_, _, _, _, HW5.out⟩⟩
            case measure => simp [intOf]; omega
      · as_aux_lemma =>
          have HO := hid (ws_wake (HW1.out (.cells #[.int .i64 2, .int .i64 x, .int .i64 on] 48)) hj0 on ⟨bt.1, bt.2⟩ hj5)
          go_wp2_with fail
          refine Calls.mono HO.out ?_
          rintro e wb ⟨⟨vb, rfl⟩, N2, S2, M2, L2, hws2⟩
          clear HO
          obtain ⟨g1, cp1, hv1, _, _, hcl⟩ := hws2.op.form (by omega)
          have c1 := hcl j hjR
          rw [HRi.out] at c1
          obtain ⟨rfl, rfl⟩ : ap = some ⟨g1, 0, none⟩ ∧ cp = cp1 := by injection hv1 with e1 _ e3; exact ⟨e1, e3⟩
          have HWP := hid (ws_pick hws2 ⟨hj0, hj9⟩ i him (LA_len _ _ _))
          clear hws2 hcl hv1
          go_wp2_with fail
          refine Calls.mono HWP.out ?_
          rintro e wc ⟨⟨vc, rfl⟩, N3, S3, M3, L3, hws3⟩
          have HW3 := hid (show WS w wc d hb mb m (j + 1) (((j + 1 : Nat) : Int)) (LA R m (j + 1)) (.slice (some ⟨g1, 0, none⟩) most cp) R N3 S3 M3 L3 from by rw [HLA.out]; exact hws3)
          have HLo := hid (longest_any wc hws3.bd (by omega) (fun i hi => ⟨(hws3.since i hi).1, (hws3.since i hi).2.1⟩))
          clear hws3 HWP
          go_wp2_with fail
          refine Calls.mono HLo.out ?_
          rintro e wd ⟨⟨lo, ct, rfl, hlg⟩, hBd⟩
          have HW4 := hid (HW3.out.later hBd)
          clear hBd HLo
          have HRd := hid (ready_any wd HW4.out.bd)
          rcases hlg with ⟨hnil, rfl, rfl⟩ | ⟨hlo, i2, hi2, hst, rfl⟩
          · rw [hnil] at HRd
            have hk0 : ¬ (kk : Int) ≤ 0 := by omega
            go_wp2_with fail
            refine Calls.mono HRd.out ?_
            rintro e we ⟨⟨v5, rfl, ho5⟩, hB5⟩
            have HW5 := hid (HW4.out.later hB5)
            obtain ⟨a5, c5, hv5⟩ := ho5.reads.len0
            rw [List.length_nil] at hv5
            subst hv5
            clear ho5 hB5 HRd
            go_wp2
            go_roundw
            case rel => exact ⟨j + 1, by omega, by go_num, ⟨_, _, _, _, HW5.out⟩⟩
            case measure => simp [intOf]; omega
          · have hne : rdy S3 S3.length ≠ [] := fun e => by have := rdy_has S3 S3.length i2 hi2 hi2 hst; rw [e] at this; simp at this
            have hpos : (rdy S3 S3.length).length ≠ 0 := fun e => hne (List.eq_nil_of_length_eq_zero e)
            obtain ⟨s0, s1, s2⟩ := HW3.out.since i2 hi2
            have hlt := fair_lt HFair.out j hjR i2 (by have := HW3.out.len; omega) s0 (s2 hst)
            have hct1 : ¬ (j : Int) + 1 - S3[i2].2.2 ≥ (kk : Int) := by omega
            have hct2 : 0 ≤ (j : Int) + 1 - S3[i2].2.2 := by omega
            have hct3 : (j : Int) + 1 - S3[i2].2.2 < (kk : Int) := by omega
            have hlo2 : ¬ lo < 0 := by omega
            clear hst s0 s1 s2 hlt hne
            generalize (j : Int) + 1 - S3[i2].2.2 = ct at hct1 hct2 hct3
            go_wp2_with fail
            refine Calls.mono HRd.out ?_
            rintro e we ⟨⟨v5, rfl, ho5⟩, hB5⟩
            have HW5 := hid (HW4.out.later hB5)
            obtain ⟨a5, c5, hv5⟩ := ho5.reads.len0
            subst hv5
            have hlb : (((rdy S3 S3.length).length : Int) == 0) = false := by rw [beq_eq_false_iff_ne]; omega
            generalize (rdy S3 S3.length).length = rl at hlb hpos
            clear ho5 hB5 HRd
            go_wp2
            go_roundw
            case rel => exact ⟨j + 1, by omega, by go_num, ⟨_, _, _, _, HW5.out⟩⟩
            case measure => simp [intOf]; omega
      · as_aux_lemma =>
          have HO := hid (ws_first (HW1.out (.cells #[.int .i64 3, .int .i64 x, .int .i64 on] 48)) hj0 on ⟨bt.1, bt.2⟩ hj5)
          go_wp2_with fail
          refine Calls.mono HO.out ?_
          rintro e wb ⟨⟨vb, rfl⟩, N2, S2, M2, L2, hws2⟩
          clear HO
          obtain ⟨g1, cp1, hv1, _, _, hcl⟩ := hws2.op.form (by omega)
          have c1 := hcl j hjR
          rw [HRi.out] at c1
          obtain ⟨rfl, rfl⟩ : ap = some ⟨g1, 0, none⟩ ∧ cp = cp1 := by injection hv1 with e1 _ e3; exact ⟨e1, e3⟩
          have HWP := hid (ws_pick hws2 ⟨hj0, hj9⟩ i him (LA_len _ _ _))
          clear hws2 hcl hv1
          go_wp2_with fail
          refine Calls.mono HWP.out ?_
          rintro e wc ⟨⟨vc, rfl⟩, N3, S3, M3, L3, hws3⟩
          have HW3 := hid (show WS w wc d hb mb m (j + 1) (((j + 1 : Nat) : Int)) (LA R m (j + 1)) (.slice (some ⟨g1, 0, none⟩) most cp) R N3 S3 M3 L3 from by rw [HLA.out]; exact hws3)
          have HLo := hid (longest_any wc hws3.bd (by omega) (fun i hi => ⟨(hws3.since i hi).1, (hws3.since i hi).2.1⟩))
          clear hws3 HWP
          go_wp2_with fail
          refine Calls.mono HLo.out ?_
          rintro e wd ⟨⟨lo, ct, rfl, hlg⟩, hBd⟩
          have HW4 := hid (HW3.out.later hBd)
          clear hBd HLo
          have HRd := hid (ready_any wd HW4.out.bd)
          rcases hlg with ⟨hnil, rfl, rfl⟩ | ⟨hlo, i2, hi2, hst, rfl⟩
          · rw [hnil] at HRd
            have hk0 : ¬ (kk : Int) ≤ 0 := by omega
            go_wp2_with fail
            refine Calls.mono HRd.out ?_
            rintro e we ⟨⟨v5, rfl, ho5⟩, hB5⟩
            have HW5 := hid (HW4.out.later hB5)
            obtain ⟨a5, c5, hv5⟩ := ho5.reads.len0
            rw [List.length_nil] at hv5
            subst hv5
            clear ho5 hB5 HRd
            go_wp2
            go_roundw
            case rel => exact ⟨j + 1, by omega, by go_num, ⟨_, _, _, _, HW5.out⟩⟩
            case measure => simp [intOf]; omega
          · have hne : rdy S3 S3.length ≠ [] := fun e => by have := rdy_has S3 S3.length i2 hi2 hi2 hst; rw [e] at this; simp at this
            have hpos : (rdy S3 S3.length).length ≠ 0 := fun e => hne (List.eq_nil_of_length_eq_zero e)
            obtain ⟨s0, s1, s2⟩ := HW3.out.since i2 hi2
            have hlt := fair_lt HFair.out j hjR i2 (by have := HW3.out.len; omega) s0 (s2 hst)
            have hct1 : ¬ (j : Int) + 1 - S3[i2].2.2 ≥ (kk : Int) := by omega
            have hct2 : 0 ≤ (j : Int) + 1 - S3[i2].2.2 := by omega
            have hct3 : (j : Int) + 1 - S3[i2].2.2 < (kk : Int) := by omega
            have hlo2 : ¬ lo < 0 := by omega
            clear hst s0 s1 s2 hlt hne
            generalize (j : Int) + 1 - S3[i2].2.2 = ct at hct1 hct2 hct3
            go_wp2_with fail
            refine Calls.mono HRd.out ?_
            rintro e we ⟨⟨v5, rfl, ho5⟩, hB5⟩
            have HW5 := hid (HW4.out.later hB5)
            obtain ⟨a5, c5, hv5⟩ := ho5.reads.len0
            subst hv5
            have hlb : (((rdy S3 S3.length).length : Int) == 0) = false := by rw [beq_eq_false_iff_ne]; omega
            generalize (rdy S3 S3.length).length = rl at hlb hpos
            clear ho5 hB5 HRd
            go_wp2
            go_roundw
            case rel => exact ⟨j + 1, by omega, by go_num, ⟨_, _, _, _, HW5.out⟩⟩
            case measure => simp [intOf]; omega
      · as_aux_lemma =>
          have HO := hid (ws_finish (HW1.out (.cells #[.int .i64 4, .int .i64 x, .int .i64 on] 48)) hj0 x)
          go_wp2_with fail
          refine Calls.mono HO.out ?_
          rintro e wb ⟨⟨vb, rfl⟩, N2, S2, M2, L2, hws2⟩
          clear HO
          obtain ⟨g1, cp1, hv1, _, _, hcl⟩ := hws2.op.form (by omega)
          have c1 := hcl j hjR
          rw [HRi.out] at c1
          obtain ⟨rfl, rfl⟩ : ap = some ⟨g1, 0, none⟩ ∧ cp = cp1 := by injection hv1 with e1 _ e3; exact ⟨e1, e3⟩
          have HWP := hid (ws_pick hws2 ⟨hj0, hj9⟩ i him (LA_len _ _ _))
          clear hws2 hcl hv1
          go_wp2_with fail
          refine Calls.mono HWP.out ?_
          rintro e wc ⟨⟨vc, rfl⟩, N3, S3, M3, L3, hws3⟩
          have HW3 := hid (show WS w wc d hb mb m (j + 1) (((j + 1 : Nat) : Int)) (LA R m (j + 1)) (.slice (some ⟨g1, 0, none⟩) most cp) R N3 S3 M3 L3 from by rw [HLA.out]; exact hws3)
          have HLo := hid (longest_any wc hws3.bd (by omega) (fun i hi => ⟨(hws3.since i hi).1, (hws3.since i hi).2.1⟩))
          clear hws3 HWP
          go_wp2_with fail
          refine Calls.mono HLo.out ?_
          rintro e wd ⟨⟨lo, ct, rfl, hlg⟩, hBd⟩
          have HW4 := hid (HW3.out.later hBd)
          clear hBd HLo
          have HRd := hid (ready_any wd HW4.out.bd)
          rcases hlg with ⟨hnil, rfl, rfl⟩ | ⟨hlo, i2, hi2, hst, rfl⟩
          · rw [hnil] at HRd
            have hk0 : ¬ (kk : Int) ≤ 0 := by omega
            go_wp2_with fail
            refine Calls.mono HRd.out ?_
            rintro e we ⟨⟨v5, rfl, ho5⟩, hB5⟩
            have HW5 := hid (HW4.out.later hB5)
            obtain ⟨a5, c5, hv5⟩ := ho5.reads.len0
            rw [List.length_nil] at hv5
            subst hv5
            clear ho5 hB5 HRd
            go_wp2
            go_roundw
            case rel => exact ⟨j + 1, by omega, by go_num, ⟨_, _, _, _, HW5.out⟩⟩
            case measure => simp [intOf]; omega
          · have hne : rdy S3 S3.length ≠ [] := fun e => by have := rdy_has S3 S3.length i2 hi2 hi2 hst; rw [e] at this; simp at this
            have hpos : (rdy S3 S3.length).length ≠ 0 := fun e => hne (List.eq_nil_of_length_eq_zero e)
            obtain ⟨s0, s1, s2⟩ := HW3.out.since i2 hi2
            have hlt := fair_lt HFair.out j hjR i2 (by have := HW3.out.len; omega) s0 (s2 hst)
            have hct1 : ¬ (j : Int) + 1 - S3[i2].2.2 ≥ (kk : Int) := by omega
            have hct2 : 0 ≤ (j : Int) + 1 - S3[i2].2.2 := by omega
            have hct3 : (j : Int) + 1 - S3[i2].2.2 < (kk : Int) := by omega
            have hlo2 : ¬ lo < 0 := by omega
            clear hst s0 s1 s2 hlt hne
            generalize (j : Int) + 1 - S3[i2].2.2 = ct at hct1 hct2 hct3
            go_wp2_with fail
            refine Calls.mono HRd.out ?_
            rintro e we ⟨⟨v5, rfl, ho5⟩, hB5⟩
            have HW5 := hid (HW4.out.later hB5)
            obtain ⟨a5, c5, hv5⟩ := ho5.reads.len0
            subst hv5
            have hlb : (((rdy S3 S3.length).length : Int) == 0) = false := by rw [beq_eq_false_iff_ne]; omega
            generalize (rdy S3 S3.length).length = rl at hlb hpos
            clear ho5 hB5 HRd
            go_wp2
            go_roundw
            case rel => exact ⟨j + 1, by omega, by go_num, ⟨_, _, _, _, HW5.out⟩⟩
            case measure => simp [intOf]; omega
      · as_aux_lemma =>
          have q0 : (kd == 0) = false := by simp [g0]
          have q1 : (kd == 1) = false := by simp [g1]
          have q2 : (kd == 2) = false := by simp [g2]
          have q3 : (kd == 3) = false := by simp [g3]
          have q4 : (kd == 4) = false := by simp [g4]
          clear g0 g1 g2 g3 g4
          have hws2 := (HW1.out (.cells #[.int .i64 kd, .int .i64 x, .int .i64 on] 48)).more
          obtain ⟨g1, cp1, hv1, _, _, hcl⟩ := hws2.op.form (by omega)
          have c1 := hcl j hjR
          rw [HRi.out] at c1
          obtain ⟨rfl, rfl⟩ : ap = some ⟨g1, 0, none⟩ ∧ cp = cp1 := by injection hv1 with e1 _ e3; exact ⟨e1, e3⟩
          have HWP := hid (ws_pick hws2 ⟨hj0, hj9⟩ i him (LA_len _ _ _))
          clear hws2 hcl hv1
          go_wp2_with fail
          refine Calls.mono HWP.out ?_
          rintro e wc ⟨⟨vc, rfl⟩, N3, S3, M3, L3, hws3⟩
          have HW3 := hid (show WS w wc d hb mb m (j + 1) (((j + 1 : Nat) : Int)) (LA R m (j + 1)) (.slice (some ⟨g1, 0, none⟩) most cp) R N3 S3 M3 L3 from by rw [HLA.out]; exact hws3)
          have HLo := hid (longest_any wc hws3.bd (by omega) (fun i hi => ⟨(hws3.since i hi).1, (hws3.since i hi).2.1⟩))
          clear hws3 HWP
          go_wp2_with fail
          refine Calls.mono HLo.out ?_
          rintro e wd ⟨⟨lo, ct, rfl, hlg⟩, hBd⟩
          have HW4 := hid (HW3.out.later hBd)
          clear hBd HLo
          have HRd := hid (ready_any wd HW4.out.bd)
          rcases hlg with ⟨hnil, rfl, rfl⟩ | ⟨hlo, i2, hi2, hst, rfl⟩
          · rw [hnil] at HRd
            have hk0 : ¬ (kk : Int) ≤ 0 := by omega
            go_wp2_with fail
            refine Calls.mono HRd.out ?_
            rintro e we ⟨⟨v5, rfl, ho5⟩, hB5⟩
            have HW5 := hid (HW4.out.later hB5)
            obtain ⟨a5, c5, hv5⟩ := ho5.reads.len0
            rw [List.length_nil] at hv5
            subst hv5
            clear ho5 hB5 HRd
            go_wp2
            go_roundw
            case rel => exact ⟨j + 1, by omega, by go_num, ⟨_, _, _, _, HW5.out⟩⟩
            case measure => simp [intOf]; omega
          · have hne : rdy S3 S3.length ≠ [] := fun e => by have := rdy_has S3 S3.length i2 hi2 hi2 hst; rw [e] at this; simp at this
            have hpos : (rdy S3 S3.length).length ≠ 0 := fun e => hne (List.eq_nil_of_length_eq_zero e)
            obtain ⟨s0, s1, s2⟩ := HW3.out.since i2 hi2
            have hlt := fair_lt HFair.out j hjR i2 (by have := HW3.out.len; omega) s0 (s2 hst)
            have hct1 : ¬ (j : Int) + 1 - S3[i2].2.2 ≥ (kk : Int) := by omega
            have hct2 : 0 ≤ (j : Int) + 1 - S3[i2].2.2 := by omega
            have hct3 : (j : Int) + 1 - S3[i2].2.2 < (kk : Int) := by omega
            have hlo2 : ¬ lo < 0 := by omega
            clear hst s0 s1 s2 hlt hne
            generalize (j : Int) + 1 - S3[i2].2.2 = ct at hct1 hct2 hct3
            go_wp2_with fail
            refine Calls.mono HRd.out ?_
            rintro e we ⟨⟨v5, rfl, ho5⟩, hB5⟩
            have HW5 := hid (HW4.out.later hB5)
            obtain ⟨a5, c5, hv5⟩ := ho5.reads.len0
            subst hv5
            have hlb : (((rdy S3 S3.length).length : Int) == 0) = false := by rw [beq_eq_false_iff_ne]; omega
            generalize (rdy S3 S3.length).length = rl at hlb hpos
            clear ho5 hB5 HRd
            go_wp2
            go_roundw
            case rel => exact ⟨j + 1, by omega, by go_num, ⟨_, _, _, _, HW5.out⟩⟩
            case measure => simp [intOf]; omega
    · have hI : ¬ (j : Int) < (most : Int) := by omega
      go_wp2
      go_ret
      exact ⟨rfl, HW.out.below⟩
theorem waits_any (s n k : Int) (v : Value) (P : List Opr) (w : World) (hr : OL w v P) (hl : P.length * 24 ≤ reachBytes) :
    Calls Try.prog 5 #[.int .u64 s, .int .i64 n, .int .i64 k, v] w fun e w' => e = .returned (.bool true) ∧ Below w.heap.size w w' := by
  by_cases h : 4000 < (P.length : Int)
  · exact waits_lot s n k v P w hr hl h
  · exact waits_few s n k v P w hr h
end Go.Proofs.Ytecjpjjcahanoab
