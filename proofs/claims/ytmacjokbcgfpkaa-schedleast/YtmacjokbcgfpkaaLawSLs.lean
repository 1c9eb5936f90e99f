/-
  SchedLeast: the law's walk.
-/
import Derived.Test.YtmacjokbcgfpkaaLq5
import Derived.Test.YtmacjokbcgfpkaaNt4
import Derived.Deep.QuietTactic
import Derived.BigQuiet
namespace Go.Proofs.Ytmacjokbcgfpkaa
open Go.RowKit
set_option maxRecDepth 100000

set_option maxHeartbeats 8000000 in
theorem leastOf_any (v vp vs : Value) (R : List Int) (P : List Pr) (K : List Int) (w : World) (hr : RI w v R) (hp : PL w vp P) (hk : RI w vs K) (hl : R.length * 8 ≤ reachBytes) (hl2 : P.length * 16 ≤ reachBytes) (hl3 : K.length * 8 ≤ reachBytes)
    (hKb : ∀ z ∈ K, -9223372036854775808 ≤ z ∧ z ≤ 9223372036854775807) :
    Calls Try.prog 3 #[v, vp, vs] w fun e w' => e = .returned (.bool true) ∧ Below w.heap.size w w' := by
  have hrb : reachBytes = 140737488351232 := rfl
  have HA := hid (least_any v vp R P w hr hp (by omega) (by omega))
  have HR := hid hr
  have HP := hid hp
  have HK := hid hk
  have HKb := hid hKb
  obtain ⟨ao, cap, rfl⟩ := hr.len0
  obtain ⟨aop, capp, hvp, _⟩ := hp
  subst hvp
  obtain ⟨aos, caps, rfl⟩ := hk.len0
  clear hr hk hKb
  go_enter Try.func3, Try.ntmps3
  go_wp2_with fail
  refine Calls.mono HA.out ?_
  rintro e w1 ⟨⟨va, rfl, hoa⟩, hb1⟩
  have HOA := hid hoa
  have B1 := hid hb1
  clear hoa hb1 HA
  by_cases hE : leE R P = 0
  · have HE := hid hE
    have hR512 := ((leE_zero R P).1 hE).1
    have hP256 := ((leE_zero R P).1 hE).2.1
    have hLn := leL_len hE
    obtain ⟨aoa, capa, hva⟩ := HOA.out.reads.len0
    rw [hLn] at hva
    subst hva
    rw [hE]
    have HAl := hid (alike_any _ _ _ (leL R P) R P w1 HOA.out.reads (HR.out.below B1.out) (HP.out.below B1.out) (by omega) (by omega) hLn (fun a b hab => leL_only hE a b hab))
    clear hE
    go_wp2_with fail
    refine Calls.mono HAl.out ?_
    rintro e w2 ⟨rfl, hb2⟩
    have B2 := hid (B1.out.trans (hb2.mono B1.out.size))
    have HOA2 := hid (HOA.out.below hb2)
    have HBl := hid (below_any _ _ R (leL R P) w2 (HR.out.below B2.out) HOA2.out.reads (by omega) (by omega))
    rw [(leL_lst HE.out).not_above] at HBl
    clear hb2 HAl HOA
    go_wp2_with fail
    refine Calls.mono HBl.out ?_
    rintro e w3 ⟨rfl, hb3⟩
    have B3 := hid (B2.out.trans (hb3.mono B2.out.size))
    have HOA3 := hid (HOA2.out.below hb3)
    have HR3 := hid (HR.out.below B3.out)
    clear hb3 HBl HOA2
    go_wp2_with (at_builtin; refine wpList_appI rfl _ _ rfl w3.heap.size _ [] rfl (OI.nil _ _) _ R rfl HR3.out (by simp; omega) (Nat.le_refl _) ?hnext)
    case hnext =>
      intro v9 w4 ho4 hg4
      have HO4 := hid (show OI w4 w3.heap.size v9 R from ho4)
      have hB4 := (Below.refl w3.heap.size w3).grown hg4 (Nat.le_refl _) (by intro k hk; cases hk)
      have B4 := hid hB4
      clear ho4 hg4 hB4 HR3
      obtain ⟨a9, c9, hv9⟩ := HO4.out.reads.len0
      subst hv9
      go_wp2_with fail
      go_loopw [10, 11, 12] (fun vi _ _ wx => ∃ (i : Nat) (O : List Int), i ≤ K.length ∧ vi = .int .i64 (i : Int) ∧ OI wx w3.heap.size (.slice a9 R.length c9) O ∧ Swps (arP P) R O ∧ Below w3.heap.size w3 wx) (fun vi _ _ _ => K.length - (intOf vi).toNat)
      case atStart => exact ⟨0, R, Nat.zero_le _, rfl, HO4.out, .refl _, B4.out⟩
      case round =>
        obtain ⟨i, O, hi, rfl, ho, hsw, hB⟩ := hrel
        have HO := hid ho
        have HSw := hid hsw
        have HB := hid hB
        have hOl := hsw.len.symm
        clear ho hsw hB B4 HO4
        by_cases h : i < K.length ∧ 1 < R.length
        · obtain ⟨h1, h2⟩ := h
          have h1I : (i : Int) < (K.length : Int) := by omega
          have h2I : (1 : Int) < (R.length : Int) := by omega
          obtain ⟨_, _, hvs, _, _, hKc⟩ := HK.out
          obtain ⟨gk, offk, hgk, ck⟩ := hKc i h1
          injection hvs with hv1 hv2 hv3
          subst hv1 hv3 hgk
          have hkb := HKb.out _ (List.getElem_mem h1)
          have ck := below_cells (B3.out.trans (HB.out.mono B3.out.size)) _ _ ck
          obtain ⟨g, c, hv9, hc9, hm9, hcl⟩ := HO.out.form (show 0 < O.length by omega)
          rw [hOl] at hv9
          injection hv9 with hv1 hv2 hv3
          subst hv1 hv3
          have HCl := hid hcl
          clear hcl hKc hv2
          generalize K[i] = s at *
          obtain ⟨t, ht⟩ : ∃ t, s.tmod ((R.length : Int) - 1) = t := ⟨_, rfl⟩
          have hb1 : t < (R.length : Int) - 1 := by rw [← ht]; exact Int.tmod_lt_of_pos _ (by omega)
          have hb2 : - ((R.length : Int) - 1) < t := by rw [← ht]; exact Int.lt_tmod_of_pos _ (by omega)
          obtain ⟨k, hk, htk⟩ : ∃ k : Nat, k + 1 < R.length ∧ ((t < 0 ∧ t = (k : Int) - (R.length : Int) + 1) ∨ (¬ t < 0 ∧ t = (k : Int))) := by
            by_cases c : t < 0
            · exact ⟨(t + (R.length : Int) - 1).toNat, by omega, .inl ⟨c, by omega⟩⟩
            · exact ⟨t.toNat, by omega, .inr ⟨c, by omega⟩⟩
          have ck0 := HCl.out k (by omega)
          have ck1 := HCl.out (k + 1) (by omega)
          have fk0 := HO.out.own k
          have fk1 := HO.out.own (k + 1)
          have HA := hid (fun n => are_any O[k] O[k + 1] _ P (wr.drewN n) (HP.out.below (below_drewN (B3.out.trans (HB.out.mono B3.out.size)) n)) (by omega))
          have HSt := hid (show arP P O[k] O[k + 1] = true → Swps (arP P) R ((O.set k O[k + 1]).set (k + 1) O[k]) from fun ha => swps_one HSw.out k (by omega) ha)
          have HOn := hid (fun n => ((HO.out.below (below_drewN (Below.refl _ _) n)).set (i := k) O[k + 1]).set (i := k + 1) O[k])
          have hkR : (k : Int) < (R.length : Int) := by omega
          have hkR1 : (k : Int) + 1 < (R.length : Int) := by omega
          generalize O[k] = x at *
          generalize O[k + 1] = y at *
          have hgb : w3.heap.size ≤ g := HO.out.block_ge g rfl
          have HBn := hid (show ∀ n, Below w3.heap.size w3 (((wr.drewN n).setCell ⟨g, k, none⟩ (.int .i64 y)).setCell ⟨g, k + 1, none⟩ (.int .i64 x)) from fun n => ((below_drewN HB.out n).setCell hgb _).setCell hgb _)
          clear HCl hb1 hb2
          rcases htk with ⟨hneg, rfl⟩ | ⟨hneg, rfl⟩
          all_goals
            cases har : arP P x y with
            | true =>
              rw [har] at HA
              have HSt2 := hid (HSt.out har)
              clear har HSt
              go_wp2_with fail
              try rw [show (k : Int) - (R.length : Int) + 1 + (R.length : Int) - 1 = (k : Int) by omega]
              go_quiet (first | (go_at_call 8; exact Calls.quiet_of_same (HA.out _)))
              have HBn := hid (HBn.out nq)
              have HOn := hid (HOn.out nq)
              clear HA
              go_wp2
              go_roundw
              case rel => exact ⟨i + 1, _, by omega, by go_num, HOn.out, HSt2.out, HBn.out⟩
              case measure => simp [intOf]; omega
            | false =>
              rw [har] at HA
              clear har HSt HOn HBn
              go_wp2_with fail
              try rw [show (k : Int) - (R.length : Int) + 1 + (R.length : Int) - 1 = (k : Int) by omega]
              go_quiet (first | (go_at_call 8; exact Calls.quiet_of_same (HA.out _)))
              have HBn := hid (below_drewN HB.out nq)
              have HOn := hid (HO.out.below (below_drewN (Below.refl _ _) nq))
              clear HA
              go_wp2
              go_roundw
              case rel => exact ⟨i + 1, O, by omega, by go_num, HOn.out, HSw.out, HBn.out⟩
              case measure => simp [intOf]; omega
        · have DD : ¬ (i : Int) < (K.length : Int) ∨ ((i : Int) < (K.length : Int) ∧ ¬ (1 : Int) < (R.length : Int)) := by omega
          obtain ⟨hE2, hL2⟩ := swps_ok HE.out HSw.out
          have B5 := hid (B3.out.trans (HB.out.mono B3.out.size))
          have HOA5 := hid (HOA3.out.below (HB.out.mono (Nat.le_refl _)))
          have HLe := hid (least_any _ _ O P wr HO.out.reads (HP.out.below B5.out) (by omega) (by omega))
          rw [hE2, hL2] at HLe
          clear hE2 hL2 HO HSw HOA3
          have H3 := hid (fun W hb => least_any (.slice aoa R.length capa) (.slice aop P.length capp) (leL R P) P W (RI.below HOA5.out.reads (w' := W) hb) (HP.out.below (B5.out.trans (Below.mono (w := wr) (w' := W) hb B5.out.size))) (by omega) (by omega))
          have H4 := hid (fun W (hb : Below w.heap.size w W) => least_any (.slice ao R.length cap) (.slice none 0 0) R [] W (HR.out.below hb) ⟨none, 0, rfl, Nat.le_refl _, fun _ => rfl, fun i hi => by simp at hi⟩ (by omega) (by decide))
          rw [(leL_again HE.out).1, (leL_again HE.out).2] at H3
          rw [(leL_none HE.out).1, (leL_none HE.out).2] at H4
          clear h
          rcases DD with h1I | ⟨h1I, h2I⟩
          all_goals
            go_wp2_with fail
            refine Calls.mono HLe.out ?_
            rintro e w6 ⟨⟨vb, rfl, hob⟩, hb6⟩
            have HSm := hid (same_any _ vb _ _ w6 (HOA5.out.reads.below hb6) hob.reads (by omega) (by omega))
            have B6 := hid hb6
            clear hob hb6 HLe
            go_wp2_with fail
            refine Calls.mono HSm.out ?_
            rintro e w7 ⟨⟨bb, rfl, hbb⟩, hb7⟩
            obtain rfl : bb = true := by simpa using hbb
            have B7 := hid (B6.out.trans (hb7.mono B6.out.size))
            have H3b := hid (H3.out w7 B7.out)
            clear hbb hb7 HSm H3
            go_wp2_with fail
            refine Calls.mono H3b.out ?_
            rintro e w8 ⟨⟨vc, rfl, hoc⟩, hb8⟩
            have B8 := hid (B7.out.trans (hb8.mono B7.out.size))
            have BW8 := hid (B5.out.trans (B8.out.mono B5.out.size))
            have HOC := hid hoc
            have H4b := hid (H4.out w8 BW8.out)
            clear hoc hb8 H3b H4
            go_wp2_with fail
            refine Calls.mono H4b.out ?_
            rintro e w9 ⟨⟨vn, rfl, hon⟩, hb9⟩
            have B9 := hid (B8.out.trans (hb9.mono B8.out.size))
            have BW9 := hid (BW8.out.trans (hb9.mono BW8.out.size))
            have HOC9 := hid (HOC.out.below hb9)
            have HON := hid hon
            have HSm := hid (same_any _ vc _ _ w9 (HOA5.out.reads.below B9.out) HOC9.out.reads (by omega) (by omega))
            clear hon hb9 H4b HOC
            go_wp2_with fail
            refine Calls.mono HSm.out ?_
            rintro e w10 ⟨⟨bb, rfl, hbb⟩, hb10⟩
            obtain rfl : bb = true := by simpa using hbb
            have BW10 := hid (BW9.out.trans (hb10.mono BW9.out.size))
            have HSn := hid (same_any vn _ R R w10 (HON.out.below hb10).reads (HR.out.below BW10.out) (by omega) (by omega))
            clear hbb hb10 HSm
            go_wp2_with fail
            refine Calls.mono HSn.out ?_
            rintro e w11 ⟨⟨bb, rfl, hbb⟩, hb11⟩
            obtain rfl : bb = true := by simpa using hbb
            have BW11 := hid (BW10.out.trans (hb11.mono BW10.out.size))
            clear hbb hb11 HSn
            go_wp2
            go_ret
            exact ⟨rfl, BW11.out⟩
  · have HL := hid (show leL R P = [] by unfold leL; rw [if_neg hE])
    have hEb : (leE R P == 0) = false := by simpa using hE
    have hva0 : ∃ a c, va = .slice a 0 c := by
      obtain ⟨a, c, e⟩ := HOA.out.reads.len0
      rw [HL.out] at e
      exact ⟨a, c, e⟩
    obtain ⟨aoa, capa, rfl⟩ := hva0
    have HLv := hid (lives_any w1)
    clear hE HOA
    go_wp2_with fail
    refine Calls.mono HLv.out ?_
    rintro e w2 ⟨rfl, hb2⟩
    have B2 := hid (B1.out.trans (hb2.mono B1.out.size))
    clear hb2
    go_wp2
    go_ret
    exact ⟨rfl, B2.out⟩
end Go.Proofs.Ytmacjokbcgfpkaa
