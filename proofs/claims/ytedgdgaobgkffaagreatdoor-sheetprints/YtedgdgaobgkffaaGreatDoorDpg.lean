/-
  Sheets, the document's side: at, wrong. Laid by mkdpg.py.
-/
import Derived.Test.YtedgdgaobgkffaaGreatDoorDfw
import Derived.Test.YtedgdgaobgkffaaGreatDoorSkc
import Derived.Deep.QuietTactic
import Derived.BigQuiet
namespace Go.Proofs.YtedgdgaobgkffaaGreatDoor
open Go.RowKit
set_option maxRecDepth 100000
set_option linter.unusedVariables false
set_option linter.unusedSimpArgs false
attribute [local go_sem ↓] fLd_op fSt_op

set_option maxHeartbeats 1000000 in
theorem at_any (c l k : Nat) (w : World) : Calls Tryz.prog 45 #[.int .i64 (c : Int), .int .i64 (l : Int), .int .i64 (k : Int)] w fun e w' => e = .returned (fV c l k 0) ∧ Below w.heap.size w w' := by
  obtain ⟨W, ES, hW, gW⟩ := run_fSt (FW.new w) c l k 0
  have EL := run_fLd hW
  have BF := hid (((Below.refl _ w).alloc (Nat.le_refl _) _).grown gW (by simp) (fun b hb => by cases hb; exact Nat.le_refl _))
  have ES' : (fSt ⟨w.heap.size, 0, none⟩ (.agg #[.int .i64 (c : Int), .int .i64 (l : Int), .int .i64 (k : Int), .int .i64 0, .int .i64 0])).run Tryz.prog (w.alloc (.cells #[.int .i64 0, .int .i64 0, .int .i64 0, .int .i64 0, .int .i64 0] 30)) = .ok () W := ES
  clear ES hW gW
  go_enter Tryz.func45, Tryz.ntmps45
  go_wp2
  refine bodyPost_ret (by simp [results, Tryz.results45, asAddr, ↓fLd_op, EL]; try rfl) rfl ?_
  exact ⟨rfl, BF.out⟩
/-- what wrong answers -/
def wgV (q : Nat × Nat × Nat) : Value := fV q.1 q.2.1 q.2.2 0
set_option maxHeartbeats 12000000 in
theorem wrong_any (v : Value) (R : List (List (List UInt8))) (w : World) (hr : Rw w v R) :
    Calls Tryz.prog 44 #[v] w fun e w' => e = .returned (wgV (rck (R.headD []).length R 0)) ∧ Below w.heap.size w w' := by
  have HM := hid (fun c w => dmay_any c w)
  have HAt := hid (fun c l k w => at_any c l k w)
  have HR := hid hr
  have hRl := hr.len
  obtain ⟨ra, rc, rfl⟩ := hr.form
  obtain ⟨n, hn⟩ : ∃ n, n = (R.headD []).length := ⟨_, rfl⟩
  have HN := hid hn
  rw [← hn]
  obtain ⟨Q, hQ⟩ : ∃ Q, Q = rck n R 0 := ⟨_, rfl⟩
  rw [← hQ]
  have HQ := hid hQ
  clear hr hn hQ
  go_enter Tryz.func44, Tryz.ntmps44
  go_wp2_with fail
  go_loopw [3] (fun j wr => ∃ (i : Nat), i ≤ R.length ∧ i ≤ 4096 ∧ j = .int .i64 (i : Int) ∧ Q = rck n (R.drop i) i ∧ Below w.heap.size w wr ∧ FW wr w.heap.size 0 0 0 0) (fun j _ => R.length - (intOf j).toNat)
  case atStart => exact ⟨0, Nat.zero_le _, by omega, rfl, HQ.out, (Below.refl _ _).alloc (Nat.le_refl _) _, FW.new w⟩
  case round =>
    obtain ⟨i, hi, hi4, rfl, hq, hbl, hfb⟩ := hrel
    have HB := hid hbl
    have HF := hid hfb
    have HQi := hid hq
    clear hbl hfb hq
    by_cases hlt : i < R.length
    · have hI : (i : Int) < (R.length : Int) := by omega
      by_cases h4 : i = 4096
      · have e4 : ((i : Int) == 4096) = true := by rw [beq_iff_eq]; omega
        have HV := hid (HQi.out.trans (rck_many n R i hlt h4))
        clear h4
        go_wp2_with fail
        refine Calls.mono (HAt.out 7 (i + 1) 0 _) ?_
        rintro e w2 ⟨rfl, hb2⟩
        obtain ⟨W, ES, hW, gW⟩ := run_fSt (HF.out.big hb2) 7 (i + 1) 0 0
        have EL := run_fLd hW
        have BF := hid ((HB.out.trans (hb2.mono HB.out.size)).grown gW (Nat.le_trans HB.out.size hb2.size) (fun b hb => by cases hb; exact Nat.le_refl _))
        obtain ⟨fv, hfv⟩ : ∃ fv, fv = fV 7 (i + 1) 0 0 := ⟨_, rfl⟩
        rw [← hfv] at ES EL ⊢
        have HFv := hid hfv
        clear hW gW hb2 hfv
        go_wp2
        refine bodyPost_ret (by simp [results, Tryz.results44, asAddr, ↓fLd_op, EL]; try rfl) rfl ?_
        rw [HV.out, HFv.out]
        exact ⟨rfl, BF.out⟩
      · have e4 : ((i : Int) == 4096) = false := by rw [beq_eq_false_iff_ne]; omega
        have K1 := hid (fun h => HQi.out.trans (rck_hit n R i hlt h4 h))
        have K0 := hid (fun h => HQi.out.trans (rck_drop n R i hlt h4 h))
        have HA0 := hid (fun wx (h : Below w.heap.size w wx) => (HR.out.below h).at i hlt)
        have HA1 := hid (fun wx (h : Below w.heap.size w wx) => (HR.out.below h).at 0 (by omega))
        have hn2 : (R[0]'(by omega)).length = n := by
          rw [HN.out]
          cases R with
          | nil => simp at hlt
          | cons a b => rfl
        obtain ⟨cs, hcs⟩ : ∃ cs, cs = R[i]'hlt := ⟨_, rfl⟩
        rw [← hcs] at K1 K0 HA0
        clear hcs
        obtain ⟨g, off, cap, u, e1, hcap, c0, tx⟩ := HA0.out wr HB.out
        cases e1
        obtain ⟨g', off', cap', u0, e1', _, d0, tx0⟩ := HA1.out wr HB.out
        injection e1' with e1a _ e1c
        injection e1a with e1b
        injection e1b with e1d e1e
        subst e1d e1e e1c
        rw [Nat.add_zero] at d0
        have hcl := tx.len
        obtain ⟨ua, uc, hu⟩ := tx.form
        obtain ⟨ub, ud, hu0⟩ := tx0.form
        rw [hn2] at hu0
        subst hu hu0
        have HTx := hid tx
        clear tx tx0 hn2
        by_cases hz : cs.length = 0
        · have ez : ((cs.length : Int) == 0) = true := by rw [beq_iff_eq]; omega
          have hw : wfl n cs = (6, 0) := by unfold wfl; rw [if_pos (by omega)]
          have HV := hid (K1.out (by rw [hw]; decide))
          rw [hw] at HV
          clear hz hw
          go_wp2_with fail
          refine Calls.mono (HAt.out 6 (i + 1) 0 _) ?_
          rintro e w2 ⟨rfl, hb2⟩
          obtain ⟨W, ES, hW, gW⟩ := run_fSt (HF.out.big hb2) 6 (i + 1) 0 0
          have EL := run_fLd hW
          have BF := hid ((HB.out.trans (hb2.mono HB.out.size)).grown gW (Nat.le_trans HB.out.size hb2.size) (fun b hb => by cases hb; exact Nat.le_refl _))
          obtain ⟨fv, hfv⟩ : ∃ fv, fv = fV 6 (i + 1) 0 0 := ⟨_, rfl⟩
          rw [← hfv] at ES EL ⊢
          have HFv := hid hfv
          clear hW gW hb2 hfv
          go_wp2
          refine bodyPost_ret (by simp [results, Tryz.results44, asAddr, ↓fLd_op, EL]; try rfl) rfl ?_
          rw [HV.out, HFv.out]
          exact ⟨rfl, BF.out⟩
        · have ez : ((cs.length : Int) == 0) = false := by rw [beq_eq_false_iff_ne]; omega
          by_cases h64 : 64 < cs.length
          · have hJ : (64 : Int) < (cs.length : Int) := by omega
            have dJ : decide ((64 : Int) < (cs.length : Int)) = true := decide_eq_true hJ
            have hw : wfl n cs = (6, 64) := by unfold wfl; rw [if_neg (by omega), if_pos h64]
            have HV := hid (K1.out (by rw [hw]; decide))
            rw [hw] at HV
            clear hw
            go_wp2_with fail
            refine Calls.mono (HAt.out 6 (i + 1) 64 _) ?_
            rintro e w2 ⟨rfl, hb2⟩
            obtain ⟨W, ES, hW, gW⟩ := run_fSt (HF.out.big hb2) 6 (i + 1) 64 0
            have EL := run_fLd hW
            have BF := hid ((HB.out.trans (hb2.mono HB.out.size)).grown gW (Nat.le_trans HB.out.size hb2.size) (fun b hb => by cases hb; exact Nat.le_refl _))
            obtain ⟨fv, hfv⟩ : ∃ fv, fv = fV 6 (i + 1) 64 0 := ⟨_, rfl⟩
            rw [← hfv] at ES EL ⊢
            have HFv := hid hfv
            clear hW gW hb2 hfv
            go_wp2
            refine bodyPost_ret (by simp [results, Tryz.results44, asAddr, ↓fLd_op, EL]; try rfl) rfl ?_
            rw [HV.out, HFv.out]
            exact ⟨rfl, BF.out⟩
          · have hJ : ¬ (64 : Int) < (cs.length : Int) := by omega
            have dJ : decide ((64 : Int) < (cs.length : Int)) = false := decide_eq_false hJ
            by_cases hnn : cs.length = n
            · have en : ((cs.length : Int) != (n : Int)) = false := by rw [hnn]; exact bne_self_eq_false _
              have hw : wfl n cs = cls cs 0 := by unfold wfl; rw [if_neg hz, if_neg h64, if_pos hnn]
              have K2 := hid (fun h => K1.out (by rw [hw]; exact h))
              have K3 := hid (fun h => K0.out (by rw [hw]; exact h))
              rw [hw] at K2
              have HNn := hid hnn
              clear hw hnn
              go_wp2_with fail
              go_quiet (fail)
              have BQ := below_drewN HB.out nq
              have FQ : FW (wr.drewN nq) w.heap.size 0 0 0 0 := by unfold FW; rw [drewN_heap]; exact HF.out
              generalize wr.drewN nq = w1 at *
              have HB1 := hid BQ
              have HF1 := hid FQ
              clear BQ FQ c0 d0
              go_wp2_with fail
              go_loopw [4] (fun j wr2 => ∃ (k : Nat), k ≤ cs.length ∧ j = .int .i64 (k : Int) ∧ cls cs 0 = cls (cs.drop k) k ∧ Below w.heap.size w wr2 ∧ FW wr2 w.heap.size 0 0 0 0) (fun j _ => cs.length - (intOf j).toNat)
              case atStart => exact ⟨0, Nat.zero_le _, rfl, rfl, HB1.out, HF1.out⟩
              case round =>
                obtain ⟨k, hk, rfl, hcq, hbl2, hfb2⟩ := hrel
                clear HB HF
                have HB := hid hbl2
                have HF := hid hfb2
                have HCq := hid hcq
                clear hbl2 hfb2 hcq
                obtain ⟨g', off', cap', u', e1', _, c0, tx⟩ := HA0.out _ HB.out
                injection e1' with e1a _ e1c
                injection e1a with e1b
                injection e1b with e1d e1e
                subst e1d e1e e1c
                by_cases hk2 : k < cs.length
                · have hK : (k : Int) < (cs.length : Int) := by omega
                  obtain ⟨g2, off2, cap2, e2, hcap2, c2⟩ := tx.at k hk2
                  subst e2
                  have C1 := hid (fun h => HCq.out.trans (cls_hit cs k hk2 h))
                  have C0 := hid (fun h => HCq.out.trans (cls_drop cs k hk2 h))
                  obtain ⟨T, hT⟩ : ∃ T, T = cs[k]'hk2 := ⟨_, rfl⟩
                  rw [← hT] at c2 C1 C0
                  obtain ⟨X, hX⟩ : ∃ X : ByteArray, X = ⟨T.toArray⟩ := ⟨_, rfl⟩
                  have hXl : X.data.toList = T := by rw [hX]
                  have hXs : X.size = T.length := by rw [hX]; simp [ByteArray.size]
                  rw [← hX] at c2
                  have HXs := hid (And.intro hXl hXs)
                  clear hT hX hXl hXs tx
                  by_cases hlg : 4096 < X.size
                  · have hG : (4096 : Int) < (X.size : Int) := by omega
                    have dG : decide ((4096 : Int) < (X.size : Int)) = true := decide_eq_true hG
                    have hcf := cfl_long (T := T) (by have := HXs.out.2; omega)
                    have hC := C1.out (by rw [hcf]; decide)
                    rw [hcf] at hC
                    have HV := hid (K2.out (by rw [hC]; simp))
                    rw [hC] at HV
                    clear hC hcf
                    go_wp2_with fail
                    refine Calls.mono (HAt.out 5 (i + 1) k _) ?_
                    rintro e w2 ⟨rfl, hb2⟩
                    obtain ⟨W, ES, hW, gW⟩ := run_fSt (HF.out.big hb2) 5 (i + 1) k 0
                    have EL := run_fLd hW
                    have BF := hid ((HB.out.trans (hb2.mono HB.out.size)).grown gW (Nat.le_trans HB.out.size hb2.size) (fun b hb => by cases hb; exact Nat.le_refl _))
                    obtain ⟨fv, hfv⟩ : ∃ fv, fv = fV 5 (i + 1) k 0 := ⟨_, rfl⟩
                    rw [← hfv] at ES EL ⊢
                    have HFv := hid hfv
                    clear hW gW hb2 hfv
                    go_wp2
                    refine bodyPost_ret (by simp [results, Tryz.results44, asAddr, ↓fLd_op, EL]; try rfl) rfl ?_
                    rw [HV.out, HFv.out]
                    exact ⟨rfl, BF.out⟩
                  · have hG : ¬ (4096 : Int) < (X.size : Int) := by omega
                    have dG : decide ((4096 : Int) < (X.size : Int)) = false := decide_eq_false hG
                    go_wp2_with fail
                    go_loopw [6] (fun j wr3 => ∃ (m : Nat), m ≤ X.size ∧ j = .int .i64 (m : Int) ∧ (∀ z (hz : z < X.size), z < m → mayB X[z].toNat = true) ∧ Below w.heap.size w wr3 ∧ FW wr3 w.heap.size 0 0 0 0) (fun j _ => X.size - (intOf j).toNat)
                    case atStart => exact ⟨0, Nat.zero_le _, rfl, fun z _ hz => absurd hz (Nat.not_lt_zero _), HB.out, HF.out⟩
                    case round =>
                      obtain ⟨m, hm, rfl, hall, hbl3, hfb3⟩ := hrel
                      clear HB HF c0 c2
                      have HB := hid hbl3
                      have HF := hid hfb3
                      have HAl := hid hall
                      clear hbl3 hfb3 hall
                      have hTT : ∀ z (hz : z < X.size), T[z]'(by have := HXs.out.2; omega) = X[z] := fun z hz => by
                        have := list_at2 X z hz
                        rw [← this]
                        congr 1
                        exact HXs.out.1.symm
                      have HTT := hid hTT
                      clear hTT
                      by_cases hm2 : m < X.size
                      · have hMI : (m : Int) < (X.size : Int) := by omega
                        by_cases hmay : mayB X[m].toNat = false
                        · have HMi := hid (show ∀ w, Calls Tryz.prog 61 #[.int .u8 (X[m].toNat : Int)] w fun e w' => e = .returned (.bool false) ∧ w' = w from fun w => by have := HM.out X[m] w; rw [hmay] at this; exact this)
                          have hcf := cfl_bad (T := T) (by have := HXs.out.2; omega) (j := m) (by have := HXs.out.2; omega) (by rw [HTT.out m hm2]; exact hmay)
                          have hC := C1.out (by rw [hcf]; decide)
                          rw [hcf] at hC
                          have HV := hid (K2.out (by rw [hC]; simp))
                          rw [hC] at HV
                          clear hC hcf hmay
                          go_wp2_with fail
                          refine Calls.mono (HMi.out _) ?_
                          rintro e w9 ⟨rfl, hw⟩
                          replace hw := hw.symm
                          subst hw
                          go_wp2_with fail
                          refine Calls.mono (HAt.out 4 (i + 1) k _) ?_
                          rintro e w2 ⟨rfl, hb2⟩
                          obtain ⟨W, ES, hW, gW⟩ := run_fSt (HF.out.big hb2) 4 (i + 1) k 0
                          have EL := run_fLd hW
                          have BF := hid ((HB.out.trans (hb2.mono HB.out.size)).grown gW (Nat.le_trans HB.out.size hb2.size) (fun b hb => by cases hb; exact Nat.le_refl _))
                          obtain ⟨fv, hfv⟩ : ∃ fv, fv = fV 4 (i + 1) k 0 := ⟨_, rfl⟩
                          rw [← hfv] at ES EL ⊢
                          have HFv := hid hfv
                          clear hW gW hb2 hfv
                          go_wp2
                          refine bodyPost_ret (by simp [results, Tryz.results44, asAddr, ↓fLd_op, EL]; try rfl) rfl ?_
                          rw [HV.out, HFv.out]
                          exact ⟨rfl, BF.out⟩
                        · rw [Bool.not_eq_false] at hmay
                          have HMi := hid (show ∀ w, Calls Tryz.prog 61 #[.int .u8 (X[m].toNat : Int)] w fun e w' => e = .returned (.bool true) ∧ w' = w from fun w => by have := HM.out X[m] w; rw [hmay] at this; exact this)
                          have HMy := hid hmay
                          clear hmay
                          go_wp2_with fail
                          refine Calls.mono (HMi.out _) ?_
                          rintro e w9 ⟨rfl, hw⟩
                          replace hw := hw.symm
                          subst hw
                          go_wp2
                          go_roundw
                          case rel =>
                            refine ⟨m + 1, by omega, by go_num, fun z hz hzm => ?_, HB.out, HF.out⟩
                            by_cases hzz : z = m
                            · subst hzz; exact HMy.out
                            · exact HAl.out z hz (by omega)
                          case measure => simp [intOf]; omega
                      · have hMI : ¬ (m : Int) < (X.size : Int) := by omega
                        have hcf : cfl T = 0 := cfl_fine (by have := HXs.out.2; omega) (fun z hz => by
                          have hz2 : z < X.size := by have := HXs.out.2; omega
                          rw [HTT.out z hz2]
                          exact HAl.out z hz2 (by omega))
                        have HC0 := hid (C0.out hcf)
                        clear hcf
                        go_wp2
                        go_roundw
                        case rel => exact ⟨k + 1, by omega, by go_num, HC0.out, HB.out, HF.out⟩
                        case measure => simp [intOf]; omega
                · have hK : ¬ (k : Int) < (cs.length : Int) := by omega
                  obtain ⟨ua', uc', hu'⟩ := tx.form
                  subst hu'
                  have HV := hid (K3.out (by rw [HCq.out, List.drop_eq_nil_of_le (by omega)]; rfl))
                  clear tx
                  go_wp2
                  go_roundw
                  case rel => exact ⟨i + 1, by omega, by omega, by go_num, HV.out, HB.out, HF.out⟩
                  case measure => simp [intOf]; omega
            · have en : ((cs.length : Int) != (n : Int)) = true := by rw [bne_iff_ne]; omega
              have pn : ¬ (cs.length : Int) = (n : Int) := by omega
              have hw : wfl n cs = (8, 0) := by unfold wfl; rw [if_neg hz, if_neg h64, if_neg hnn]
              have HV := hid (K1.out (by rw [hw]; decide))
              rw [hw] at HV
              clear hw hnn
              go_wp2_with fail
              go_quiet (fail)
              have BQ := below_drewN HB.out nq
              have FQ : FW (wr.drewN nq) w.heap.size 0 0 0 0 := by unfold FW; rw [drewN_heap]; exact HF.out
              generalize wr.drewN nq = w1 at *
              clear HB HF
              have HB := hid BQ
              have HF := hid FQ
              clear BQ FQ c0 d0
              go_wp2_with fail
              refine Calls.mono (HAt.out 8 (i + 1) 0 _) ?_
              rintro e w2 ⟨rfl, hb2⟩
              obtain ⟨W, ES, hW, gW⟩ := run_fSt (HF.out.big hb2) 8 (i + 1) 0 0
              have EL := run_fLd hW
              have BF := hid ((HB.out.trans (hb2.mono HB.out.size)).grown gW (Nat.le_trans HB.out.size hb2.size) (fun b hb => by cases hb; exact Nat.le_refl _))
              obtain ⟨fv, hfv⟩ : ∃ fv, fv = fV 8 (i + 1) 0 0 := ⟨_, rfl⟩
              rw [← hfv] at ES EL ⊢
              have HFv := hid hfv
              clear hW gW hb2 hfv
              go_wp2
              refine bodyPost_ret (by simp [results, Tryz.results44, asAddr, ↓fLd_op, EL]; try rfl) rfl ?_
              rw [HV.out, HFv.out]
              exact ⟨rfl, BF.out⟩
    · have hI : ¬ (i : Int) < (R.length : Int) := by omega
      have HV := hid (show Q = (0, 0, 0) by rw [HQi.out, List.drop_eq_nil_of_le (by omega)]; rfl)
      obtain ⟨W, ES, hW, gW⟩ := run_fSt0 HF.out
      have EL := run_fLd hW
      have BF := hid (HB.out.grown gW HB.out.size (fun b hb => by cases hb; exact Nat.le_refl _))
      clear hW gW
      go_wp2
      refine bodyPost_ret (by simp [results, Tryz.results44, asAddr, ↓fLd_op, EL]; try rfl) rfl ?_
      rw [HV.out]
      exact ⟨rfl, BF.out⟩
end Go.Proofs.YtedgdgaobgkffaaGreatDoor
