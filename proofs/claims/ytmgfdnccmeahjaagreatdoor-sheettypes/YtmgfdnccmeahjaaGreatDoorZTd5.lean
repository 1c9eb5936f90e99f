/-
  Td5: Sheets, the document: columns. Laid by mktd5.py.
-/
import Derived.Test.YtmgfdnccmeahjaaGreatDoorZTc2
import Derived.Test.YtmgfdnccmeahjaaGreatDoorZL
namespace Go.Proofs.YtmgfdnccmeahjaaGreatDoor
open Go.RowKit
set_option maxRecDepth 100000
set_option linter.unusedVariables false
set_option linter.unusedSimpArgs false

attribute [local go_sem ↓] fLd_op fSt_op
def dcV (r : Option Nat) : Value := match r with
  | none => fV 0 0 0 0
  | some i => fV 10 0 i 0
theorem nil_take {L : List Col} {k : Nat} (h : k < L.length) {x : ByteArray} : x ∈ (L.take k).map Col.nm ↔ ∃ j, ∃ hj : j < k, (L[j]'(by omega)).nm = x := by
  constructor
  · intro hm
    obtain ⟨c, hc, rfl⟩ := List.mem_map.1 hm
    obtain ⟨j, hj, rfl⟩ := List.getElem_of_mem hc
    rw [List.length_take] at hj
    exact ⟨j, by omega, by rw [List.getElem_take]⟩
  · rintro ⟨j, hj, rfl⟩
    refine List.mem_map.2 ⟨L[j]'(by omega), ?_, rfl⟩
    have : (L.take k)[j]'(by rw [List.length_take]; omega) = L[j]'(by omega) := List.getElem_take
    rw [← this]
    exact List.getElem_mem _
set_option maxHeartbeats 4000000 in
theorem dcolumns_any (v : Value) (L : List Col) (r : Option Nat) (w : World) (hr : RC w v L) (hc : colP L r) :
    Calls Tryz.prog 54 #[v] w fun e w' => e = .returned (dcV r) ∧ Below w.heap.size w w' := by
  have HAt := hid (fun c l k w => at_any c l k w)
  have HR := hid hr
  have HC := hid hc
  obtain ⟨ao, cap, rfl, hcap⟩ := hr.form
  clear hr hc
  have HF0 := hid (FW.new w)
  have HB0 := hid ((Below.refl w.heap.size w).alloc (Nat.le_refl _) (.cells (fA 0 0 0 0) 62))
  obtain ⟨V, hV⟩ : ∃ V, dcV r = V := ⟨_, rfl⟩
  rw [hV]
  have HV := hid hV
  clear hV
  by_cases h0 : L = []
  · subst h0
    have HBad := hid (show V = fV 10 0 0 0 by rw [← HV.out, HC.out.nil]; rfl)
    go_enter Tryz.func54, Tryz.ntmps54
    go_wp2_with fail
    refine Calls.mono (HAt.out 10 0 0 _) ?_
    rintro e w2 ⟨rfl, hb2⟩
    obtain ⟨W, ES, hW, gW⟩ := run_fSt (HF0.out.big hb2) 10 0 0 0
    have EL := run_fLd hW
    have BF := hid ((HB0.out.trans (hb2.mono HB0.out.size)).grown gW (Nat.le_trans HB0.out.size hb2.size) (fun b hb => by cases hb; exact Nat.le_refl _))
    obtain ⟨fv, hfv⟩ : ∃ fv, fv = fV 10 0 0 0 := ⟨_, rfl⟩
    rw [← hfv] at ES EL ⊢
    have HFv := hid hfv
    clear hW gW hb2 hfv
    go_wp2
    refine bodyPost_ret (by simp [results, Tryz.results54, asAddr, ↓fLd_op, EL]; try rfl) rfl ?_
    rw [HBad.out, HFv.out]
    exact ⟨rfl, BF.out⟩
  · have hlen : L.length ≠ 0 := fun e => h0 (List.eq_nil_of_length_eq_zero e)
    have hlenI : ((L.length : Int) == 0) = false := beq_eq_false_iff_ne.2 (by omega)
    have H0 := hid h0
    clear h0
    go_enter Tryz.func54, Tryz.ntmps54
    go_wp2_with fail
    go_loopw [3] (fun i wr => ∃ k : Nat, k ≤ L.length ∧ i = .int .i64 k ∧ Hid (∀ j, j < k → goodC L j) ∧ Hid (Below w.heap.size w wr) ∧ Hid (FW wr w.heap.size 0 0 0 0)) (fun i _ => L.length - (intOf i).toNat)
    case atStart => exact ⟨0, by omega, rfl, hid fun j h => absurd h (Nat.not_lt_zero _), HB0, HF0⟩
    case round =>
      obtain ⟨k, hk, rfl, HO, HB, HF⟩ := hrel
      have hlen9 : L.length ≤ 9223372036854775807 := by
        rcases HR.out with ⟨h, _⟩ | ⟨_, _, _, _, h, _⟩
        · rw [h]; simp
        · omega
      by_cases h : k < L.length
      · have hI : (k : Int) < (L.length : Int) := by omega
        have HA0 := hid (fun wx (hb : Below w.heap.size w wx) => (HR.out.below hb).at k h)
        obtain ⟨b, off, cap', hv, c0, c1, c2⟩ := HA0.out _ HB.out
        cases hv
        have HOk := hid (show goodC L k ↔ (k ≠ 64 ∧ mbB L[k] = true ∧ L[k].nm ∉ (L.take k).map Col.nm) from ⟨fun ⟨_, h⟩ => h, fun hh => ⟨h, hh⟩⟩)
        have HNt := hid (nil_take h (x := L[k].nm))
        have HMb := hid (show mbB L[k] = (plB L[k].nm && decide (1 ≤ L[k].kd) && decide (L[k].kd ≤ 6)) from rfl)
        have HC0 := hid (fun wx (hb : Below w.heap.size w wx) => (show wx.cell? ⟨b, off + k * 3, none⟩ = some (.string L[k].nm) ∧ wx.cell? ⟨b, off + k * 3 + 1, none⟩ = some (.int .i64 L[k].kd) by
          obtain ⟨b', off', cap', hv, d0, d1, d2⟩ := HA0.out _ hb
          cases hv
          exact ⟨d0, d1⟩))
        clear c2
        generalize L[k] = C at *
        obtain ⟨nm, kd, mu⟩ := C
        have HBadf := hid (fun (hb : ¬ goodC L k) => (show V = fV 10 0 k 0 by rw [← HV.out, HC.out.bad h hb HO.out]; rfl))
        by_cases h64 : k = 64
        · have HBad := hid (HBadf.out (fun e => (HOk.out.1 e).1 h64))
          have h64I : ((k : Int) == 64) = true := by rw [h64]; rfl
          clear h64
          go_wp2_with fail
          refine Calls.mono (HAt.out 10 0 k _) ?_
          rintro e w2 ⟨rfl, hb2⟩
          obtain ⟨W, ES, hW, gW⟩ := run_fSt (HF.out.big hb2) 10 0 k 0
          have EL := run_fLd hW
          have BF := hid ((HB.out.trans (hb2.mono HB.out.size)).grown gW (Nat.le_trans HB.out.size hb2.size) (fun b hb => by cases hb; exact Nat.le_refl _))
          obtain ⟨fv, hfv⟩ : ∃ fv, fv = fV 10 0 k 0 := ⟨_, rfl⟩
          rw [← hfv] at ES EL ⊢
          have HFv := hid hfv
          clear hW gW hb2 hfv
          go_wp2
          refine bodyPost_ret (by simp [results, Tryz.results54, asAddr, ↓fLd_op, EL]; try rfl) rfl ?_
          rw [HBad.out, HFv.out]
          exact ⟨rfl, BF.out⟩
        · have h64I : ((k : Int) == 64) = false := beq_eq_false_iff_ne.2 (by omega)
          have HNe := hid h64
          have HP := hid (fun w => dplain_any nm w)
          obtain ⟨pb, hpb⟩ : ∃ pb, plB nm = pb := ⟨_, rfl⟩
          rw [hpb] at HP
          simp only [hpb] at HMb
          clear hpb h64
          cases pb with
          | false =>
            have HBad := hid (HBadf.out (fun e => Bool.noConfusion ((HOk.out.1 e).2.1.symm.trans HMb.out)))
            go_wp2_with fail
            refine Calls.mono (HP.out _) ?_
            rintro e w5 ⟨rfl, b5⟩
            have HB5 := hid (HB.out.trans (b5.mono HB.out.size))
            have HF5 := hid (HF.out.big b5)
            clear b5 c0 c1
            go_wp2_with fail
            refine Calls.mono (HAt.out 10 0 k _) ?_
            rintro e w2 ⟨rfl, hb2⟩
            obtain ⟨W, ES, hW, gW⟩ := run_fSt (HF5.out.big hb2) 10 0 k 0
            have EL := run_fLd hW
            have BF := hid ((HB5.out.trans (hb2.mono HB5.out.size)).grown gW (Nat.le_trans HB5.out.size hb2.size) (fun b hb => by cases hb; exact Nat.le_refl _))
            obtain ⟨fv, hfv⟩ : ∃ fv, fv = fV 10 0 k 0 := ⟨_, rfl⟩
            rw [← hfv] at ES EL ⊢
            have HFv := hid hfv
            clear hW gW hb2 hfv
            go_wp2
            refine bodyPost_ret (by simp [results, Tryz.results54, asAddr, ↓fLd_op, EL]; try rfl) rfl ?_
            rw [HBad.out, HFv.out]
            exact ⟨rfl, BF.out⟩
          | true =>
            by_cases k1 : kd < 1
            · have HBad := hid (HBadf.out (fun e => by
                have := (HOk.out.1 e).2.1.symm.trans HMb.out
                rw [decide_eq_false (show ¬ 1 ≤ kd by omega)] at this
                exact Bool.noConfusion this))
              go_wp2_with fail
              refine Calls.mono (HP.out _) ?_
              rintro e w5 ⟨rfl, b5⟩
              have HB5 := hid (HB.out.trans (b5.mono HB.out.size))
              have HF5 := hid (HF.out.big b5)
              obtain ⟨d0, d1⟩ := HC0.out _ HB5.out
              clear b5 c0 c1
              go_wp2_with fail
              refine Calls.mono (HAt.out 10 0 k _) ?_
              rintro e w2 ⟨rfl, hb2⟩
              obtain ⟨W, ES, hW, gW⟩ := run_fSt (HF5.out.big hb2) 10 0 k 0
              have EL := run_fLd hW
              have BF := hid ((HB5.out.trans (hb2.mono HB5.out.size)).grown gW (Nat.le_trans HB5.out.size hb2.size) (fun b hb => by cases hb; exact Nat.le_refl _))
              obtain ⟨fv, hfv⟩ : ∃ fv, fv = fV 10 0 k 0 := ⟨_, rfl⟩
              rw [← hfv] at ES EL ⊢
              have HFv := hid hfv
              clear hW gW hb2 hfv
              go_wp2
              refine bodyPost_ret (by simp [results, Tryz.results54, asAddr, ↓fLd_op, EL]; try rfl) rfl ?_
              rw [HBad.out, HFv.out]
              exact ⟨rfl, BF.out⟩
            · by_cases k2 : 6 < kd
              · have HBad := hid (HBadf.out (fun e => by
                  have := (HOk.out.1 e).2.1.symm.trans HMb.out
                  rw [decide_eq_false (show ¬ kd ≤ 6 by omega), Bool.and_false] at this
                  exact Bool.noConfusion this))
                go_wp2_with fail
                refine Calls.mono (HP.out _) ?_
                rintro e w5 ⟨rfl, b5⟩
                have HB5 := hid (HB.out.trans (b5.mono HB.out.size))
                have HF5 := hid (HF.out.big b5)
                obtain ⟨d0, d1⟩ := HC0.out _ HB5.out
                clear b5 c0 c1
                go_wp2_with fail
                refine Calls.mono (HAt.out 10 0 k _) ?_
                rintro e w2 ⟨rfl, hb2⟩
                obtain ⟨W, ES, hW, gW⟩ := run_fSt (HF5.out.big hb2) 10 0 k 0
                have EL := run_fLd hW
                have BF := hid ((HB5.out.trans (hb2.mono HB5.out.size)).grown gW (Nat.le_trans HB5.out.size hb2.size) (fun b hb => by cases hb; exact Nat.le_refl _))
                obtain ⟨fv, hfv⟩ : ∃ fv, fv = fV 10 0 k 0 := ⟨_, rfl⟩
                rw [← hfv] at ES EL ⊢
                have HFv := hid hfv
                clear hW gW hb2 hfv
                go_wp2
                refine bodyPost_ret (by simp [results, Tryz.results54, asAddr, ↓fLd_op, EL]; try rfl) rfl ?_
                rw [HBad.out, HFv.out]
                exact ⟨rfl, BF.out⟩
              · have HMt := hid (show mbB ⟨nm, kd, mu⟩ = true by rw [HMb.out, decide_eq_true (show 1 ≤ kd by omega), decide_eq_true (show kd ≤ 6 by omega)]; rfl)
                go_wp2_with fail
                refine Calls.mono (HP.out _) ?_
                rintro e w5 ⟨rfl, b5⟩
                have HB5 := hid (HB.out.trans (b5.mono HB.out.size))
                have HF5 := hid (HF.out.big b5)
                obtain ⟨d0, d1⟩ := HC0.out _ HB5.out
                clear b5 c0 c1
                go_wp2_with fail
                clear d0 d1
                go_loopw [4] (fun i wr2 => ∃ j : Nat, j ≤ k ∧ i = .int .i64 j ∧ Hid (∀ m, ∀ hm : m < j, ∀ hk : m < L.length, L[m].nm ≠ nm) ∧ Hid (Below w.heap.size w wr2) ∧ Hid (FW wr2 w.heap.size 0 0 0 0)) (fun i _ => k - (intOf i).toNat)
                case atStart => exact ⟨0, by omega, rfl, hid fun m hm => absurd hm (Nat.not_lt_zero _), HB5, HF5⟩
                case round =>
                  obtain ⟨j, hj, rfl, HJ, HB6, HF6⟩ := hrel
                  by_cases hjk : j < k
                  · have hjI : (j : Int) < (k : Int) := by omega
                    have hjl : j < L.length := by omega
                    have hjlI : (j : Int) < (L.length : Int) := by omega
                    obtain ⟨d0, d1⟩ := HC0.out _ HB6.out
                    obtain ⟨b', off', cap', hv, z0, _, _⟩ := (HR.out.below HB6.out).at j hjl
                    cases hv
                    have es := str_eq L[j].nm nm
                    have HLj := hid (fun (P : Prop) (hp : P) => hp)
                    by_cases e : L[j].nm = nm
                    · have HBad := hid (HBadf.out (fun e2 => (HOk.out.1 e2).2.2 (HNt.out.2 ⟨j, hjk, e⟩)))
                      rw [decide_eq_true e] at es
                      clear e
                      generalize L[j].nm = y at *
                      go_wp2_with fail
                      go_quiet (fail)
                      have BQ := hid (below_drewN HB6.out nq)
                      have FQ := hid (show FW (wr.drewN nq) w.heap.size 0 0 0 0 by unfold FW; rw [drewN_heap]; exact HF6.out)
                      generalize wr.drewN nq = w7 at *
                      clear d0 d1 z0
                      go_wp2_with fail
                      refine Calls.mono (HAt.out 10 0 k _) ?_
                      rintro e w2 ⟨rfl, hb2⟩
                      obtain ⟨W, ES, hW, gW⟩ := run_fSt (FQ.out.big hb2) 10 0 k 0
                      have EL := run_fLd hW
                      have BF := hid ((BQ.out.trans (hb2.mono BQ.out.size)).grown gW (Nat.le_trans BQ.out.size hb2.size) (fun b hb => by cases hb; exact Nat.le_refl _))
                      obtain ⟨fv, hfv⟩ : ∃ fv, fv = fV 10 0 k 0 := ⟨_, rfl⟩
                      rw [← hfv] at ES EL ⊢
                      have HFv := hid hfv
                      clear hW gW hb2 hfv
                      go_wp2
                      refine bodyPost_ret (by simp [results, Tryz.results54, asAddr, ↓fLd_op, EL]; try rfl) rfl ?_
                      rw [HBad.out, HFv.out]
                      exact ⟨rfl, BF.out⟩
                    · have HJ2 := hid (show ∀ m, ∀ hm : m < j + 1, ∀ hk : m < L.length, L[m].nm ≠ nm from fun m hm hml => by
                        by_cases em : m = j
                        · subst em; exact e
                        · exact HJ.out m (by omega) hml)
                      rw [decide_eq_false e] at es
                      clear e
                      generalize L[j].nm = y at es z0
                      go_wp2_with fail
                      go_quiet (fail)
                      have BQ := hid (below_drewN HB6.out nq)
                      have FQ := hid (show FW (wr.drewN nq) w.heap.size 0 0 0 0 by unfold FW; rw [drewN_heap]; exact HF6.out)
                      generalize wr.drewN nq = w7 at *
                      clear d0 d1 z0
                      go_wp2
                      go_roundw
                      case rel => exact ⟨j + 1, by omega, by go_num, HJ2, BQ, FQ⟩
                      case measure => simp [intOf]; omega
                  · have hjI : ¬ (j : Int) < (k : Int) := by omega
                    have hjk2 : j = k := by omega
                    have HO2 := hid (show ∀ i, i < k + 1 → goodC L i from fun i hi => by
                      by_cases e : i = k
                      · rw [e]
                        refine HOk.out.2 ⟨HNe.out, HMt.out, fun hm => ?_⟩
                        obtain ⟨m, hm1, hm2⟩ := HNt.out.1 hm
                        exact HJ.out m (by omega) (by omega) hm2
                      · exact HO.out i (by omega))
                    clear hjk2
                    go_wp2
                    go_roundw
                    case rel => exact ⟨k + 1, by omega, by go_num, HO2, HB6, HF6⟩
                    case measure => simp [intOf]; omega
      · obtain rfl : k = L.length := by omega
        have HG := hid (show V = fV 0 0 0 0 by rw [← HV.out, HC.out.good H0.out HO.out]; rfl)
        have hI : ¬ (L.length : Int) < (L.length : Int) := by omega
        obtain ⟨W, ES, hW, gW⟩ := run_fSt0 HF.out
        have EL := run_fLd hW
        have BF := hid (HB.out.grown gW HB.out.size (fun b hb => by cases hb; exact Nat.le_refl _))
        clear hW gW
        go_wp2
        refine bodyPost_ret (by simp [results, Tryz.results54, asAddr, ↓fLd_op, EL]; try rfl) rfl ?_
        rw [HG.out]
        exact ⟨rfl, BF.out⟩
end Go.Proofs.YtmgfdnccmeahjaaGreatDoor
