/-
  Td7: Sheets, the document's side: Typed.
-/
import Derived.Test.YtmgfdnccmeahjaaGreatDoorZTc5
import Derived.Test.YtmgfdnccmeahjaaGreatDoorZTd5
import Derived.Test.YtmgfdnccmeahjaaGreatDoorZDfz
namespace Go.Proofs.YtmgfdnccmeahjaaGreatDoor
open Go.RowKit
set_option maxRecDepth 100000
set_option linter.unusedVariables false
set_option linter.unusedSimpArgs false
variable {rf : ByteArray → Nat → Rd}

theorem clsinfo2 : (Tryz.prog.info? 53).map (fun i => (i.zero, i.size, i.bytes)) = some (some (.slice none 0 0), 1, 24) := by kernel_rfl
/-- what the document's Typed answers -/
def dTyP (rf : ByteArray → Nat → Rd) (R : List (List (List UInt8))) (L : List Col) (r : Option Nat) (B : Nat) (w' : World) (e : Ending) : Prop :=
  ∃ o, TyO rf R L r o ∧ ((o.1.1 = 0 ∧ ∃ v V, e = .returned (.tuple #[v, fV 0 0 0 0]) ∧ LK w' B v V o.2) ∨ (o.1.1 ≠ 0 ∧ ∃ n : Nat, (o.1.2.2.2 = (n : Int) ∧ n ≤ 100 ∧ (o.1.1 ≠ 16 → o.1.1 ≠ 17 → n = 0)) ∧ e = .returned (.tuple #[.slice none 0 0, fVw o.1.1 o.1.2.1 o.1.2.2.1 0 n])))
theorem tyF_val {R : List (List (List UInt8))} {ps : List Nat} {L : List Col} {i j p : Nat} {x : Nat × Rd} (h : rwR rf (rowT R i) ps L j = x) (hp : ps.getD j 0 = p) : tyF rf R ps L i j = ((x.2.1, i + 2, p, x.2.2.2.2), []) := by
  unfold tyF
  rw [h, hp]
theorem dcV_is (r : Option Nat) : ∃ c k : Nat, dcV r = fV c 0 k 0 ∧ ((r = none ∧ c = 0) ∨ ∃ i, r = some i ∧ c = 10 ∧ k = i) := by
  cases r with
  | none => exact ⟨0, 0, rfl, .inl ⟨rfl, rfl⟩⟩
  | some i => exact ⟨10, i, rfl, .inr ⟨i, rfl, rfl, rfl⟩⟩
/-- a block that is none of theirs turns -/
theorem LK.kept {w w' : World} {B b : Nat} {v : Value} {V : List Value} {X : List (List (Nat × Rd))} (h : LK w B v V X) (hg : w.grownBy w' (some b)) (hb : ¬ B ≤ b) : LK w' B v V X := by
  have hk : ∀ {e size n : Nat} {u : Value} {xs : List Value}, w.ownsRow B e size u n xs → w'.ownsRow B e size u n xs := fun {e size n u xs} hu => World.ownsRow.kept hu hg (.inr (fun q => hb (World.ownsRow.lt hu b q).1))
  exact ⟨hk h.own, h.len, fun j hj hv => hk (h.row j hj hv), h.dj⟩
attribute [local go_sem ↓] fLd_op fSt_op kLd_op kSt_op
set_option maxHeartbeats 60000000 in
theorem dTyped_any (hrf : RfOk rf) (rv cv : Value) (R : List (List (List UInt8))) (L : List Col) (r : Option Nat) (w : World) (hR : Rw w rv R) (hL : RC w cv L) (hc : colP L r) :
    Calls Tryz.prog 30 #[rv, cv] w fun e w' => dTyP rf R L r (w.heap.size + 1) w' e ∧ Below w.heap.size w w' := by
  have HAt := hid (fun c l k w => at_any c l k w)
  have HR := hid hR
  have HL := hid hL
  have HC := hid hc
  obtain ⟨W0, hW0⟩ : ∃ W0, w.alloc (.cells #[.int .i64 0, .int .i64 0, .int .i64 0, .int .i64 0, .int .i64 0] 62) = W0 := ⟨_, rfl⟩
  have hS0 : w.heap.size + 1 ≤ W0.heap.size := by rw [← hW0]; simp [go_sem]
  have hF0 : FW W0 w.heap.size 0 0 0 0 := by rw [← hW0]; exact FW.new w
  have hB0 : Below w.heap.size w W0 := by rw [← hW0]; exact (Below.refl w.heap.size w).alloc (Nat.le_refl _) _
  have HF0 := hid hF0
  have HB0 := hid hB0
  have HS0 := hid hS0
  have HW0 := hid hW0
  have HCo := hid (dcolumns_any cv L r W0 (hL.below hB0) hc)
  have HWr := hid (fun W (hb : Below w.heap.size w W) => Wrong_any rv R W (hR.below hb))
  have HHe := hid (fun W (hb : Below w.heap.size w W) (hl : L.length ≤ 64) => dheads_any rv cv R L W (hR.below hb) (hL.below hb) hl)
  obtain ⟨ra, rc, rfl⟩ := hR.form
  have hRl := hR.len
  obtain ⟨ca, cc, rfl, hcc⟩ := hL.form
  clear hR hL hc hcc hW0 hS0 hF0 hB0
  go_enter Tryz.func30, Tryz.ntmps30
  go_wp2_with fail
  rw [HW0.out]
  refine Calls.mono HCo.out ?_
  rintro e w1 ⟨rfl, hb1⟩
  obtain ⟨c0, k0, hdc, hcs⟩ := dcV_is r
  rw [hdc]
  have HB1 := hid (HB0.out.trans (hb1.mono HB0.out.size))
  have HB1s := hid (show W0.heap.size ≤ w1.heap.size from hb1.size)
  obtain ⟨W1, ES1, hW1, hbW, hzW⟩ := run_fStN w1 c0 0 k0 0
  have HBW1 := hid (HB1.out.trans (hbW.mono HB1.out.size))
  have HF1 := hid ((HF0.out.big hb1).big hbW)
  have HW1' := hid hW1
  have hc0 := hW1.cell
  obtain ⟨fv, hfv⟩ : ∃ fv, fv = fV c0 0 k0 0 := ⟨_, rfl⟩
  have HFv := hid hfv
  rw [← hfv] at ES1 ⊢
  clear hb1 hbW hW1 hfv hdc
  rcases hcs with ⟨hr, rfl⟩ | ⟨i, hr, rfl, rfl⟩
  case inr =>
    have HRr := hid hr
    obtain ⟨W, ES, hW, gW⟩ := run_fSt HF1.out.drew 10 0 k0 0
    have EL1 := run_fLd HW1'.out.drew
    have EL := run_fLd hW
    have BF := hid (HBW1.out.drew.grown gW HBW1.out.size (fun b hb => by cases hb; exact Nat.le_refl _))
    rw [← HFv.out] at ES EL1 EL
    clear hW gW hr
    go_wp2_with fail
    go_region
    all_goals
      go_wp2
      refine bodyPost_ret (by simp [results, Tryz.results30, asAddr, ↓fLd_op, EL]; try rfl) rfl ?_
      rw [HFv.out]
      exact ⟨⟨_, .inl ⟨k0, HRr.out, rfl⟩, .inr ⟨by show (10 : Nat) ≠ 0; decide, 0, ⟨rfl, by omega, fun _ _ => rfl⟩, rfl⟩⟩, BF.out⟩
  case inl =>
    have HRr := hid hr
    have HFn := hid (HC.out.fine hr)
    have hc0' : W1.cell? ⟨w1.heap.size, 0, none⟩ = some (.int .i64 0) := hc0
    clear hr hc0
    go_wp2_with fail
    refine Calls.mono (HWr.out W1 HBW1.out) ?_
    rintro e w2 ⟨rfl, hb2⟩
    unfold wgV
    obtain ⟨Q, hQ⟩ : ∃ Q, wgA R = Q := ⟨_, rfl⟩
    have HQ := hid hQ
    rw [hQ]
    obtain ⟨c, l, k⟩ := Q
    simp only []
    obtain ⟨W2, ES2, hW2, gW2⟩ := run_fSt (HW1'.out.big hb2) c l k 0
    have hlt1 := (HW1'.out).lt
    have hB2 := HBW1.out.trans (hb2.mono HBW1.out.size)
    have HB2 := hid (hB2.grown gW2 hB2.size (fun b hb => by cases hb; exact HB1.out.size))
    have HF2 := hid ((HF1.out.big hb2).grown gW2 (fun e => by have h1 := HS0.out; have h2 := HB1s.out; injection e with e; omega))
    have HW2' := hid hW2
    have hc2 := hW2.cell
    obtain ⟨gv, hgv⟩ : ∃ gv, gv = fV c l k 0 := ⟨_, rfl⟩
    have HGv := hid hgv
    rw [← hgv] at ES2 ⊢
    clear hb2 hQ hW2 gW2 hgv ES1 hB2
    by_cases h0 : c = 0
    · subst h0
      have hc2' : W2.cell? ⟨w1.heap.size, 0, none⟩ = some (.int .i64 0) := hc2
      have HZ := hid (show (wgA R).1 = 0 by rw [HQ.out])
      have HOk := hid (wg_ok HZ.out)
      clear hc2
      go_wp2_with fail
      refine Calls.mono (HHe.out W2 HB2.out HFn.out.2.1) ?_
      rintro e w3 ⟨⟨ps, c2, q, hh, hcs2⟩, hb3⟩
      have HH := hid hh
      have hB3 := HB2.out.trans (hb3.mono HB2.out.size)
      rcases hcs2 with ⟨rfl, pv, rfl, hop⟩ | ⟨hc20, rfl⟩
      case inr =>
        obtain ⟨W3, ES3, hW3, gW3⟩ := run_fSt (HW2'.out.big hb3) c2 1 q 0
        have HB4 := hid (hB3.grown gW3 hB3.size (fun b hb => by cases hb; exact HB1.out.size))
        have HF4 := hid ((HF2.out.big hb3).grown gW3 (fun e => by have h1 := HS0.out; have h2 := HB1s.out; injection e with e; omega))
        have hc4 := hW3.cell
        obtain ⟨hv, hhv⟩ : ∃ hv, hv = fV c2 1 q 0 := ⟨_, rfl⟩
        have HHv := hid hhv
        rw [← hhv] at ES3 ⊢
        have hcn : ((c2 : Int) != 0) = true := by simp; omega
        have hcp : ¬ (c2 : Int) = 0 := by omega
        obtain ⟨W, ES, hW, gW⟩ := run_fSt HF4.out.drew c2 1 q 0
        have EL1 := run_fLd hW3.drew
        have EL := run_fLd hW
        have BF := hid (HB4.out.drew.grown gW HB4.out.size (fun b hb => by cases hb; exact Nat.le_refl _))
        rw [← HHv.out] at ES EL1 EL
        have HC0 := hid hc20
        clear hW gW hc20 hW3 gW3 hhv hb3 hB3 hh ES2
        go_wp2_with fail
        go_region
        all_goals
          go_wp2
          refine bodyPost_ret (by simp [results, Tryz.results30, asAddr, ↓fLd_op, EL]; try rfl) rfl ?_
          rw [HHv.out]
          exact ⟨⟨((c2, 1, q, 0), []), .inr (.inr ⟨HRr.out, HZ.out, ps, c2, q, HH.out, .inl ⟨HC0.out, rfl⟩⟩), .inr ⟨HC0.out, 0, ⟨rfl, by omega, fun _ _ => rfl⟩, rfl⟩⟩, BF.out⟩
      case inl =>
        obtain ⟨w4, ES3, hW3, gW3⟩ := run_fSt (HW2'.out.big hb3) 0 0 0 0
        have HB4 := hid (hB3.grown gW3 hB3.size (fun b hb => by cases hb; exact HB1.out.size))
        have HF4 := hid ((HF2.out.big hb3).grown gW3 (fun e => by have h1 := HS0.out; have h2 := HB1s.out; injection e with e; omega))
        have hop4 : OP w4 (W2.heap.size + 1) pv ps := World.ownsRow.kept hop gW3 (.inr (own_ne hop (HW2'.out.big hb3) (by decide)))
        have hR1 := hh.some_row HFn.out.1
        have HWi := hid hh.within
        have HIP := hid hop4.reads
        obtain ⟨pa, pcp, rfl⟩ := HIP.out.form
        have hc4 := hW3.cell
        obtain ⟨hv, hhv⟩ : ∃ hv, hv = fV 0 0 0 0 := ⟨_, rfl⟩
        rw [← hhv] at ES3 ⊢
        have HHv := hid hhv
        have hR4 : R.length ≤ 4096 := HOk.out.1.1
        have HpsL := hid HWi.out.1
        have HL4 := hid HFn.out.2.1
        have HB4s := hid (show w.heap.size + 1 ≤ w4.heap.size from HF4.out.lt)
        clear hb3 hB3 hh hop hW3 gW3 hop4 hhv
        go_wp2_with fail
        clear ES3 ES2
        go_loopw [8, 9] (fun v i wr => ∃ k : Nat, k ≤ R.length - 1 ∧ i = .int .i64 ((k : Int) + 1) ∧ Hid (TyI rf R ps L w4 k wr v)) (fun _ i _ => R.length - (intOf i).toNat)
        case atStart => exact ⟨0, by omega, rfl, hid ⟨fun m h => absurd h (Nat.not_lt_zero _), ⟨[], LK.nil _ _⟩, Below.refl _ _⟩⟩
        case round =>
          obtain ⟨k, hk, rfl, HI⟩ := hrel
          by_cases h : k < R.length - 1
          · have hI : (k : Int) + 1 < (R.length : Int) := by omega
            obtain ⟨wo, hwo⟩ : ∃ wo, wo = wr := ⟨_, rfl⟩
            subst hwo
            obtain ⟨V, hV⟩ := HI.out.2.1
            have HV := hid hV
            obtain ⟨va, vc, hvv⟩ := own_slice hV.own
            subst hvv
            have hk1 : k + 1 < R.length := by omega
            have hrl := row_len HOk.out.1 hk1
            have HRk := hid (fun (wx : World) (hb : Below w4.heap.size w4 wx) => ((HR.out.below HB4.out).below hb).at (k + 1) hk1)
            obtain ⟨g2, off2, cap2, u, hv2, _, c00, t00⟩ := HRk.out wo HI.out.2.2
            cases hv2
            have hTl : (rowT R k).length = (R.headD []).length := by rw [rowT_is hk1, btx_len]; exact hrl.1
            have HTs := hid (show ∀ i (hi : i < (rowT R k).length), (rowT R k)[i].size ≤ 100000000 by rw [rowT_is hk1]; exact btx_small hrl.2)
            have hT0 : Bx wo u (rowT R k) := by rw [rowT_is hk1]; exact t00.bx
            have HT := hid hT0
            have HC00 := hid c00
            have HNx := hid (show (List.range (k + 1)).map (fun i => rowX rf (rowT R i) ps L) = (List.range k).map (fun i => rowX rf (rowT R i) ps L) ++ [rowX rf (rowT R k) ps L] by rw [List.range_succ, List.map_append]; rfl)
            have HHit := hid (fun (m : Nat) (h1 : m < L.length) (h2 : ∀ j, j < m → (rwR rf (rowT R k) ps L j).2.1 = 0) (h3 : (rwR rf (rowT R k) ps L m).2.1 ≠ 0) => tyB_hit h HI.out.1 (fcol_hit h1 h2 h3))
            have HNo := hid (fun (h2 : ∀ j, j < L.length → (rwR rf (rowT R k) ps L j).2.1 = 0) => (show ∀ m, m < k + 1 → fcol rf (rowT R m) ps L = none from fun m hm => by
              by_cases e : m = k
              · rw [e]; exact fcol_non h2
              · exact HI.out.1 m (by omega)))
            obtain ⟨X, hX⟩ : ∃ X, (List.range k).map (fun i => rowX rf (rowT R i) ps L) = X := ⟨_, rfl⟩
            have hXl : X.length = k := by rw [← hX]; simp
            rw [hX] at HV HNx
            have HXl := hid hXl
            have HinT := hid (show ∀ i (h : i < ps.length), ps[i] < (rowT R k).length from fun i hi => by rw [hTl]; exact HWi.out.2 i hi)
            have hrT : ∃ T, rowT R k = T := ⟨_, rfl⟩
            obtain ⟨ua, uc, hue⟩ := hT0.form
            subst hue
            clear hV hX hXl hrl hT0 t00 hTl c00
            go_wp2_with fail
            go_loopw [10, 11] (fun lv j wr2 => ∃ m : Nat, m ≤ L.length ∧ j = .int .i64 (m : Int) ∧ Hid (∀ t, t < m → (rwR rf (rowT R k) ps L t).2.1 = 0) ∧ Hid (OC wr2 wo.heap.size lv ((List.range m).map (rwR rf (rowT R k) ps L))) ∧ Hid (Below wo.heap.size wo wr2)) (fun _ j _ => L.length - (intOf j).toNat)
            case atStart => exact ⟨0, by omega, rfl, hid fun t ht => absurd ht (Nat.not_lt_zero _), hid (World.ownsRow_nil _ _ _ _), hid (Below.refl _ _)⟩
            case round =>
              obtain ⟨m, hm, rfl, HZ2, HO, HBi⟩ := hrel
              by_cases hmL : m < L.length
              · have hmI : (m : Int) < (L.length : Int) := by omega
                have hmp : m < ps.length := by rw [HpsL.out]; exact hmL
                have hmpI : (m : Int) < (ps.length : Int) := by omega
                have HBo := hid (HI.out.2.2.trans (HBi.out.mono HI.out.2.2.size))
                have HBw := hid (HB4.out.trans (HBo.out.mono HB4.out.size))
                have hLm := fun (wx : World) (hb : Below w.heap.size w wx) => (HL.out.below hb).at m hmL
                obtain ⟨b3, off3, cap3, hv3, p0⟩ := (HIP.out.below HBo.out).at m hmp
                cases hv3
                obtain ⟨b4, off4, cap4, hv4, z0⟩ := (HT.out.below HBi.out).at ps[m] (HinT.out m hmp)
                cases hv4
                have c00 := cellB HBi.out HC00.out
                have hpT : (ps[m] : Int) < ((rowT R k).length : Int) := by have := HinT.out m hmp; omega
                have HR2 := hid (show rwR rf (rowT R k) ps L m = cR rf ((rowT R k)[ps[m]]'(HinT.out m hmp)) L[m] by
                  unfold rwR
                  rw [getD_get ps 0 m hmp, getD_get L _ m hmL, getD_get (rowT R k) _ ps[m] (HinT.out m hmp)])
                have HSz := hid (HTs.out ps[m] (HinT.out m hmp))
                have HGp := hid (show ps.getD m 0 = ps[m] from getD_get ps 0 m hmp)
                have HMb := hid (HFn.out.2.2 m hmL)
                have HZ3 := hid (fun (h : (rwR rf (rowT R k) ps L m).2.1 = 0) => (show ∀ t, t < m + 1 → (rwR rf (rowT R k) ps L t).2.1 = 0 from fun t ht => by
                  by_cases e : t = m
                  · rw [e]; exact h
                  · exact HZ2.out t (by omega)))
                obtain ⟨ls, lc, hlv⟩ := own_slice HO.out
                rw [List.length_map, List.length_range] at hlv
                subst hlv
                have HSp := hid (fun (wx : World) => (hrf ((rowT R k)[ps[m]]'(HinT.out m hmp)) L[m].kd.toNat (by
                  have := HMb.out; unfold mbB at this; simp only [Bool.and_eq_true, decide_eq_true_eq] at this; omega) (by
                  have := HMb.out; unfold mbB at this; simp only [Bool.and_eq_true, decide_eq_true_eq] at this; omega) HSz.out).1.2.1 wx)
                have HNm := hid (cR_num hrf ((rowT R k)[ps[m]]'(HinT.out m hmp)) L[m] HMb.out HSz.out)
                have HKd := hid (show ((L[m].kd.toNat : Nat) : Int) = L[m].kd by
                  have := HMb.out; unfold mbB at this; simp only [Bool.and_eq_true, decide_eq_true_eq] at this; omega)
                rw [HKd.out] at HSp
                have HLm := hid hLm
                have HPm := hid (fun (wx : World) (hb : Below w4.heap.size w4 wx) => (HIP.out.below hb).at m hmp)
                clear hLm
                generalize (rowT R k)[ps[m]]'(HinT.out m hmp) = s at *
                generalize ps[m] = p at *
                generalize L[m] = C at *
                obtain ⟨nm, kd, mu⟩ := C
                go_wp2_with fail
                go_quiet (fail)
                have BQi := hid (below_drewN HBi.out nq)
                have BQo := hid (below_drewN HBo.out nq)
                have BQw := hid (below_drewN HBw.out nq)
                have OQ := hid (own_later HO.out (below_drewN (Below.refl _ _) nq))
                generalize wr.drewN nq = wq at *
                clear c00 p0 z0
                by_cases hs0 : s.data.toList = []
                · have e2 : (s.toList == ([] : List UInt8)) = true := by rw [ByteArray.toList_eq, hs0]; rfl
                  have e2b : s.toList.isEmpty = true := by rw [ByteArray.toList_eq, hs0]; rfl
                  have HS0 := hid hs0
                  obtain ⟨b5, off5, cap5, hv5, _, _, y2⟩ := HLm.out wq BQw.out
                  cases hv5
                  clear hs0
                  cases mu with
                  | true =>
                    have HRw := hid (show rwR rf (rowT R k) ps L m = (0, (13, 0, [], 0)) by rw [HR2.out]; unfold cR; rw [if_pos HS0.out]; rfl)
                    obtain ⟨b6, off6, cap6, hv6, p6⟩ := HPm.out wq BQo.out
                    cases hv6
                    go_wp2_with fail
                    refine Calls.mono (HAt.out 13 (k + 2) p _) ?_
                    rintro e w5 ⟨rfl, hb5⟩
                    obtain ⟨W, ES, hW, gW⟩ := run_fSt ((HF4.out.big BQo.out).big hb5) 13 (k + 2) p 0
                    have EL := run_fLd hW
                    have BF := hid ((BQw.out.trans (hb5.mono BQw.out.size)).grown gW (Nat.le_trans BQw.out.size hb5.size) (fun b hb => by cases hb; exact Nat.le_refl _))
                    obtain ⟨xv, hxv⟩ : ∃ xv, xv = fV 13 (k + 2) p 0 := ⟨_, rfl⟩
                    rw [← hxv] at ES EL ⊢
                    have HXv := hid hxv
                    clear hW gW hb5 hxv
                    go_wp2
                    refine bodyPost_ret (by simp [results, Tryz.results30, asAddr, ↓fLd_op, EL]; try rfl) rfl ?_
                    rw [HXv.out]
                    refine ⟨⟨tyF rf R ps L k m, .inr (.inr ⟨HRr.out, HZ.out, ps, 0, 0, HdP.zero HH.out, .inr ⟨rfl, (HHit.out m hmL HZ2.out (by rw [HRw.out]; decide)).symm⟩⟩), .inr ?_⟩, BF.out⟩
                    rw [tyF_val HRw.out HGp.out]
                    exact ⟨by show (13 : Nat) ≠ 0; decide, 0, ⟨rfl, by omega, fun _ _ => rfl⟩, rfl⟩
                  | false =>
                    have HRw := hid (show rwR rf (rowT R k) ps L m = (0, (0, 0, [], 0)) by rw [HR2.out]; unfold cR; rw [if_pos HS0.out]; rfl)
                    obtain ⟨Wc, ES, hWc, hbc, -⟩ := run_kStN wq 0 ⟨#[]⟩ 0
                    have EL := run_kLd hWc
                    have HBc := hid hbc
                    unfold kV at ES EL
                    clear hWc hbc
                    go_upto_region 27 with fail
                    have hlI : m + 1 ≤ 64 := by have := HL4.out; omega
                    obtain ⟨W8, hW8⟩ : ∃ W8, Wc.alloc (.cells #[.int .i64 0, .string ⟨#[]⟩, .int .i64 0] 52) = W8 := ⟨_, rfl⟩
                    have RW8 := hid (show W8.heap[Wc.heap.size]? = some (.cells #[.int .i64 0, .string ⟨#[]⟩, .int .i64 0] 52 (0, 0)) by rw [← hW8]; exact heap_alloc_new Wc _)
                    have BW8 := hid (show Below Wc.heap.size Wc W8 by rw [← hW8]; exact (Below.refl _ _).alloc (Nat.le_refl _) _)
                    have HO8 := hid (own_later (own_later OQ.out HBc.out) BW8.out)
                    rw [List.length_map, List.length_range] at HO8
                    have HB8 := hid (BQi.out.trans ((HBc.out.trans (BW8.out.mono HBc.out.size)).mono BQi.out.size))
                    have hsz := hid (show wo.heap.size ≤ W8.heap.size from HB8.out.size)
                    have hb8 : (m + 1) * 32 ≤ 140737488355328 := by omega
                    have hb63 : m + 1 ≤ maxLen := by unfold maxLen; omega
                    go_wp2_with (at_builtin; refine wpList_appX clinfo Tryz.underlying53 rfl (by decide) rfl (.tmp 103) (.tmp 105) rfl wo.heap.size _ m (ccl ((List.range m).map (rwR rf (rowT R k) ps L))) rfl HO8.out _ 1 [.int .i64 0, .string ⟨#[]⟩, .int .i64 0] rfl rfl (.inr ⟨_, _, rfl, news_blk RW8.out⟩) (by intro u hu; simp only [List.mem_cons, List.not_mem_nil, or_false] at hu; rcases hu with rfl | rfl | rfl <;> rfl) hb63 hb8 hsz.out ?n2)
                    case n2 =>
                    intro v3 w9 ho3 hg3 _
                    have HO9 := hid (show OC w9 wo.heap.size v3 ((List.range (m + 1)).map (rwR rf (rowT R k) ps L)) by
                      unfold OC
                      rw [List.range_succ, List.map_append, List.length_append, ccl_app, List.length_map, List.length_range, show ccl (List.map (rwR rf (rowT R k) ps L) [m]) = [.int .i64 0, .string ⟨#[]⟩, .int .i64 0] by rw [List.map_cons, HRw.out]; rfl]
                      exact ho3)
                    have HB9 := hid (HB8.out.grown hg3 hsz.out (fun k hk => (World.ownsRow.lt HO8.out k hk).1))
                    clear ho3 hg3 HO8
                    go_wp2_with fail
                    go_roundw
                    case rel => exact ⟨m + 1, by omega, by go_num, hid (HZ3.out (by rw [HRw.out])), HO9, HB9⟩
                    case measure => simp [intOf]; omega
                · have e2 : (s.toList == ([] : List UInt8)) = false := by
                    rw [ByteArray.toList_eq]
                    cases hh : s.data.toList with
                    | nil => exact absurd hh hs0
                    | cons c r => rfl
                  have e2b : s.toList.isEmpty = false := by
                    rw [ByteArray.toList_eq]
                    cases hh : s.data.toList with
                    | nil => exact absurd hh hs0
                    | cons c r => rfl
                  have HRw0 := hid (show rwR rf (rowT R k) ps L m = (kd.toNat, rf s kd.toNat) by rw [HR2.out]; unfold cR; rw [if_neg hs0])
                  have hcr : cR rf s ⟨nm, kd, mu⟩ = (kd.toNat, rf s kd.toNat) := by unfold cR; rw [if_neg hs0]
                  rw [hcr] at HNm
                  obtain ⟨Wc, ES, hWc, hbc, -⟩ := run_kStN wq 0 ⟨#[]⟩ 0
                  have HKW := hid hWc
                  have HBc0 := hid hbc
                  have HSc := hid (HSp.out Wc)
                  obtain ⟨b5, off5, cap5, hv5, _, y1, _⟩ := HLm.out Wc (BQw.out.trans (hbc.mono BQw.out.size))
                  cases hv5
                  unfold kV at ES
                  obtain ⟨rr, hrr⟩ : ∃ rr, rf s kd.toNat = rr := ⟨_, rfl⟩
                  rw [hrr] at HSc HRw0 HNm
                  obtain ⟨kn, hkn⟩ : ∃ kn : Nat, kd.toNat = kn := ⟨_, rfl⟩
                  rw [hkn] at HSc HRw0
                  try rw [hkn] at HNm
                  clear hkn
                  clear hWc hbc hs0 hcr hrr
                  go_wp2_with fail
                  refine Calls.mono HSc.out ?_
                  rintro e w6 ⟨htd, hb6⟩
                  have HB6 := hid (HBc0.out.trans (hb6.mono HBc0.out.size))
                  have hKW6 := HKW.out.big hb6
                  have HKd2 := HKd.out
                  clear HKd2
                  rcases htd with ⟨hz, t, ht, rfl⟩ | ⟨hz, rfl⟩
                  · obtain ⟨Wd, ES2, hWd, hbd, -⟩ := run_kStN w6 (kn : Int) t rr.2.1
                    have EL2 := run_kLd hWd
                    obtain ⟨We, ES3, hWe, gWe⟩ := run_kSt (hKW6.big hbd) (kn : Int) t rr.2.1
                    have EL3 := run_kLd hWe
                    have HBd := hid (HB6.out.trans (hbd.mono HB6.out.size))
                    have HBc := hid (HBd.out.grown gWe HBd.out.size (fun b hb => by cases hb; exact Nat.le_refl _))
                    have HRw := hid (show rwR rf (rowT R k) ps L m = (kn, rr) from HRw0.out)
                    have HT2 := hid (show (⟨rr.2.2.1.toArray⟩ : ByteArray) = t by rw [← ht])
                    have HZz := hid hz
                    unfold cellV
                    unfold kV at ES2 EL2 ES3 EL3
                    clear hWd hbd hWe gWe ht hz hb6 hKW6
                    go_upto_region 27 with fail
                    have hlI : m + 1 ≤ 64 := by have := HL4.out; omega
                    obtain ⟨W8, hW8⟩ : ∃ W8, We.alloc (.cells #[.int .i64 (kn : Int), .string t, .int .i64 rr.2.1] 52) = W8 := ⟨_, rfl⟩
                    have RW8 := hid (show W8.heap[We.heap.size]? = some (.cells #[.int .i64 (kn : Int), .string t, .int .i64 rr.2.1] 52 (0, 0)) by rw [← hW8]; exact heap_alloc_new We _)
                    have BW8 := hid (show Below We.heap.size We W8 by rw [← hW8]; exact (Below.refl _ _).alloc (Nat.le_refl _) _)
                    have HO8 := hid (own_later (own_later OQ.out HBc.out) BW8.out)
                    rw [List.length_map, List.length_range] at HO8
                    have HB8 := hid (BQi.out.trans ((HBc.out.trans (BW8.out.mono HBc.out.size)).mono BQi.out.size))
                    have hsz := hid (show wo.heap.size ≤ W8.heap.size from HB8.out.size)
                    have hb8 : (m + 1) * 32 ≤ 140737488355328 := by omega
                    have hb63 : m + 1 ≤ maxLen := by unfold maxLen; omega
                    go_wp2_with (at_builtin; refine wpList_appX clinfo Tryz.underlying53 rfl (by decide) rfl (.tmp 103) (.tmp 105) rfl wo.heap.size _ m (ccl ((List.range m).map (rwR rf (rowT R k) ps L))) rfl HO8.out _ 1 [.int .i64 (kn : Int), .string t, .int .i64 rr.2.1] rfl rfl (.inr ⟨_, _, rfl, news_blk RW8.out⟩) (by intro u hu; simp only [List.mem_cons, List.not_mem_nil, or_false] at hu; rcases hu with rfl | rfl | rfl <;> rfl) hb63 hb8 hsz.out ?n2)
                    case n2 =>
                    intro v3 w9 ho3 hg3 _
                    have HO9 := hid (show OC w9 wo.heap.size v3 ((List.range (m + 1)).map (rwR rf (rowT R k) ps L)) by
                      unfold OC
                      rw [List.range_succ, List.map_append, List.length_append, ccl_app, List.length_map, List.length_range, show ccl (List.map (rwR rf (rowT R k) ps L) [m]) = [.int .i64 (kn : Int), .string t, .int .i64 rr.2.1] by rw [List.map_cons, HRw.out]; unfold ccl; simp [clV, HT2.out]]
                      exact ho3)
                    have HB9 := hid (HB8.out.grown hg3 hsz.out (fun k hk => (World.ownsRow.lt HO8.out k hk).1))
                    clear ho3 hg3 HO8
                    go_wp2_with fail
                    go_roundw
                    case rel => exact ⟨m + 1, by omega, by go_num, hid (HZ3.out (by rw [HRw.out]; exact HZz.out)), HO9, HB9⟩
                    case measure => simp [intOf]; omega
                  · obtain ⟨n, hn1, hn2, hn3⟩ := HNm.out
                    try simp only [] at hn1
                    try simp only [] at hn3
                    obtain ⟨Wd, ES2, hWd, hbd, -⟩ := run_kStN w6 0 ⟨#[]⟩ 0
                    have HBd := hid (HB6.out.trans (hbd.mono HB6.out.size))
                    have HBq := hid (BQo.out.trans (HBd.out.mono BQo.out.size))
                    have HBx := hid (BQw.out.trans (HBd.out.mono BQw.out.size))
                    obtain ⟨W, ES4, hW, gW⟩ := run_fStw (HF4.out.big HBq.out).drew rr.1 (k + 2) p 0 n
                    have EL := run_fLdw hW
                    have BF := hid (HBx.out.drew.grown gW HBx.out.size (fun b hb => by cases hb; exact Nat.le_refl _))
                    obtain ⟨b6, off6, cap6, hv6, p6⟩ := HPm.out Wd.drew HBq.out.drew
                    cases hv6
                    have hcn : ((rr.1 : Int) != 0) = true := by simp; omega
                    have hcp : ¬ (rr.1 : Int) = 0 := by omega
                    have HNn := hid (And.intro hn1 (And.intro hn2 hn3))
                    have HZz := hid hz
                    unfold cellV
                    rw [hn1]
                    unfold kV at ES2
                    unfold fVw at ES4
                    have ES4' : (fSt ⟨w.heap.size, 0, none⟩ (.agg #[.int .i64 (rr.1 : Int), .int .i64 ((k : Int) + 1 + 1), .int .i64 (p : Int), .int .i64 0, .int .i64 (n : Int)])).run Tryz.prog Wd.drew = .ok () W := ES4
                    clear ES4
                    clear hWd hbd hW gW hz hb6 hKW6 hn1 hn2 hn3
                    go_wp2_with fail
                    go_region
                    all_goals
                      go_wp2
                      refine bodyPost_ret (by simp [results, Tryz.results30, asAddr, ↓fLd_op, EL]; try rfl) rfl ?_
                      refine ⟨⟨tyF rf R ps L k m, .inr (.inr ⟨HRr.out, HZ.out, ps, 0, 0, HdP.zero HH.out, .inr ⟨rfl, (HHit.out m hmL HZ2.out (by rw [HRw0.out]; exact HZz.out)).symm⟩⟩), .inr ?_⟩, BF.out⟩
                      rw [tyF_val HRw0.out HGp.out]
                      exact ⟨HZz.out, n, HNn.out, rfl⟩
              · have hml : m = L.length := by omega
                have hmI : ¬ (m : Int) < (L.length : Int) := by omega
                obtain ⟨la, lc, hlv⟩ := own_slice HO.out
                rw [List.length_map, List.length_range] at hlv
                subst hlv
                have HO2 := hid (show OC wr wo.heap.size (.slice la m lc) (rowX rf (rowT R k) ps L) by unfold rowX; rw [← hml]; exact HO.out)
                have HNo2 := hid (HNo.out (by rw [← hml]; exact HZ2.out))
                have HBo := hid (HI.out.2.2.trans (HBi.out.mono HI.out.2.2.size))
                have HSo := hid (show w4.heap.size ≤ wo.heap.size from HI.out.2.2.size)
                obtain ⟨W8, hW8⟩ : ∃ W8, wr.alloc (.cells #[.slice la m lc] 53) = W8 := ⟨_, rfl⟩
                have RW8 := hid (show W8.heap[wr.heap.size]? = some (.cells #[.slice la m lc] 53 (0, 0)) by rw [← hW8]; exact heap_alloc_new wr _)
                have BW8 := hid (show Below wr.heap.size wr W8 by rw [← hW8]; exact (Below.refl _ _).alloc (Nat.le_refl _) _)
                have HV8 := hid (own_later (HV.out.later HBi.out).own BW8.out)
                have HW8 := hid hW8
                have hVl := HV.out.len
                rw [HXl.out] at hVl
                have hsz := hid (show w4.heap.size ≤ W8.heap.size from Nat.le_trans HBo.out.size BW8.out.size)
                have hb8 : (V.length + 1) * 24 ≤ 140737488355328 := by omega
                have hb63 : V.length + 1 ≤ maxLen := by unfold maxLen; omega
                clear hml hVl
                go_wp2_with (at_builtin; refine wpList_appX clsinfo2 Tryz.underlying25 rfl (by decide) rfl (.tmp 107) (.tmp 109) rfl w4.heap.size _ V.length V rfl HV8.out _ 1 [.slice la m lc] rfl rfl (.inr ⟨_, _, rfl, news_blk RW8.out⟩) (by intro u hu; simp at hu; subst hu; rfl) hb63 hb8 hsz.out ?n2)
                case n2 =>
                intro v3 w6 ho3 hg3 _
                have HLK := hid (LK.app HV.out HO2.out HSo.out (Nat.le_refl _) HBi.out (by rw [HW8.out]; exact hg3) ho3)
                have HB6 := hid ((HBo.out.trans (BW8.out.mono HBo.out.size)).grown hg3 hsz.out (fun k hk => (World.ownsRow.lt HV8.out k hk).1))
                clear ho3 hg3 HV8
                go_wp2_with fail
                go_roundw
                case rel => exact ⟨k + 1, by omega, by go_num, hid ⟨HNo2.out, ⟨_, by rw [HNx.out]; exact HLK.out⟩, HB6.out⟩⟩
                case measure => simp [intOf]; omega
          · have hkl : k = R.length - 1 := by omega
            have hI : ¬ (k : Int) + 1 < (R.length : Int) := by omega
            obtain ⟨V, hV⟩ := HI.out.2.1
            have HNn := hid (show tyB rf R ps L = ((0, 0, 0, 0), (List.range (R.length - 1)).map fun i => rowX rf (rowT R i) ps L) from tyB_non (by rw [← hkl]; exact HI.out.1))
            have hF := HF4.out.big HI.out.2.2
            obtain ⟨W, ES, hW, gW⟩ := run_fSt0 hF
            have EL := run_fLd hW
            have hBr := HB4.out.trans (HI.out.2.2.mono HB4.out.size)
            have BF := hid (hBr.grown gW hBr.size (fun b hb => by cases hb; exact Nat.le_refl _))
            have HV2 := hid (show LK W (w.heap.size + 1) u8 V ((List.range (R.length - 1)).map fun i => rowX rf (rowT R i) ps L) from by
              rw [← hkl]
              exact (LK.kept hV gW (fun e => by have := HB4s.out; omega)).lower HB4s.out)
            clear hkl hV hW gW hBr hF
            go_wp2
            refine bodyPost_ret (by simp [results, Tryz.results30, asAddr, ↓fLd_op, EL]; try rfl) rfl ?_
            exact ⟨⟨_, .inr (.inr ⟨HRr.out, HZ.out, ps, 0, 0, HdP.zero HH.out, .inr ⟨rfl, HNn.out.symm⟩⟩), .inl ⟨rfl, _, V, rfl, HV2.out⟩⟩, BF.out⟩
    · have hcn : ((c : Int) != 0) = true := by simp; omega
      have hcp : ¬ (c : Int) = 0 := by omega
      obtain ⟨W, ES, hW, gW⟩ := run_fSt HF2.out.drew c l k 0
      have EL1 := run_fLd HW2'.out.drew
      have EL := run_fLd hW
      have BF := hid (HB2.out.drew.grown gW HB2.out.size (fun b hb => by cases hb; exact Nat.le_refl _))
      rw [← HGv.out] at ES EL1 EL
      have HC0 := hid h0
      clear hW gW h0
      go_wp2_with fail
      go_region
      all_goals
        go_wp2
        refine bodyPost_ret (by simp [results, Tryz.results30, asAddr, ↓fLd_op, EL]; try rfl) rfl ?_
        rw [HGv.out]
        exact ⟨⟨((c, l, k, 0), []), .inr (.inl ⟨HRr.out, by rw [HQ.out]; exact HC0.out, by rw [HQ.out]⟩), .inr ⟨HC0.out, 0, ⟨rfl, by omega, fun _ _ => rfl⟩, rfl⟩⟩, BF.out⟩
end Go.Proofs.YtmgfdnccmeahjaaGreatDoor
