/-
  Tc6: Sheets: Typed.
-/
import Derived.Test.YtmgfdnccmeahjaaGreatDoorYTc5
namespace Go.Proofs.YtmgfdnccmeahjaaGreatDoor
open Go.RowKit
set_option maxRecDepth 100000
set_option linter.unusedVariables false
set_option linter.unusedSimpArgs false
variable {rf : ByteArray → Nat → Rd}

theorem clsinfo : (Tryz.prog.info? 53).map (fun i => (i.zero, i.size, i.bytes)) = some (some (.slice none 0 0), 1, 24) := by kernel_rfl
/-- what Print tells, in two ways -/
theorem PrR.parts {A : Nat → Addr} {w : World} {R : List (List (List UInt8))} {sv ev : Value} (h : PrR A w R sv ev) :
    ((wgA R).1 = 0 ∧ ev = .nilIface) ∨ ((wgA R).1 ≠ 0 ∧ (∃ p, ev = .iface 38 (.pointer (some p))) ∧ ErO A ((wgA R).1, (wgA R).2.1, (wgA R).2.2, 0) w ev) := by
  rcases h with ⟨h0, _, hf⟩ | ⟨h0, h1, _, hf⟩ | ⟨h0, h1, _, rfl⟩
  · have hw : wgA R = rck (R.headD []).length R 0 := by unfold wgA; rw [if_neg h0]
    have hvl := rck_vals (R.headD []).length R 0
    rw [hw]
    refine .inr ⟨h0, ?_, FT.ero hf (by omega) 0⟩
    rcases hf with ⟨hz, _⟩ | ⟨_, f, rfl, _⟩
    · exact absurd hz h0
    · exact ⟨_, rfl⟩
  · have hq : (rck (R.headD []).length R 0).1 = 0 := (rck_ok (n := (R.headD []).length) (R := R) 0 (.inr (by omega))).2 ⟨by have := h0.1; omega, h0.2⟩
    have hw : wgA R = (20, 0, 0) := by unfold wgA; rw [if_pos hq, if_pos h1]
    rw [hw]
    refine .inr ⟨by decide, ?_, FT.ero hf (by omega) 0⟩
    rcases hf with ⟨hz, _⟩ | ⟨_, f, rfl, _⟩
    · exact absurd hz (by decide)
    · exact ⟨_, rfl⟩
  · have hq : (rck (R.headD []).length R 0).1 = 0 := (rck_ok (n := (R.headD []).length) (R := R) 0 (.inr (by omega))).2 ⟨by have := h0.1; omega, h0.2⟩
    have hw : wgA R = (0, 0, 0) := by unfold wgA; rw [if_pos hq, if_neg (by omega)]
    exact .inl ⟨by rw [hw], rfl⟩
/-- rows[1:] -/
theorem run_from1 {w : World} {ao : Option Addr} {m cap N : Nat} {R : List (List (List UInt8))} (h : Rw w (.slice ao m cap) R) (hN : R.length = N + 1) :
    ∃ ao2 c2, (∀ W, (Instr.slice 22 (.slice ao m cap) (some (.int .i64 1)) none none).run Tryz.prog W = .ok (.slice ao2 N c2) W) ∧ Rw w (.slice ao2 N c2) (R.drop 1) := by
  obtain ⟨ao2, h1, h2⟩ := h.dropI (by omega)
  obtain ⟨ao', cap', e, h3, h4, h5⟩ := h
  injection e with e1 e2 e3
  subst e1 e3
  obtain ⟨g, off, u, ha, _⟩ := h5 0 (by omega)
  subst ha
  have hm : m = N + 1 := by omega
  have hbc : (1 : Int) ≤ (m : Int) := by omega
  refine ⟨ao2, cap - 1, fun W => ?_, ?_⟩
  · have hz : ∀ W, (sizeOf 32).run Tryz.prog W = .ok 1 W := fun W => by go_simp
    rw [run_slice_l (P := Tryz.prog) (w := W) (t := 22) (a := some ⟨g, off, none⟩) (len := m) (cap := cap) (ht := Tryz.underlying22) (kl := .i64) (l := (1 : Int)) (h0 := by omega) (h1 := hbc)]
    show ((sizeOf 32).run Tryz.prog W).andThen _ = _
    rw [hz, h1 _ _ rfl]
    simp [Result.andThen, sliced, hm, Addr.add]
  · rw [show N = R.length - 1 by omega]
    exact h2
/-- faults of the columns are on line 0, missing heads on line 1 -/
def TyC (o : TyA) : Prop := (o.1.1 = 10 → o.1.2.1 = 0) ∧ (o.1.1 = 11 → o.1.2.1 = 1)
theorem wg_vals (R : List (List (List UInt8))) : (wgA R).1 ≠ 10 ∧ (wgA R).1 ≠ 11 := by
  unfold wgA
  have h := rck_vals (R.headD []).length R 0
  split
  · split <;> simp
  · omega
theorem ErrV.vals {A : Nat → Addr} {r : Rd} {w w' : World} {ev : Value} (h : ErrV A r w w' ev) : 13 ≤ r.1 := by
  rcases h with ⟨h, _⟩ | ⟨h, _⟩ <;> omega
/-- what Typed answers, with what is told of its faults' lines -/
def TyP2 (rf : ByteArray → Nat → Rd) (A : Nat → Addr) (R : List (List (List UInt8))) (L : List Col) (r : Option Nat) (w w' : World) (e : Ending) : Prop :=
  ∃ o, TyO rf R L r o ∧ ((o.1.1 = 0 ∧ ∃ v V, e = .returned (.tuple #[v, .nilIface]) ∧ LK w' w.heap.size v V o.2) ∨ (o.1.1 ≠ 0 ∧ TyC o ∧ ∃ ev, e = .returned (.tuple #[.slice none 0 0, ev]) ∧ ErO A o.1 w' ev))
set_option maxHeartbeats 8000000 in
theorem typed_any2 (hrf : RfOk rf) (A : Nat → Addr) (rv cv : Value) (R : List (List (List UInt8))) (L : List Col) (r : Option Nat) (w : World) (hR : Rw w rv R) (hL : RC w cv L) (hc : colP L r) (hw : RdW A w) (hT : ErT w) :
    Calls Tryz.prog 10 #[rv, cv] w fun e w' => TyP2 rf A R L r w w' e ∧ Below w.heap.size w w' := by
  have HR := hid hR
  have HL := hid hL
  have HC := hid hc
  have HW := hid hw
  have HT := hid hT
  have HCk := hid (checkColumns_any A cv L r w hL hc hw.sn)
  have HPr := hid (fun (W : World) (hb : Below w.heap.size w W) => print_any A rv R W (hw.sn.below hb).he (hT.below hb) (hR.below hb))
  have HFc := hid (fun (W : World) (hb : Below w.heap.size w W) (hl : L.length ≤ 64) (h0 : L ≠ []) => findColumns_any A rv cv R L W (hR.below hb) (hL.below hb) hl (hw.sn.below hb) h0)
  have HRl := hid hR.len
  obtain ⟨ra, rc, rfl⟩ := hR.form
  obtain ⟨ca, cc, rfl, hcc⟩ := hL.form
  clear hR hL hc hw hT hcc
  go_enter Tryz.func10, Tryz.ntmps10
  go_wp2_with fail
  refine Calls.mono HCk.out ?_
  rintro e w1 ⟨hck, hb1⟩
  have HB1 := hid hb1
  rcases hck with ⟨hr, rfl⟩ | ⟨i, ev, hr, rfl, her⟩
  case inr =>
    have HEr := hid her
    obtain ⟨q, rfl, _, _⟩ := her
    have HRr := hid hr
    clear hb1 hr
    go_wp2
    go_ret2
    exact ⟨⟨_, .inl ⟨i, HRr.out, rfl⟩, .inr ⟨by show (10 : Nat) ≠ 0; decide, ⟨fun _ => rfl, fun h => absurd h (by show ¬ (10 : Nat) = 11; decide)⟩, _, rfl, HEr.out.ero (by omega) 0⟩⟩, HB1.out⟩
  case inl =>
    have HRr := hid hr
    have HFn := hid (HC.out.fine hr)
    clear hb1 hr
    go_wp2_with fail
    refine Calls.mono (HPr.out _ HB1.out) ?_
    rintro e w2 ⟨sv, ev, rfl, hp, hb2⟩
    have HB2 := hid (HB1.out.trans (hb2.mono HB1.out.size))
    rcases hp.parts with ⟨hz, rfl⟩ | ⟨hz, ⟨pv, rfl⟩, her⟩
    case inr =>
      have HEr := hid her
      have HZ := hid hz
      clear hp hb2 hz her
      go_wp2
      go_ret2
      exact ⟨⟨_, .inr (.inl ⟨HRr.out, HZ.out, rfl⟩), .inr ⟨HZ.out, ⟨fun h => absurd h (wg_vals R).1, fun h => absurd h (wg_vals R).2⟩, _, rfl, HEr.out⟩⟩, HB2.out⟩
    case inl =>
      have HZ := hid hz
      have HOk := hid (wg_ok hz)
      clear hp hb2 hz
      go_wp2_with fail
      refine Calls.mono (HFc.out _ HB2.out HFn.out.2.1 HFn.out.1) ?_
      rintro e w3 ⟨⟨ps, c, q, hh, hcs⟩, hb3⟩
      have HB3 := hid (HB2.out.trans (hb3.mono HB2.out.size))
      have HH := hid hh
      rcases hcs with ⟨rfl, pv, rfl, hop⟩ | ⟨hc0, ev, rfl, her⟩
      case inr =>
        have HEr := hid her
        have HC0 := hid hc0
        have HVl := hid hh.vals
        obtain ⟨q', rfl, _, _⟩ := her
        clear hh hb3 hc0
        go_wp2
        go_ret2
        exact ⟨⟨_, .inr (.inr ⟨HRr.out, HZ.out, ps, c, q, HH.out, .inl ⟨HC0.out, rfl⟩⟩), .inr ⟨HC0.out, ⟨fun h => absurd h (by show ¬ c = 10; have := HC0.out; have := HVl.out; omega), fun _ => rfl⟩, _, rfl, HEr.out.ero (by have := HC0.out; have := HVl.out; omega) 0⟩⟩, HB3.out⟩
      case inl =>
        have HIP := hid hop.reads
        have hR1 := hh.some_row HFn.out.1
        have HWi := hid hh.within
        have hPf := HIP.out.form
        obtain ⟨pa, pcp, rfl⟩ := hPf
        have HR3 := hid (HR.out.below HB3.out)
        obtain ⟨N, hN⟩ : ∃ N, R.length = N + 1 := ⟨R.length - 1, by omega⟩
        obtain ⟨ra2, rc2, hsl, hRd⟩ := run_from1 HR3.out hN
        have HRd := hid hRd
        have HN := hid hN
        have hR4 : R.length ≤ 4096 := HOk.out.1.1
        clear hh hb3 hop hRd hN hR1
        go_wp2_with fail
        go_loopw [11, 41] (fun v i wr => ∃ k : Nat, k ≤ N ∧ i = .int .i64 (k : Int) ∧ Hid (TyI rf R ps L w3 k wr v)) (fun _ i _ => N - (intOf i).toNat)
        case atStart => exact ⟨0, by omega, rfl, hid ⟨fun m h => absurd h (Nat.not_lt_zero _), ⟨[], LK.nil _ _⟩, Below.refl _ _⟩⟩
        case round =>
          obtain ⟨k, hk, rfl, HI⟩ := hrel
          by_cases h : k < N
          · have hI : (k : Int) < (N : Int) := by omega
            have HBr := hid HI.out.2.2
            have HBw := hid (HB3.out.trans (HBr.out.mono HB3.out.size))
            obtain ⟨V, hV⟩ := HI.out.2.1
            have HV := hid hV
            obtain ⟨va, vc, rfl⟩ := own_slice hV.own
            obtain ⟨g2, off2, cap2, u, hv2, _, c0, t0⟩ := (HRd.out.below HBr.out).at k (by rw [List.length_drop, HN.out]; exact h)
            injection hv2 with q1 q2 q3
            subst q1 q3
            clear q2
            have hk1 : k + 1 < R.length := by rw [HN.out]; omega
            have e1 : (R.drop 1)[k]'(by rw [List.length_drop, HN.out]; exact h) = R[k + 1] := by
              rw [List.getElem_drop]
              simp only [show 1 + k = k + 1 by omega]
            rw [e1] at t0
            have hT1 : Bx wr u (rowT R k) := by rw [rowT_is hk1]; exact t0.bx
            have hrl := row_len HOk.out.1 hk1
            have HTl := hid (show (rowT R k).length = (R.headD []).length by rw [rowT_is hk1, btx_len]; exact hrl.1)
            have HTr := hid (typedRow_any hrf A u _ _ (rowT R k) ps L wr hT1 (HIP.out.below HBr.out) (HL.out.below HBw.out) (HW.out.below HBw.out) HWi.out.1 HFn.out.2.1 (fun i hi => by rw [HTl.out]; exact HWi.out.2 i hi) HFn.out.2.2 (by rw [rowT_is hk1]; exact btx_small hrl.2))
            have HNx := hid (show (List.range (k + 1)).map (fun i => rowX rf (rowT R i) ps L) = (List.range k).map (fun i => rowX rf (rowT R i) ps L) ++ [rowX rf (rowT R k) ps L] by rw [List.range_succ, List.map_append]; rfl)
            obtain ⟨X, hX⟩ : ∃ X, (List.range k).map (fun i => rowX rf (rowT R i) ps L) = X := ⟨_, rfl⟩
            have hXl : X.length = k := by rw [← hX]; simp
            rw [hX] at HV HNx
            have HXl := hid hXl
            have hHt := t0.form
            obtain ⟨ua, uc, rfl⟩ := hHt
            clear hV hX hXl t0 hT1 hrl e1
            go_wp2_with fail
            refine Calls.mono HTr.out ?_
            rintro e w5 ⟨htr, hb5⟩
            have HB5r := hid hb5
            have HB5 := hid (HBr.out.trans (hb5.mono HBr.out.size))
            have HS5 := hid (show w3.heap.size ≤ wr.heap.size from HBr.out.size)
            rcases htr with ⟨hz, v2, rfl, ho⟩ | ⟨i, hi, hpre, hnz, ev, rfl, q, e, rfl, hq, hqc, hev⟩
            · have HO := hid ho
              have HFc0 := hid (show ∀ m, m < k + 1 → fcol rf (rowT R m) ps L = none from fun m hm => by
                by_cases e : m = k
                · rw [e]; exact fcol_non hz
                · exact HI.out.1 m (by omega))
              obtain ⟨oa, oc, hoe⟩ := own_slice (show OC w5 wr.heap.size v2 (rowX rf (rowT R k) ps L) from ho)
              rw [rowX_len] at hoe
              subst hoe
              have hVl := HV.out.len
              rw [HXl.out] at hVl
              obtain ⟨W4, hW4⟩ : ∃ W4, w5.alloc (.cells #[.slice oa L.length oc] 53) = W4 := ⟨_, rfl⟩
              have RW4 := hid (show W4.heap[w5.heap.size]? = some (.cells #[.slice oa L.length oc] 53 (0, 0)) by rw [← hW4]; exact heap_alloc_new w5 _)
              have BW4 := hid (show Below w5.heap.size w5 W4 by rw [← hW4]; exact (Below.refl _ _).alloc (Nat.le_refl _) _)
              have HV4 := hid (own_later (HV.out.later HB5r.out).own BW4.out)
              have HW4 := hid hW4
              have hsz := hid (show w3.heap.size ≤ W4.heap.size from Nat.le_trans HB5.out.size BW4.out.size)
              have hb8 : (V.length + 1) * 24 ≤ 140737488355328 := by have := HN.out; omega
              have hb63 : V.length + 1 ≤ maxLen := by have := HN.out; unfold maxLen; omega
              clear hz ho hb5 hVl
              go_wp2_with (at_builtin; refine wpList_appX clsinfo Tryz.underlying25 rfl (by decide) rfl (.tmp 59) (.tmp 61) rfl w3.heap.size _ V.length V rfl HV4.out _ 1 [.slice oa L.length oc] rfl rfl (.inr ⟨_, _, rfl, news_blk RW4.out⟩) (by intro u hu; simp at hu; subst hu; rfl) hb63 hb8 hsz.out ?n2)
              case n2 =>
              intro v3 w6 ho3 hg3 _
              have HLK := hid (LK.app HV.out HO.out HS5.out (Nat.le_refl _) HB5r.out (by rw [HW4.out]; exact hg3) ho3)
              have HB6 := hid ((HB5.out.trans (BW4.out.mono HB5.out.size)).grown hg3 hsz.out (fun k hk => (World.ownsRow.lt HV4.out k hk).1))
              clear ho3 hg3 HV4
              go_wp2_with fail
              go_roundw
              case rel => exact ⟨k + 1, by omega, by go_num, hid ⟨HFc0.out, ⟨_, by rw [HNx.out]; exact HLK.out⟩, HB6.out⟩⟩
              case measure => simp [intOf]; omega
            · have HHit := hid (show tyB rf R ps L = tyF rf R ps L k i from tyB_hit (by rw [HN.out]; exact h) HI.out.1 (fcol_hit hi hpre hnz))
              have HNz := hid hnz
              have HEv := hid hev
              have HQc := hid hqc
              have hO := onLine_any q _ _ _ (k + 2) w5 (HT.out.below (HB3.out.trans (HB5.out.mono HB3.out.size))) hqc
              rw [show ((k + 2 : Nat) : Int) = (k : Int) + 2 by omega] at hO
              have HO := hid hO
              have HQ := hid hq
              clear hpre hnz hev hqc hb5 hO hq
              go_wp2_with fail
              refine Calls.mono HO.out ?_
              rintro e2 w6 ⟨rfl, hh6, hk6⟩
              have HH6 := hid hh6
              have HK6 := hid hk6
              clear hh6 hk6
              go_wp2
              go_ret2
              refine ⟨⟨tyF rf R ps L k i, .inr (.inr ⟨HRr.out, HZ.out, ps, 0, 0, ?_, .inr ⟨rfl, HHit.out.symm⟩⟩), .inr ⟨HNz.out, ⟨fun h => absurd h (by have := HEv.out.vals; show ¬ (rwR rf (rowT R k) ps L i).2.1 = 10; omega), fun h => absurd h (by have := HEv.out.vals; show ¬ (rwR rf (rowT R k) ps L i).2.1 = 11; omega)⟩, _, rfl, ?_⟩⟩, ?_⟩
              · have := HH.out
                exact HdP.zero this
              · refine ErW.ero (n := k + 2) HEv.out HNz.out (by have := HH6.out; rw [show ((k + 2 : Nat) : Int) = (k : Int) + 2 by omega]; exact this) (fun g x hg hx => (HK6.out.block g ⟨(Array.getElem?_eq_some_iff.1 hx).1, hg⟩).trans hx) (fun x y hw => by rw [HQc.out] at hw; simp at hw)
              · have b1 := HB3.out.trans (HB5.out.mono HB3.out.size)
                have k2 := HK6.out
                have hq := HQ.out
                have h1 := HB3.out.size
                have h2 := HS5.out
                exact ⟨k2.os.trans b1.os, k2.tape.trans b1.tape, k2.output.trans b1.output, Nat.le_trans b1.size k2.size, fun j hj => (k2.block j ⟨Nat.lt_of_lt_of_le hj b1.size, by omega⟩).trans (b1.block j hj)⟩
          · have hkl : k = R.length - 1 := by rw [HN.out]; omega
            have hI : ¬ (k : Int) < (N : Int) := by omega
            obtain ⟨V, hV⟩ := HI.out.2.1
            have HNn := hid (show tyB rf R ps L = ((0, 0, 0, 0), (List.range (R.length - 1)).map fun i => rowX rf (rowT R i) ps L) from tyB_non (by rw [← hkl]; exact HI.out.1))
            have HV2 := hid (show LK wr w3.heap.size u11 V ((List.range (R.length - 1)).map fun i => rowX rf (rowT R i) ps L) by rw [← hkl]; exact hV)
            clear hkl hV
            go_wp2
            go_ret2
            refine ⟨⟨_, .inr (.inr ⟨HRr.out, HZ.out, ps, 0, 0, HdP.zero HH.out, .inr ⟨rfl, HNn.out.symm⟩⟩), .inl ⟨rfl, _, V, rfl, HV2.out.lower HB3.out.size⟩⟩, HB3.out.trans (HI.out.2.2.mono HB3.out.size)⟩
theorem typed_any (hrf : RfOk rf) (A : Nat → Addr) (rv cv : Value) (R : List (List (List UInt8))) (L : List Col) (r : Option Nat) (w : World) (hR : Rw w rv R) (hL : RC w cv L) (hc : colP L r) (hw : RdW A w) (hT : ErT w) :
    Calls Tryz.prog 10 #[rv, cv] w fun e w' => TyP rf A R L r w w' e ∧ Below w.heap.size w w' := by
  refine (typed_any2 hrf A rv cv R L r w hR hL hc hw hT).mono ?_
  rintro e w' ⟨⟨o, ho, h⟩, hb⟩
  refine ⟨⟨o, ho, ?_⟩, hb⟩
  rcases h with h | ⟨h0, _, h⟩
  · exact .inl h
  · exact .inr ⟨h0, h⟩
end Go.Proofs.YtmgfdnccmeahjaaGreatDoor
