/-
  PlanReckons: the walk. Laid by mklawprk.py.
-/
import Derived.Test.YtgnnopjkbmbjbabDoorFq5
import Derived.Test.YtgnnopjkbmbjbabDoorPq8
import Derived.Test.YtgnnopjkbmbjbabDoorGIn
namespace Go.Proofs.YtgnnopjkbmbjbabDoor
open Go.RowKit
set_option maxRecDepth 100000
set_option linter.unusedSimpArgs false

attribute [local go_sem ↓] ptLd_op ptSt_op cpLd_op cpSt_op
set_option maxHeartbeats 8000000 in
theorem planReckons_any (v : Value) (L : List Int) (wt : Nat) (w : World) (h : RL eI 1 w v L) (hok : ∀ x ∈ L, I64 x) (hs : L.length * 8 ≤ 140737488351232) (hT : HasTu w) :
    Calls Tryd.prog 3 #[v, .float .f64 wt] w fun e w' => e = .returned (.bool true) ∧ Below w.heap.size w w' := by
  have H := hid h
  have HOK := hid hok
  have HT := hid hT
  obtain ⟨ao, cp, rfl⟩ := h.len0
  have ln : (L.length : Int) ≤ 17592186043904 := by omega
  clear h hok hT
  go_enter Tryd.func3, Tryd.ntmps3
  go_wp2_with (at_builtin; refine wpList_appL (enc := eI) intinfo Tryd.underlying22 rfl (by omega) eI_len eI_one rfl _ _ rfl w.heap.size _ _ rfl (OL.nil w w.heap.size) _ L rfl H.out ?hlen ?hl2 (Nat.le_refl _) ?hnext)
  case hlen => simp only [List.length_nil]; omega
  case hl2 => simp only [maxLen, List.length_nil]; omega
  case hnext =>
  intro v1 w1 o1 g1
  have O1 := hid (show OL eI 1 3 w1 w.heap.size v1 L by simpa using o1)
  have B1 := hid ((Below.refl w.heap.size w).grown g1 (Nat.le_refl _) (fun b hb => by simp [Value.ownBlock] at hb))
  clear o1 g1
  have HOx := hid (OL.alloc O1.out (.cells #[.int .i64 77] 3))
  have HBx := hid (B1.out.trans ((alloc_below w1 (.cells #[.int .i64 77] 3)).mono B1.out.size))
  go_wp2_with (at_builtin; refine wpList_appL (enc := eI) intinfo Tryd.underlying22 rfl (by omega) eI_len eI_one rfl _ _ rfl w.heap.size _ _ rfl HOx.out _ [(77 : Int)] rfl (rl_one (heap_alloc_new w1 _) rfl) ?hlen ?hl2 HBx.out.size ?hnext)
  case hlen => simp only [List.length_cons, List.length_nil]; omega
  case hl2 => simp only [maxLen, List.length_cons, List.length_nil]; omega
  case hnext =>
  intro v2 w2 o2 g2
  have B2 := hid (HBx.out.grown g2 HBx.out.size (fun b hb => (HOx.out.block_ge b hb).1))
  have O2 := hid o2
  obtain ⟨g, cap, cur, rfl, hcap, hbg, hg, hcur⟩ := o2.block (by simp)
  clear g2 o2 HOx HBx O1 B1 hcur cur
  rw [List.length_append, List.length_singleton] at *
  have RP := hid (RL.pre (OL.reads eI_len O2.out))
  have cl : (L.length : Int) ≤ (cap : Int) := by omega
  have HGG := hid hg
  clear hg
  have HH2 := hid (H.out.below B2.out)
  have ST := hid (st_nan (L))
  have SN := hid (smM_nan (L) wt)
  have QN := hid (fun k => qfE_nan (L) k)
  go_wp2_with fail
  refine Calls.mono (stats_any _ (L) w2 RP.out (by omega)) ?_
  rintro e wz ⟨rfl, rfl⟩
  go_wp2_with fail
  refine Calls.mono (rstats_any _ (L) _ HH2.out (by omega)) ?_
  rintro e wz ⟨rfl, rfl⟩
  go_wp2_with fail
  refine Calls.mono (smooth_any _ (L) wt _ RP.out (by omega)) ?_
  rintro e wa ⟨⟨ua, rfl, oa⟩, sa⟩
  have MA := hid oa
  have RPa := hid (RP.out.below sa)
  have RHa := hid (HH2.out.below sa)
  have Ba := hid (B2.out.trans (sa.mono B2.out.size))
  have SA := hid sa
  have WAZ := hid sa.size
  clear oa sa
  go_wp2_with fail
  refine Calls.mono (rsmooth_any _ (L) wt wa RHa.out (by omega)) ?_
  rintro e wb ⟨⟨ub, rfl, ob⟩, sb⟩
  have MB := hid ob
  have MAb := hid (MA.out.below sb)
  have RPb := hid (RPa.out.below sb)
  have RHb := hid (RHa.out.below sb)
  have Bb := hid (Ba.out.trans (sb.mono Ba.out.size))
  have SB := hid (bel_step SA.out sb)
  clear ob sb MA RPa RHa Ba SA
  go_wp2_with fail
  refine Calls.mono (quarters_any _ (L) wb RPb.out (HT.out.below Bb.out) (by omega)) ?_
  rintro e wc ⟨rfl, sc⟩
  have MBc := hid (MB.out.below sc)
  have MAc := hid (MAb.out.below sc)
  have RPc := hid (RPb.out.below sc)
  have RHc := hid (RHb.out.below sc)
  have Bc := hid (Bb.out.trans (sc.mono Bb.out.size))
  have SC := hid (bel_step SB.out sc)
  clear sc MB MAb RPb RHb Bb SB
  generalize hf : qfE L = f at *
  obtain ⟨Wc, hWc⟩ : ∃ W, wc.alloc (.cells #[.complex .f64 0 0, .complex .f64 0 0, .complex .f64 0 0, .complex .f64 0 0] 31) = W := ⟨_, rfl⟩
  have c0 : CB Wc wc.heap.size (fun _ => (0, 0)) := by rw [← hWc]; exact CB.new wc
  have sWc : Below wc.heap.size wc Wc := by rw [← hWc]; exact alloc_below _ _
  obtain ⟨wd, ES, cd, gd⟩ := c0.store f
  have sd : Below wc.heap.size wc wd := sWc.grown gd sWc.size (fun b hb => by cases hb; exact Nat.le_refl _)
  have MBd := hid (MBc.out.below sd)
  have MAd := hid (MAc.out.below sd)
  have RPd := hid (RPc.out.below sd)
  have RHd := hid (RHc.out.below sd)
  have Bd := hid (Bc.out.trans (sd.mono Bc.out.size))
  have SD := hid (bel_step SC.out sd)
  have CD := hid cd
  have HWc := hid hWc
  have b17lo := SC.out.size
  clear c0 sWc gd sd cd hWc MBc MAc RPc RHc Bc SC
  generalize hcp : cp4 f = cpv at *
  have HCP := hid hcp
  clear hcp
  have hWc := HWc.out
  go_wp2_with fail
  clear ES HWc hWc
  generalize hb17 : wc.heap.size = b17 at *
  clear hb17
  refine Calls.mono (rquarters_any _ L wd RHd.out (by omega)) ?_
  rintro e we ⟨rfl, se⟩
  have MBe := hid (MBd.out.below se)
  have MAe := hid (MAd.out.below se)
  have RPe := hid (RPd.out.below se)
  have RHe := hid (RHd.out.below se)
  have Be := hid (Bd.out.trans (se.mono Bd.out.size))
  have SE := hid (bel_step SD.out se)
  have CE := hid (CD.out.later se)
  clear se MBd MAd RPd RHd Bd SD CD
  rw [hf]
  obtain ⟨We, hWe⟩ : ∃ W, we.alloc (.cells #[.float .f64 0, .float .f64 0, .float .f64 0, .float .f64 0, .float .f64 0, .float .f64 0, .float .f64 0, .float .f64 0] 36) = W := ⟨_, rfl⟩
  have c0 : PB We we.heap.size (fun _ => (0, 0)) := by rw [← hWe]; exact PB.new we
  have sWe : Below we.heap.size we We := by rw [← hWe]; exact alloc_below _ _
  obtain ⟨wf, ES, cd, gd⟩ := c0.store f
  have sd : Below we.heap.size we wf := sWe.grown gd sWe.size (fun b hb => by cases hb; exact Nat.le_refl _)
  have MBf := hid (MBe.out.below sd)
  have MAf := hid (MAe.out.below sd)
  have RPf := hid (RPe.out.below sd)
  have RHf := hid (RHe.out.below sd)
  have Bf := hid (Be.out.trans (sd.mono Be.out.size))
  have SF := hid (bel_step SE.out sd)
  have CF := hid (CE.out.later sd)
  have LT := hid CE.out.lt
  have PF := hid cd
  have HWe := hid hWe
  have b19lo := SE.out.size
  have O2f := hid (O2.out.below SF.out)
  clear c0 sWe gd sd cd hWe MBe MAe RPe RHe Be SE CE
  have QS := hid (fun wx => quarters_same f QN.out wx)
  generalize hpt : pt8 f = ptv at *
  have HPT := hid hpt
  clear hpt
  rw [HCP.out] at QS
  have HF := hid hf
  clear hf
  have hWe := HWe.out
  go_wp2_with fail
  clear ES HWe hWe
  generalize hb19 : we.heap.size = b19 at *
  clear hb19
  go_wp2_with fail
  refine Calls.mono (number_same _ ST.out.1 _) ?_
  rintro e wy ⟨rfl, rfl⟩
  go_wp2_with fail
  refine Calls.mono (number_same _ ST.out.2 _) ?_
  rintro e wy ⟨rfl, rfl⟩
  go_wp2_with fail
  refine Calls.mono (numbers_same _ _ _ _ (OL.reads eF_len MAf.out) (OL.reads eF_len MBf.out) SN.out.1 (by have := SN.out.2; omega)) ?_
  rintro e wp ⟨rfl, sp⟩
  have CP2 := hid (CF.out.later sp)
  have PP2 := hid (PF.out.later sp)
  have EL1 := CP2.out.load
  have EL2 := PP2.out.load
  rw [HCP.out] at EL1
  rw [HPT.out] at EL2
  have SP := hid sp
  clear sp
  go_wp2_with fail
  refine Calls.mono (QS.out _) ?_
  rintro e wq ⟨rfl, sq⟩
  have SQ := hid (bel_step SP.out sq)
  have CQ := hid (CP2.out.later sq)
  have PQ := hid (PP2.out.later sq)
  clear sq EL1 EL2 SP CP2 PP2
  have RPq := hid (RPf.out.below SQ.out)
  have RHq := hid (RHf.out.below SQ.out)
  have Bq := hid (Bf.out.trans (SQ.out.mono Bf.out.size))
  have O2q := hid (O2f.out.below SQ.out)
  clear RPf RHf Bf O2f MAf MBf CF PF
  go_wp2_with fail
  refine Calls.mono (ints_same _ _ L _ RPq.out RHq.out (by omega)) ?_
  rintro e wl ⟨rfl, sl⟩
  have CL := hid (CQ.out.later sl)
  have PL := hid (PQ.out.later sl)
  have Bl := hid (Bq.out.trans (sl.mono Bq.out.size))
  have O2l := hid (O2q.out.below sl)
  have hgl : g < wl.heap.size := Nat.lt_of_lt_of_le HGG.out (Nat.le_trans SF.out.size (Nat.le_trans SQ.out.size sl.size))
  have bq : wl.cell? ⟨g, L.length, none⟩ = some (.int .i64 77) := by
    obtain ⟨g', off', c', e1, _, hr⟩ := (OL.reads eI_len O2l.out).form (by simp)
    rw [List.length_append, List.length_singleton] at e1
    cases e1
    have := hr L.length (by simp) 0 (.int .i64 77) (by simp [eI])
    simpa using this
  have l1 : (0 : Int) ≤ (L.length : Int) := by omega
  have l2 : (L.length : Int) < (L.length : Int) + 1 := by omega
  have HGL := hid hgl
  have B17 := hid b17lo
  have B19 := hid b19lo
  have c17 := hid CL.out.lt
  have c19 := hid PL.out.lt
  clear sl RPq RHq Bq O2q CQ PQ hgl b17lo b19lo SF SQ
  go_wp2_with fail
  go_loopw [22, 21] (fun i tv wr => ∃ k : Nat, k ≤ L.length ∧ i = .int .i64 (k : Int) ∧ OL eI 1 3 wr w.heap.size (.slice (some ⟨g, 0, none⟩) (L.length + 1) cap) (hvN L k ++ [77]) ∧ OL eI 1 3 wr wl.heap.size tv ((L.take k).map h2) ∧ (CB wr b17 f ∧ PB wr b19 f) ∧ wl.heap.size ≤ wr.heap.size ∧ Below w.heap.size w wr) (fun i _ _ => L.length - (intOf i).toNat)
  case atStart => exact ⟨0, by omega, rfl, by rw [hvN_zero]; exact O2l.out, by simpa using OL.nil _ _, ⟨CL.out, PL.out⟩, Nat.le_refl _, Bl.out⟩
  case round =>
    obtain ⟨k, hk, rfl, q1, q2, ⟨qc, qp⟩, qs, hb⟩ := hrel
    have Q1 := hid q1
    have Q2 := hid q2
    have QC := hid qc
    have QP := hid qp
    have QZ := hid qs
    have HB := hid hb
    clear q1 q2 qc qp qs bq
    by_cases hlt : k < L.length
    · have hI : (k : Int) < (L.length : Int) := by omega
      obtain ⟨gi, offi, ci, ei, hci, i0⟩ := int_at (H.out.below hb) k hlt
      cases ei
      have HS := hid (hvN_succ L k hlt)
      have HA := hid (hvN_at L k hlt)
      have HM := hid (map_take L k hlt)
      obtain ⟨u, hu, u1, u2⟩ : ∃ u : Int, h2 (L[k]'hlt) = u ∧ -9223372036854775808 ≤ u ∧ u ≤ 9223372036854775807 := ⟨_, rfl, (half_in (HOK.out _ (List.getElem_mem hlt))).1, (half_in (HOK.out _ (List.getElem_mem hlt))).2⟩
      have hu2 : (L[k]'hlt).tdiv 2 = u := hu
      rw [hu] at HS HM
      clear hb hu
      generalize L[k]'hlt = x at *
      have HOx := hid (OL.alloc Q2.out (.cells #[.int .i64 u] 3))
      have sx := alloc_below wr (.cells #[.int .i64 u] 3)
      have Q1x := hid (Q1.out.below sx)
      have QCx := hid (QC.out.later sx)
      have QPx := hid (QP.out.later sx)
      have HBx := hid (HB.out.trans (sx.mono HB.out.size))
      have zx : wl.heap.size ≤ (wr.alloc (.cells #[.int .i64 u] 3)).heap.size := Nat.le_trans QZ.out sx.size
      have ZX := hid zx
      have tl : ((L.take k).map h2).length = k := by simp; omega
      clear sx zx
      go_wp2_with (at_builtin; refine wpList_appL (enc := eI) intinfo Tryd.underlying22 rfl (by omega) eI_len eI_one rfl _ _ rfl wl.heap.size _ _ rfl HOx.out _ [u] rfl (rl_one (heap_alloc_new wr _) rfl) ?hlen ?hl2 ZX.out ?hnext)
      case hlen => first | (simp only [List.length_cons, List.length_nil]; omega) | omega | (simp; omega)
      case hl2 => first | (simp only [maxLen, List.length_cons, List.length_nil]; omega) | (unfold maxLen; omega)
      case hnext =>
        intro v2 w2 ho2 hg2
        have rown : ∀ b, Value.ownBlock _ = some b → wl.heap.size ≤ b := fun b hb => (HOx.out.block_ge b hb).1
        have R1 := hid (Q1x.out.keep hg2 (fun b hb e => by
          have : g = b := (by simpa [Value.ownBlock] using hb)
          have := rown b e
          have := HGL.out
          omega))
        have RC := hid (QCx.out.keep hg2 (fun e => by have := rown _ e; have := c17.out; omega))
        have RPp := hid (QPx.out.keep hg2 (fun e => by have := rown _ e; have := c19.out; omega))
        have RB := hid (HBx.out.grown hg2 HBx.out.size (fun b hb => by have := rown b hb; have := Bl.out.size; omega))
        have O3 := hid (show OL eI 1 3 w2 wl.heap.size v2 ((L.take (k + 1)).map h2) by rw [HM.out]; simpa [List.map_take] using ho2)
        have ZW := hid (Nat.le_trans ZX.out hg2.size)
        have tl2 : ((L.take (k + 1)).map h2).length = k + 1 := by simp; omega
        obtain ⟨gt, offt, ct, et, hct, cc⟩ := int_at (OL.reads eI_len O3.out) k (by rw [tl2]; omega)
        have ex : ((L.take (k + 1)).map h2)[k]'(by rw [tl2]; omega) = u := by
          have e1 := HM.out
          have : ((L.take (k + 1)).map h2)[k]? = some u := by rw [e1, List.getElem?_append_right (by omega), tl, Nat.sub_self]; rfl
          rw [List.getElem?_eq_getElem (by rw [tl2]; omega)] at this
          exact Option.some.inj this
        rw [ex] at cc
        rw [tl2] at et hct
        subst et
        obtain ⟨_, _, cur1, e1, _, _, _, hcur1⟩ := R1.out.block (by simp)
        rw [List.length_append, List.length_singleton, hvN_len] at e1
        cases e1
        obtain ⟨g', off', c', e1', hc', d0⟩ := int_at (OL.reads eI_len R1.out) k (by rw [List.length_append, hvN_len]; simp; omega)
        rw [List.length_append, List.length_singleton, hvN_len] at e1'
        cases e1'
        rw [Nat.zero_add] at d0
        have fz1 := Lib.frozen_of_heap hcur1
        have lq : k < (hvN L k).length := by rw [hvN_len]; exact hlt
        have S1 := OL.setc eI_len R1.out rfl k (by rw [List.length_append]; omega) 0 (by omega) u (.int .i64 u) rfl
        rw [List.set_append_left _ _ lq, HS.out, Nat.mul_one, Nat.add_zero] at S1
        have S2 := O3.out.setOther (g := g) (o := k) (.int .i64 u) (fun b hb => by have := (O3.out.block_ge b hb).1; have := HGL.out; omega)
        have S3 := RC.out.keep (gb_set w2 g k (.int .i64 u)) (fun e => by cases e; have := HGG.out; have := B17.out; omega)
        have S4 := RPp.out.keep (gb_set w2 g k (.int .i64 u)) (fun e => by cases e; have := HGG.out; have := B19.out; omega)
        have S5 := Below.setCell (B := w.heap.size) RB.out (p := ⟨g, k, none⟩) hbg (.int .i64 u)
        have SS := hid (And.intro S1 (And.intro S2 (And.intro (And.intro S3 S4) S5)))
        generalize (hvN L k ++ [77])[k]'(by rw [List.length_append, hvN_len]; simp; omega) = u9 at d0
        have kk1 : (k : Int) < (k : Int) + 1 := by omega
        have zz := hid (show wl.heap.size ≤ (w2.setCell ⟨g, k, none⟩ (.int .i64 u)).heap.size by have := ZW.out; simpa using this)
        clear ho2 hg2 rown ex S1 S2 S3 S4 S5 hcur1
        go_wp2_with fail
        go_roundw
        case rel => exact ⟨k + 1, by omega, by go_num, SS.out.1, SS.out.2.1, SS.out.2.2.1, zz.out, SS.out.2.2.2⟩
        case measure => simp [intOf]; omega
    · obtain rfl : k = L.length := by omega
      clear ST SN QN QS HCP HPT HF
      rw [hvN_all] at Q1
      rw [List.take_length] at Q2
      have ll : (L.map h2).length = L.length := by simp
      have RPm := hid (RL.pre (OL.reads eI_len Q1.out))
      rw [ll] at RPm
      have RHm := hid (OL.reads eI_len Q2.out)
      have LL := hid ll
      have b17w := hid (Nat.le_trans B2.out.size B17.out)
      have b19w := hid (Nat.le_trans B2.out.size B19.out)
      clear hb hlt hk cl
      generalize L.map h2 = K at *
      have lnK : (K.length : Int) ≤ 17592186043904 := by omega
      have ST := hid (st_nan (K))
      have SN := hid (smM_nan (K) wt)
      have QN := hid (fun k => qfE_nan (K) k)
      go_wp2_with fail
      refine Calls.mono (stats_any _ (K) wr RPm.out (by omega)) ?_
      rintro e wk ⟨rfl, rfl⟩
      go_wp2_with fail
      refine Calls.mono (rstats_any _ (K) _ RHm.out (by omega)) ?_
      rintro e wk ⟨rfl, rfl⟩
      go_wp2_with fail
      refine Calls.mono (smooth_any _ (K) wt _ RPm.out (by omega)) ?_
      rintro e wa ⟨⟨ua, rfl, oa⟩, sa⟩
      have MA := hid oa
      have RPa := hid (RPm.out.below sa)
      have RHa := hid (RHm.out.below sa)
      have Ba := hid (HB.out.trans (sa.mono HB.out.size))
      have SA := hid sa
      have WAZ := hid sa.size
      clear oa sa
      go_wp2_with fail
      refine Calls.mono (rsmooth_any _ (K) wt wa RHa.out (by omega)) ?_
      rintro e wb ⟨⟨ub, rfl, ob⟩, sb⟩
      have MB := hid ob
      have MAb := hid (MA.out.below sb)
      have RPb := hid (RPa.out.below sb)
      have RHb := hid (RHa.out.below sb)
      have Bb := hid (Ba.out.trans (sb.mono Ba.out.size))
      have SB := hid (bel_step SA.out sb)
      clear ob sb MA RPa RHa Ba SA
      go_wp2_with fail
      refine Calls.mono (quarters_any _ (K) wb RPb.out (HT.out.below Bb.out) (by omega)) ?_
      rintro e wc ⟨rfl, sc⟩
      have MBc := hid (MB.out.below sc)
      have MAc := hid (MAb.out.below sc)
      have RPc := hid (RPb.out.below sc)
      have RHc := hid (RHb.out.below sc)
      have Bc := hid (Bb.out.trans (sc.mono Bb.out.size))
      have SC := hid (bel_step SB.out sc)
      clear sc MB MAb RPb RHb Bb SB
      generalize hf2 : qfE K = f2 at *
      have CBc := hid (QC.out.later SC.out)
      have PBc := hid (QP.out.later SC.out)
      have OTc := hid (Q2.out.below SC.out)
      have c17k := c17.out
      have c19k := c19.out
      have zk := QZ.out
      have lt1 := LT.out
      obtain ⟨wd2, ES, cd2, gd2⟩ := CBc.out.store f2
      have CBd := hid cd2
      have PBd := hid (PBc.out.keep gd2 (fun e => by cases e; omega))
      have OTd := hid (OTc.out.keep gd2 (fun b hb e => by cases e; have := (OTc.out.block_ge b17 hb).1; omega))
      have MAd := hid (MAc.out.keep gd2 (fun b hb e => by cases e; have := (MAc.out.block_ge b17 hb).1; omega))
      have sWA := SC.out.size
      have MBd := hid (MBc.out.keep gd2 (fun b hb e => by cases e; have := (MBc.out.block_ge b17 hb).1; have := WAZ.out; omega))
      have Bd := hid (Bc.out.grown gd2 Bc.out.size (fun b hb => by cases hb; exact b17w.out))
      have zd := hid (Nat.le_trans sWA gd2.size)
      clear cd2 gd2 CBc PBc OTc MAc MBc Bc SC RPc RHc RPm RHm
      generalize hcp : cp4 f2 = cpv2 at *
      have HCP := hid hcp
      clear hcp
      go_wp2_with fail
      clear ES
      refine Calls.mono (rquarters_any _ K wd2 (OL.reads eI_len OTd.out) (by omega)) ?_
      rintro e we2 ⟨rfl, se⟩
      rw [hf2]
      have CBe := hid (CBd.out.later se)
      have PBe := hid (PBd.out.later se)
      have MAe := hid (MAd.out.below se)
      have MBe := hid (MBd.out.below se)
      have Be := hid (Bd.out.trans (se.mono Bd.out.size))
      clear se CBd PBd MAd MBd Bd OTd
      obtain ⟨wf2, ES, cd2, gd2⟩ := PBe.out.store f2
      have PBf := hid cd2
      have CBf := hid (CBe.out.keep gd2 (fun e => by cases e; omega))
      have MAf := hid (MAe.out.keep gd2 (fun b hb e => by cases e; have := (MAe.out.block_ge b19 hb).1; omega))
      have MBf := hid (MBe.out.keep gd2 (fun b hb e => by cases e; have := (MBe.out.block_ge b19 hb).1; have := WAZ.out; omega))
      have Bf := hid (Be.out.grown gd2 Be.out.size (fun b hb => by cases hb; exact b19w.out))
      have QS := hid (fun wx => quarters_same f2 QN.out wx)
      clear cd2 gd2 CBe PBe MAe MBe Be
      generalize hpt : pt8 f2 = ptv2 at *
      have HPT := hid hpt
      clear hpt hf2
      rw [HCP.out] at QS
      go_wp2_with fail
      clear ES
      go_wp2_with fail
      refine Calls.mono (number_same _ ST.out.1 _) ?_
      rintro e wy ⟨rfl, rfl⟩
      go_wp2_with fail
      refine Calls.mono (number_same _ ST.out.2 _) ?_
      rintro e wy ⟨rfl, rfl⟩
      go_wp2_with fail
      refine Calls.mono (numbers_same _ _ _ _ (OL.reads eF_len MAf.out) (OL.reads eF_len MBf.out) SN.out.1 (by have := SN.out.2; omega)) ?_
      rintro e wp ⟨rfl, sp⟩
      have CP2 := hid (CBf.out.later sp)
      have PP2 := hid (PBf.out.later sp)
      have EL1 := CP2.out.load
      have EL2 := PP2.out.load
      rw [HCP.out] at EL1
      rw [HPT.out] at EL2
      have SP := hid sp
      clear sp
      go_wp2_with fail
      refine Calls.mono (QS.out _) ?_
      rintro e wq ⟨rfl, sq⟩
      have SQ := hid (bel_step SP.out sq)
      have CQ := hid (CP2.out.later sq)
      have PQ := hid (PP2.out.later sq)
      clear sq EL1 EL2 SP CP2 PP2
      have Bq := hid (Bf.out.trans (SQ.out.mono Bf.out.size))
      go_wp2
      go_ret
      exact ⟨rfl, Bq.out⟩
end Go.Proofs.YtgnnopjkbmbjbabDoor
