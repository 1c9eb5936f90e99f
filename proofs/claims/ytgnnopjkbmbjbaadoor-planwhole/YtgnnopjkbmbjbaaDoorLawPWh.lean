/-
  PlanWhole: the walk.
-/
import Derived.Test.YtgnnopjkbmbjbaaDoorFw3
namespace Go.Proofs.YtgnnopjkbmbjbaaDoor
open Go.RowKit
set_option maxRecDepth 100000
set_option linter.unusedSimpArgs false

def eB (x : Int) : List Value := [.int .u8 x]
theorem byte_at {w : World} {v : Value} {L : List Int} (h : RL eB 1 w v L) (i : Nat) (hi : i < L.length) : ∃ g off c, v = .slice (some ⟨g, off, none⟩) L.length c ∧ L.length ≤ c ∧ w.cell? ⟨g, off + i, none⟩ = some (.int .u8 L[i]) := by
  obtain ⟨g, off, c, hv, hc, hr⟩ := h.form (by omega)
  exact ⟨g, off, c, hv, hc, by have := hr i hi 0 _ rfl; rw [Nat.mul_one] at this; exact this⟩
def BOk (L : List Int) : Prop := ∀ x ∈ L, 0 ≤ x ∧ x ≤ 255
theorem BOk.take {L : List Int} (h : BOk L) (k : Nat) : BOk (L.take k) := fun x hx => h x (List.mem_of_mem_take hx)
theorem BOk.hok {L : List Int} (h : BOk L) : HOk L := fun x hx => by have := h x hx; omega
theorem BOk.he {L : List Int} (h : BOk L) (hl : L.length ≤ 4096) : hE L = 0 := hE_ok (by omega) (fun i hi => by have := h _ (List.getElem_mem hi); unfold wiB; simp; omega)
theorem eqB {a b : Nat} (h : dbl.order a b = some .eq) : (FloatKind.f64.format.order a b == some .eq) = true := by rw [show FloatKind.f64.format.order a b = some .eq from h]; rfl
/-- what the quarters of L and of 0 :: L are asked -/
structure QL (L : List Int) (f g : Nat → Nat × Nat) : Prop where
  a1 : (FloatKind.f64.format.order (f 0).1 (floatOfInt .f64 (smL L)) == some .eq) = true
  a2 : (FloatKind.f64.format.order (f 0).2 0 == some .eq) = true
  b1 : (FloatKind.f64.format.order (f 3).1 (f 1).1 == some .eq) = true
  b2 : (FloatKind.f64.format.order (f 3).2 (Op.negFloat .f64 (f 1).2) == some .eq) = true
  b3 : (FloatKind.f64.format.order (f 2).2 0 == some .eq) = true
  c1 : (FloatKind.f64.format.order (g 1).1 (f 1).2 == some .eq) = true
  c2 : (FloatKind.f64.format.order (g 1).2 (Op.negFloat .f64 (f 1).1) == some .eq) = true
  c3 : (FloatKind.f64.format.order (g 2).1 (Op.negFloat .f64 (f 2).1) == some .eq) = true
theorem ql_of {L : List Int} (h : BOk L) (hl : L.length ≤ 500) : QL L (qfE L) (qfE (0 :: L)) := by
  have h1 : hE L = 0 := h.he (by omega)
  have h2 : hE (0 :: L) = 0 := BOk.he (fun x hx => by rcases List.mem_cons.1 hx with rfl | hx
                                                      · omega
                                                      · exact h x hx) (by simp; omega)
  have e1 : qfE L = qf L := funext fun k => if_pos h1
  have e2 : qfE (0 :: L) = qf (0 :: L) := funext fun k => if_pos h2
  rw [e1, e2]
  obtain ⟨⟨a1, a2⟩, ⟨b1, b2, b3⟩, c1, c2, c3⟩ := q_law h.hok (show L.length ≤ 4096 by omega)
  exact ⟨eqB a1, eqB a2, eqB b1, eqB b2, eqB b3, eqB c1, eqB c2, eqB c3⟩
theorem sm_one {L : List Int} (h : BOk L) (hl : L.length ≤ 500) : smE L 4607182418800017408 = 0 ∧ (smM L 4607182418800017408).length = L.length ∧ ∀ (j : Nat) (hj : j < L.length) (hj2 : j < (smM L 4607182418800017408).length), (FloatKind.f64.format.order (smM L 4607182418800017408)[j] (floatOfInt .f64 L[j]) == some .eq) = true := by
  obtain ⟨e1, e2⟩ := smE_yes (h.he (by omega)) wOk_one
  have e3 : rsT 4607182418800017408 = 0 := by unfold rsT; rw [one_less]; rfl
  rw [e3] at e1
  refine ⟨e2, ?_, ?_⟩
  · rw [e1]
    have := smO_len 4607182418800017408 0 L L.length (Nat.le_refl _)
    rw [List.take_length] at this
    exact this
  · intro j hj hj2
    obtain ⟨b, hb, ho⟩ := smO_one h.hok j hj
    rw [← e1, List.getElem?_eq_getElem hj2] at hb
    rw [Option.some.inj hb]
    exact eqB ho
theorem sm_half {c n : Nat} (hc : c ≤ 255) (h0 : 0 < n) (hn : n ≤ 256) : (stM (List.replicate n (c : Int)) = meL (List.replicate n (c : Int)) ∧ hE (List.replicate n (c : Int)) = 0 ∧ (FloatKind.f64.format.order (stM (List.replicate n (c : Int))) (floatOfInt .f64 (c : Int)) == some .eq) = true ∧ (FloatKind.f64.format.order (stD (List.replicate n (c : Int))) 0 == some .eq) = true) ∧ smE (List.replicate n (c : Int)) 4602678819172646912 = 0 ∧ (smM (List.replicate n (c : Int)) 4602678819172646912).length = n ∧ ∀ (j : Nat) (_ : j < n) (hj2 : j < (smM (List.replicate n (c : Int)) 4602678819172646912).length), (FloatKind.f64.format.order (smM (List.replicate n (c : Int)) 4602678819172646912)[j] (floatOfInt .f64 (c : Int)) == some .eq) = true := by
  have hB : BOk (List.replicate n (c : Int)) := fun x hx => by rw [List.eq_of_mem_replicate hx]; omega
  have hE0 := hB.he (by simp; omega)
  have hl : 0 < (List.replicate n (c : Int)).length := by simp; omega
  obtain ⟨m1, m2⟩ := st_even hc h0 (show n ≤ 4096 by omega)
  have s1 : stM (List.replicate n (c : Int)) = meL (List.replicate n (c : Int)) := if_pos ⟨hE0, hl⟩
  have s2 : stD (List.replicate n (c : Int)) = deL (List.replicate n (c : Int)) := if_pos ⟨hE0, hl⟩
  obtain ⟨e1, e2⟩ := smE_yes hE0 wOk_half
  have e3 : rsT 4602678819172646912 = 4602678819172646912 := by unfold rsT; rw [half_less]; rfl
  rw [e3] at e1
  refine ⟨⟨s1, hE0, by rw [s1]; exact eqB m1, by rw [s2]; exact eqB m2⟩, e2, ?_, ?_⟩
  · rw [e1]
    have := smO_len 4602678819172646912 4602678819172646912 (List.replicate n (c : Int)) n (by simp)
    rw [List.take_of_length_le (by simp)] at this
    exact this
  · intro j hj hj2
    obtain ⟨b, hb, ho⟩ := smO_half hc j hj
    rw [← e1, List.getElem?_eq_getElem hj2] at hb
    rw [Option.some.inj hb]
    exact eqB ho
theorem CB.at {w : World} {b : Nat} {f : Nat → Nat × Nat} (h : CB w b f) (j : Nat) (hj : j < 4) : w.cell? ⟨b, j, none⟩ = some (.complex .f64 (f j).1 (f j).2) := by
  have h' : w.heap[b]? = some (.cells (pA f 4) 30 (0, 0)) := h
  rw [Lib.cell_of_heap h']
  rcases (show j = 0 ∨ j = 1 ∨ j = 2 ∨ j = 3 by omega) with rfl | rfl | rfl | rfl <;> rfl

theorem run_neg_flt (P : Program) (w : World) (k : FloatKind) (b : Nat) : (Op.unary .neg (.float k b)).run P w = .ok (.float k (Op.negFloat k b)) w := rfl
theorem eqP {a b : Nat} (h : (FloatKind.f64.format.order a b == some .eq) = true) : FloatKind.f64.format.order a b = some .eq := by simpa using h
theorem OL.lit1 (w : World) (x : Int) : OL eI 1 3 (w.alloc (.cells #[.int .i64 x] 3)) w.heap.size (.slice (some ⟨w.heap.size, 0, none⟩) 1 1) [x] :=
  ⟨rfl, .inr ⟨w.heap.size, 1, #[.int .i64 x], rfl, Nat.le_refl _, heap_alloc_new w _, Nat.le_refl _, by unfold maxLen; omega, rfl, rfl⟩⟩
attribute [local go_sem] run_neg_flt
attribute [local go_sem ↓] cpLd_op cpSt_op
set_option maxHeartbeats 8000000 in
theorem planWhole_any (v : Value) (K : List Int) (c n : Nat) (w : World) (h : RL eB 1 w v K) (hok : BOk K) (hs : K.length ≤ 140737488351232) (hc : c ≤ 255) (hn : n ≤ 255) (hT : HasTu w) :
    Calls Tryd.prog 3 #[v, .int .u8 (c : Int), .int .u8 (n : Int)] w fun e w' => e = .returned (.bool true) ∧ Below w.heap.size w w' := by
  have H := hid h
  have HOK := hid hok
  have HT := hid hT
  obtain ⟨ao, cp, rfl⟩ := h.len0
  clear h hok hT
  go_enter Tryd.func3, Tryd.ntmps3
  go_wp2_with fail
  go_loopw [9, 7, 8] (fun i lv sv wr => ∃ k : Nat, k ≤ K.length ∧ k ≤ 500 ∧ i = .int .i64 (k : Int) ∧ OL eI 1 3 wr w.heap.size lv (K.take k) ∧ sv = .int .i64 (smL (K.take k)) ∧ Below w.heap.size w wr) (fun i _ _ _ => 500 - (intOf i).toNat)
  case atStart => exact ⟨0, by omega, by omega, rfl, by simpa using OL.nil _ _, rfl, Below.refl _ _⟩
  case round =>
    obtain ⟨k, hk, hk5, rfl, ql, rfl, hb⟩ := hrel
    have QL := hid ql
    have HB := hid hb
    clear ql
    have tl : (K.take k).length = k := by simp; omega
    by_cases hlt : k < K.length ∧ k < 500
    · have hI1 : (k : Int) < (K.length : Int) := by omega
      have hI2 : (k : Int) < 500 := by omega
      obtain ⟨g, off, cc, e1, hcc, c0⟩ := byte_at (H.out.below hb) k hlt.1
      cases e1
      have TK := hid (List.take_succ_eq_append_getElem hlt.1)
      have SM := hid (show smL (K.take (k + 1)) = smL (K.take k) + K[k]'hlt.1 by rw [List.take_succ_eq_append_getElem hlt.1, smL_snoc])
      have sb := smL_take HOK.out.hok k
      obtain ⟨x0, x1⟩ := HOK.out _ (List.getElem_mem hlt.1)
      clear hb
      generalize hx : K[k]'hlt.1 = x at *
      have HX := hid hx
      clear hx
      generalize smL (K.take k) = s0 at *
      have sx := alloc_below wr (.cells #[.int .i64 x] 3)
      have HOx := hid (OL.alloc QL.out (.cells #[.int .i64 x] 3))
      have HBx := hid (HB.out.trans (sx.mono HB.out.size))
      have c1 := below_cells sx _ _ c0
      clear sx
      go_wp2_with (at_builtin; refine wpList_appL (enc := eI) intinfo Tryd.underlying23 rfl (by omega) eI_len eI_one rfl _ _ rfl w.heap.size _ _ rfl HOx.out _ [x] rfl (rl_one (heap_alloc_new wr _) rfl) ?hlen ?hl2 HBx.out.size ?hnext)
      case hlen => simp only [List.length_cons, List.length_nil]; omega
      case hl2 => simp only [maxLen, List.length_cons, List.length_nil]; omega
      case hnext =>
        intro v2 w2 o2 g2
        have B2 := hid (HBx.out.grown g2 HBx.out.size (fun b hb => (HOx.out.block_ge b hb).1))
        have O2 := hid (show OL eI 1 3 w2 w.heap.size v2 (K.take (k + 1)) by rw [TK.out]; exact o2)
        obtain ⟨g', off', cc', e1, _, c2⟩ := byte_at (H.out.below B2.out) k hlt.1
        cases e1
        rw [HX.out] at c2
        clear o2 g2 c1 c0
        go_wp2_with fail
        go_roundw
        case rel => exact ⟨k + 1, by omega, by omega, by go_num, O2.out, by rw [SM.out], B2.out⟩
        case measure => simp [intOf]; omega
    · have RL0 := hid (OL.reads eI_len QL.out)
      have BL := hid (HOK.out.take k)
      have WAY : ¬ ((k : Int) < (K.length : Int)) ∨ ((k : Int) < (K.length : Int) ∧ ¬ ((k : Int) < 500)) := by omega
      have NL := hid (show K.take 0 = [] from rfl)
      clear hlt hb NL QL HOK
      generalize K.take k = L at *
      subst tl
      obtain ⟨lo, lc, rfl⟩ := RL0.out.len0
      obtain ⟨s1, s2, s3⟩ := sm_one BL.out hk5
      have S3 := hid s3
      have QQ := hid (ql_of BL.out hk5)
      have HE := BL.out.he (show L.length ≤ 4096 by omega)
      have SMO := hid (fun (wx : World) (hx : RL eI 1 wx (.slice lo L.length lc) L) => smooth_any _ L 4607182418800017408 wx hx (by omega))
      have QUM := hid (fun (v : Value) (wx : World) (hx : RL eI 1 wx v (0 :: L)) (ht : HasTu wx) => quarters_any v (0 :: L) wx hx ht (by simp only [List.length_cons]; omega))
      have HE2 : hE (0 :: L) = 0 := BOk.he (fun x hx => by rcases List.mem_cons.1 hx with rfl | hx
                                                           · omega
                                                           · exact BL.out x hx) (by simp only [List.length_cons]; omega)
      rw [HE2] at QUM
      have SH := hid (sm_half hc (show 0 < n + 1 by omega) (show n + 1 ≤ 256 by omega))
      clear HE2
      have QUA := hid (fun (wx : World) (hx : RL eI 1 wx (.slice lo L.length lc) L) (ht : HasTu wx) => quarters_any _ L wx hx ht (by omega))
      rw [HE] at QUA
      unfold SmR at SMO
      rw [s1] at SMO
      clear s3 s1 HE
      generalize smM L 4607182418800017408 = S at *
      generalize qfE L = f at *
      generalize qfE (0 :: L) = f2 at *
      rcases WAY with hI1 | ⟨hI1, hI2⟩
      all_goals
        go_wp2_with fail
        refine Calls.mono (SMO.out _ RL0.out) ?_
        rintro e wa ⟨⟨ua, rfl, oa⟩, sa⟩
        have MA := hid oa
        have RLa := hid (RL0.out.below sa)
        have Ba := hid (HB.out.trans (sa.mono HB.out.size))
        obtain ⟨so, sc0, rfl⟩ := (OL.reads eF_len oa).len0
        rw [s2]
        rw [s2] at MA
        clear oa sa
        go_wp2_with fail
        refine Calls.mono (QUA.out _ RLa.out (HT.out.below Ba.out)) ?_
        rintro e wc ⟨rfl, sc⟩
        have MAc := hid (MA.out.below sc)
        have RLc := hid (RLa.out.below sc)
        have Bc := hid (Ba.out.trans (sc.mono Ba.out.size))
        clear sc MA RLa Ba
        obtain ⟨Wc, hWc⟩ : ∃ W, wc.alloc (.cells #[.complex .f64 0 0, .complex .f64 0 0, .complex .f64 0 0, .complex .f64 0 0] 30) = W := ⟨_, rfl⟩
        have cb0 : CB Wc wc.heap.size (fun _ => (0, 0)) := by rw [← hWc]; exact CB.new wc
        have sWc : Below wc.heap.size wc Wc := by rw [← hWc]; exact alloc_below _ _
        obtain ⟨wd, ES, cd, gd⟩ := cb0.store f
        have sd : Below wc.heap.size wc wd := sWc.grown gd sWc.size (fun b hb => by cases hb; exact Nat.le_refl _)
        have MAd := hid (MAc.out.below sd)
        have RLd := hid (RLc.out.below sd)
        have Bd := hid (Bc.out.trans (sd.mono Bc.out.size))
        have CD := hid cd
        have q0 := cd.at 0 (by omega)
        have q1 := cd.at 1 (by omega)
        have q2 := cd.at 2 (by omega)
        have q3 := cd.at 3 (by omega)
        have a1 := QQ.out.a1
        have a2 := QQ.out.a2
        have b1 := QQ.out.b1
        have b2 := QQ.out.b2
        have b3 := QQ.out.b3
        have a1' := eqP a1
        have a2' := eqP a2
        have b1' := eqP b1
        have b2' := eqP b2
        have b3' := eqP b3
        clear cb0 sWc gd sd cd MAc RLc Bc
        generalize hcp : cp4 f = cpv at *
        have HCP := hid hcp
        clear hcp
        go_wp2_with fail
        clear ES hWc q0 q1 q2 q3 a1 a2 b1 b2 b3 a1' a2' b1' b2' b3'
        generalize wc.heap.size = b12 at *
        go_loopw [14] (fun i wx => ∃ j : Nat, j ≤ L.length ∧ i = .int .i64 (j : Int) ∧ Below wd.heap.size wd wx) (fun i _ => L.length - (intOf i).toNat)
        case atStart => exact ⟨0, by omega, rfl, Below.refl _ _⟩
        case round =>
          obtain ⟨j, hj, rfl, hbx⟩ := hrel
          have HBX := hid hbx
          by_cases hlt : j < L.length
          · have hIj : (j : Int) < (L.length : Int) := by omega
            obtain ⟨g1, o1, cc1, e1, hc1, d1⟩ := int_at (RLd.out.below hbx) j hlt
            cases e1
            obtain ⟨g2, o2, cc2, e2, hc2, d2⟩ := flt_at (OL.reads eF_len (MAd.out.below hbx)) j (by omega)
            rw [s2] at e2 hc2
            cases e2
            have ord := S3.out j hlt (by omega)
            have ord' := eqP ord
            clear hbx
            generalize S[j]'(by omega) = y at *
            generalize L[j]'hlt = x at *
            go_wp2_with fail
            go_quiet (fail)
            have BQ := hid (below_drewN HBX.out nq)
            go_wp2_with fail
            go_roundw
            case rel => exact ⟨j + 1, by omega, by go_num, BQ.out⟩
            case measure => simp [intOf]; omega
          · obtain rfl : j = L.length := by omega
            have B3 := hid (Bd.out.trans (hbx.mono Bd.out.size))
            have RL3 := hid ((RLd.out.below hbx).alloc (.cells #[.int .i64 0] 3))
            have CB3 := hid (CD.out.later hbx)
            have OM := hid (OL.lit1 wr 0)
            have SX := hid (alloc_below wr (.cells #[.int .i64 0] 3))
            clear hbx hlt HBX
            go_wp2_with (at_builtin; refine wpList_appL (enc := eI) intinfo Tryd.underlying23 rfl (by omega) eI_len eI_one rfl _ _ rfl wr.heap.size _ _ rfl OM.out _ L rfl RL3.out ?hlen ?hl2 SX.out.size ?hnext)
            case hlen => simp only [List.length_cons, List.length_nil]; omega
            case hl2 => simp only [maxLen, List.length_cons, List.length_nil]; omega
            case hnext =>
            intro v3 w3 o3 g3
            have S3w := hid (show Below wr.heap.size wr w3 from (SX.out).grown g3 SX.out.size (fun b hb => (OM.out.block_ge b hb).1))
            have RM := hid (show RL eI 1 w3 v3 (0 :: L) from OL.reads eI_len o3)
            have B4 := hid (B3.out.trans (S3w.out.mono B3.out.size))
            have CB4 := hid (CB3.out.later S3w.out)
            obtain ⟨mo, mc, rfl⟩ := RM.out.len0
            clear o3 g3 OM SX RL3 B3 CB3 S3w
            go_wp2_with fail
            refine Calls.mono (QUM.out _ _ RM.out (HT.out.below B4.out)) ?_
            rintro e w5 ⟨rfl, sc⟩
            have B5 := hid (B4.out.trans (sc.mono B4.out.size))
            have CB5 := hid (CB4.out.later sc)
            clear sc B4 CB4 RM
            obtain ⟨W5, hW5⟩ : ∃ W, w5.alloc (.cells #[.complex .f64 0 0, .complex .f64 0 0, .complex .f64 0 0, .complex .f64 0 0] 30) = W := ⟨_, rfl⟩
            have cb0 : CB W5 w5.heap.size (fun _ => (0, 0)) := by rw [← hW5]; exact CB.new w5
            have sW5 : Below w5.heap.size w5 W5 := by rw [← hW5]; exact alloc_below _ _
            obtain ⟨w6, ES, cd, gd⟩ := cb0.store f2
            have sd : Below w5.heap.size w5 w6 := sW5.grown gd sW5.size (fun b hb => by cases hb; exact Nat.le_refl _)
            have B6 := hid (B5.out.trans (sd.mono B5.out.size))
            have CB6 := CB5.out.later sd
            have q1 := CB6.at 1 (by omega)
            have q2 := CB6.at 2 (by omega)
            have p1 := cd.at 1 (by omega)
            have p2 := cd.at 2 (by omega)
            have a1 := QQ.out.c1
            have a2 := QQ.out.c2
            have a3 := QQ.out.c3
            have a1' := eqP a1
            have a2' := eqP a2
            have a3' := eqP a3
            clear cb0 sW5 gd sd cd B5 CB5 CB6
            generalize hcp2 : cp4 f2 = cpv2 at *
            have HCP2 := hid hcp2
            clear hcp2
            go_wp2_with fail
            clear ES hW5 q1 q2 p1 p2 a1 a2 a3 a1' a2' a3' QQ HCP HCP2 QUM QUA SMO CD
            go_loopw [18, 17] (fun i lv wr => ∃ k : Nat, k ≤ n + 1 ∧ i = .int .i64 (k : Int) ∧ OL eI 1 3 wr w6.heap.size lv (List.replicate k (c : Int)) ∧ Below w6.heap.size w6 wr) (fun i _ _ => n + 1 - (intOf i).toNat)
            case atStart => exact ⟨0, by omega, rfl, OL.nil _ _, Below.refl _ _⟩
            case round =>
              obtain ⟨k, hk, rfl, ql, hb⟩ := hrel
              have QL7 := hid ql
              have HB7 := hid hb
              clear ql hb
              by_cases hlt : k ≤ n
              · have hI1 : (k : Int) ≤ (n : Int) := by omega
                have sx := alloc_below wr (.cells #[.int .i64 (c : Int)] 3)
                have HOx := hid (OL.alloc QL7.out (.cells #[.int .i64 (c : Int)] 3))
                have HBx := hid (HB7.out.trans (sx.mono HB7.out.size))
                clear sx
                go_wp2_with (at_builtin; refine wpList_appL (enc := eI) intinfo Tryd.underlying23 rfl (by omega) eI_len eI_one rfl _ _ rfl w6.heap.size _ _ rfl HOx.out _ [(c : Int)] rfl (rl_one (heap_alloc_new wr _) rfl) ?hlen ?hl2 HBx.out.size ?hnext)
                case hlen => simp only [List.length_cons, List.length_nil, List.length_replicate]; omega
                case hl2 => simp only [maxLen, List.length_cons, List.length_nil, List.length_replicate]; omega
                case hnext =>
                intro v8 w8 o8 g8
                have B8 := hid (HBx.out.grown g8 HBx.out.size (fun b hb => (HOx.out.block_ge b hb).1))
                have O8 := hid (show OL eI 1 3 w8 w6.heap.size v8 (List.replicate (k + 1) (c : Int)) by rw [List.replicate_succ']; exact o8)
                clear o8 g8
                go_wp2_with fail
                go_roundw
                case rel => exact ⟨k + 1, by omega, by go_num, O8.out, B8.out⟩
                case measure => simp [intOf]; omega
              · obtain rfl : k = n + 1 := by omega
                have hI1 : ¬ ((n + 1 : Nat) : Int) ≤ (n : Int) := by omega
                have B7 := hid (B6.out.trans (HB7.out.mono B6.out.size))
                have R7 := hid (OL.reads eI_len QL7.out)
                obtain ⟨no, nc, rfl⟩ := R7.out.len0
                obtain ⟨⟨-, z1, z2, z3⟩, z4, z5, z6⟩ := SH.out
                have Z6 := hid z6
                have STA := hid (stats_any _ (List.replicate (n + 1) (c : Int)) wr R7.out (by rw [List.length_replicate]; omega))
                have SMH := hid (smooth_any _ (List.replicate (n + 1) (c : Int)) 4602678819172646912 wr R7.out (by rw [List.length_replicate]; omega))
                unfold SmR at SMH
                rw [z1] at STA
                rw [z4] at SMH
                rw [List.length_replicate] at STA SMH
                rw [List.length_replicate]
                have z2' := eqP z2
                have z3' := eqP z3
                clear z6 z1 z4 HB7 QL7 R7 SH hlt
                generalize stM (List.replicate (n + 1) (c : Int)) = sm at *
                generalize stD (List.replicate (n + 1) (c : Int)) = sd at *
                generalize smM (List.replicate (n + 1) (c : Int)) 4602678819172646912 = T at *
                go_wp2_with fail
                refine Calls.mono STA.out ?_
                rintro e w9 ⟨rfl, rfl⟩
                go_wp2_with fail
                refine Calls.mono SMH.out ?_
                rintro e wa9 ⟨⟨ut, rfl, ot⟩, st⟩
                have OT := hid ot
                have B9 := hid (B7.out.trans (st.mono B7.out.size))
                obtain ⟨to, tc, rfl⟩ := (OL.reads eF_len ot).len0
                rw [z5]
                rw [z5] at OT
                clear ot st
                go_wp2_with fail
                go_loopw [24] (fun i wr => ∃ j : Nat, j ≤ n + 1 ∧ i = .int .i64 (j : Int) ∧ Below wa9.heap.size wa9 wr) (fun i _ => n + 1 - (intOf i).toNat)
                case atStart => exact ⟨0, by omega, rfl, Below.refl _ _⟩
                case round =>
                  obtain ⟨j, hj, rfl, hbx⟩ := hrel
                  have HBX := hid hbx
                  by_cases hlt : j < n + 1
                  · have hIj : (j : Int) < ((n + 1 : Nat) : Int) := by omega
                    obtain ⟨g2, o2, cc2, e2, hc2, d2⟩ := flt_at (OL.reads eF_len (OT.out.below hbx)) j (by omega)
                    rw [z5] at e2 hc2
                    cases e2
                    have ord := Z6.out j hlt (by omega)
                    have ord' := eqP ord
                    clear hbx
                    generalize T[j]'(by omega) = y at *
                    go_wp2_with fail
                    go_roundw
                    case rel => exact ⟨j + 1, by omega, by go_num, HBX.out⟩
                    case measure => simp [intOf]; omega
                  · obtain rfl : j = n + 1 := by omega
                    have BZ := hid (B9.out.trans (hbx.mono B9.out.size))
                    clear hbx
                    go_wp2
                    go_ret
                    exact ⟨rfl, BZ.out⟩
end Go.Proofs.YtgnnopjkbmbjbaaDoor
