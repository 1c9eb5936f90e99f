/-
  walked: the first days that Each goes over, in a list of one's own.
-/
import Derived.Test.YtjmainmidacmfaaDoorWalkG
namespace Go.Proofs.YtjmainmidacmfaaDoor
open Go.RowKit Go.Shelf
set_option maxRecDepth 100000
attribute [local go_sem] Oper.semAt_some

/-- how many walked tells -/
def wkK (n : Nat) (most : Int) : Nat := if most < 1 then 0 else min n most.toNat

set_option maxHeartbeats 2000000 in
theorem walked_any (y m d y' m' d' s most : Int) (w : World) (hA : HasAh w) :
    Calls Tryd.prog 19 #[dV y m d, dV y' m' d', .int .i64 s, .int .i64 most] w fun e w' => ∃ v, e = .returned v ∧
      w'.ownsRow w.heap.size 36 3 v (wkK (cnE (dn y m d) (dn y' m' d') (stE y m d y' m' d' s)) most) (dc (upE (dn y m d) (stE y m d y' m' d' s) (wkK (cnE (dn y m d) (dn y' m' d') (stE y m d y' m' d' s)) most))) ∧ Below w.heap.size w w' := by
  obtain ⟨i0, hi, hz0, hz1, hz2⟩ := info_parts dateinfo
  have HE := hid (fun w h => each_any y m d y' m' d' s w h)
  have ha := dn_in y m d
  have hb := dn_in y' m' d'
  have hs := stE_in y m d y' m' d' s
  generalize dn y m d = a at *
  generalize dn y' m' d' = b at *
  generalize stE y m d y' m' d' s = st at *
  have HA := hid hA
  have hN := cn_le a b st ha hb
  obtain ⟨KK, hKK⟩ : ∃ KK, wkK (cnE a b st) most = KK := ⟨_, rfl⟩
  rw [hKK]
  have HK := hid hKK
  clear hA hKK
  unfold dV at HE ⊢
  obtain ⟨W3, hW3⟩ : ∃ W3, (((w.alloc (.cells #[.int .i64 y, .int .i64 m, .int .i64 d] 36)).alloc (.cells #[.int .i64 y', .int .i64 m', .int .i64 d'] 36)).alloc (.cells #[.int .i64 most] 3)).alloc (.cells #[.slice none 0 0] 44) = W3 := ⟨_, rfl⟩
  have hB3 : Below w.heap.size w W3 := by
    rw [← hW3]
    exact ((((Below.refl _ _).alloc (Nat.le_refl _) _).alloc (by simp) _).alloc (by simp; omega) _).alloc (by simp; omega) _
  have hz3 : W3.heap.size = w.heap.size + 4 := by rw [← hW3]; simp
  have X0 := hid (show Box W3 w.heap.size y m d by
    rw [← hW3]
    exact (((Box.new w y m d).later (alloc_below _ _)).later (alloc_below _ _)).later (alloc_below _ _))
  have X1 := hid (show Box W3 (w.heap.size + 1) y' m' d' by
    rw [← hW3]
    have h := (Box.new (w.alloc (.cells #[.int .i64 y, .int .i64 m, .int .i64 d] 36)) y' m' d')
    rw [World.size_alloc] at h
    exact (h.later (alloc_below _ _)).later (alloc_below _ _))
  have bM := hid (show Boxed W3 (w.heap.size + 1 + 1) 3 (.int .i64 most) by
    rw [← hW3]
    have h := Boxed.new ((w.alloc (.cells #[.int .i64 y, .int .i64 m, .int .i64 d] 36)).alloc (.cells #[.int .i64 y', .int .i64 m', .int .i64 d'] 36)) 3 (.int .i64 most)
    simp only [World.size_alloc] at h
    exact h.alloc _)
  have bL := hid (show Boxed W3 (w.heap.size + 1 + 1 + 1) 44 (.slice none 0 0) by
    rw [← hW3]
    have h := Boxed.new (((w.alloc (.cells #[.int .i64 y, .int .i64 m, .int .i64 d] 36)).alloc (.cells #[.int .i64 y', .int .i64 m', .int .i64 d'] 36)).alloc (.cells #[.int .i64 most] 3)) 44 (.slice none 0 0)
    simp only [World.size_alloc] at h
    exact h)
  obtain ⟨k0, k1, k2, _⟩ := X0.out.facts
  obtain ⟨k0', k1', k2', _⟩ := X1.out.facts
  refine (callsIn_wide (n := 5)).1 ?_
  refine callsIn_of_wp_marks Tryd.func19 rfl trivial ?_ rfl
  simp only [Tryd.ntmps19, List.size_toArray, List.length_cons, List.length_nil, Nat.reduceAdd, Nat.reduceSub, Array.replicate_succ, Array.replicate_zero, List.push_toArray, List.append_toArray, List.nil_append, List.cons_append]
  gi_wp2_with fail
  refine ⟨trivial, ?_⟩
  refine (callsIn_wide.2 (HE.out _ (HA.out.below hB3))).mono ?_
  rintro e w4 ⟨⟨g1, g2, gs, rfl, hg1, hg2, hgs, hx1, hx2, hxs⟩, hb4⟩
  have HA4 := hid (HA.out.below (hB3.trans (hb4.mono hB3.size)))
  have HX1 := hid hx1
  have HX2 := hid hx2
  have HXs := hid hxs
  have HB4 := hid (hB3.trans (hb4.mono hB3.size))
  have bM4 := hid (show Boxed w4 (w.heap.size + 1 + 1) 3 (.int .i64 most) from (hb4.block _ bM.out.lt).trans bM.out)
  have bL4 := hid (show Boxed w4 (w.heap.size + 1 + 1 + 1) 44 (.slice none 0 0) from (hb4.block _ bL.out.lt).trans bL.out)
  have hz4 : w.heap.size + 4 ≤ w4.heap.size := by have := hb4.size; omega
  rw [hz3] at hg1 hg2 hgs
  have cM := bM4.out.cell
  have cL := bL4.out.cell
  have hG : 0 < w.heap.size := HA.out.lt
  clear hb4 hB3 hx1 hx2 hxs HE k0 k1 k2 k0' k1' k2' X0 X1 bM bL hW3 hz3 HA
  have hnn := each_notnil (.func 38) #[] #[.pointer (some ⟨g1, 0, none⟩), .pointer (some ⟨gs, 0, none⟩), .pointer (some ⟨g2, 0, none⟩)]
  by_cases hmost : most < 1
  · have hK0 : KK = 0 := by have := HK.out; unfold wkK at this; rw [if_pos hmost] at this; omega
    have HK0 := hid hK0
    clear hK0
    gi_wp2
    refine ⟨_, results_tmp rfl _ _ _, ?_⟩
    rw [HK0.out]
    exact ⟨_, rfl, World.ownsRow_nil _ _ _ _, HB4.out⟩
  · have HKm := hid (show KK = min (cnE a b st) most.toNat by have := HK.out; unfold wkK at this; rw [if_neg hmost] at this; omega)
    have hmost1 : 1 ≤ most := by omega
    gi_wp2_with fail
    refine wpIn_rangeFunc_ownH rfl (show 1 ≤ 5 by omega) (gf := 38) (lb := #[.pointer (some ⟨g1, 0, none⟩), .pointer (some ⟨gs, 0, none⟩), .pointer (some ⟨g2, 0, none⟩)]) rfl trivial (enters_of Tryd.func38 (by kernel_rfl) rfl)
      (each_stops 4 (by omega) g1 gs g2 a b st ha hb hs w4 HX1.out HX2.out HXs.out HA4.out) KpE.trans ?kb (Below.refl _ _) (fun _ => rfl)
      (fun pre W => ((∃ v, Boxed W (w.heap.size + 1 + 1 + 1) 44 v ∧ W.ownsRow w.heap.size 36 3 v pre.length (dc pre) ∧ True) ∧ (Boxed W (w.heap.size + 1 + 1) 3 (.int .i64 most) ∧ (Boxed W g1 3 (.int .i64 a) ∧ (Boxed W gs 3 (.int .i64 st) ∧ Boxed W g2 3 (.int .i64 b))))) ∧ (((pre.length : Int) < most) ∧ Below w.heap.size w W))
      (fun c pre W => ((∃ v, Boxed W (w.heap.size + 1 + 1 + 1) 44 v ∧ W.ownsRow w.heap.size 36 3 v pre.length (dc pre) ∧ True) ∧ (Boxed W (w.heap.size + 1 + 1) 3 (.int .i64 most) ∧ (Boxed W g1 3 (.int .i64 a) ∧ (Boxed W gs 3 (.int .i64 st) ∧ Boxed W g2 3 (.int .i64 b))))) ∧ ((c = .exit 0 ∧ (pre.length : Int) = most) ∧ Below w.heap.size w W))
      (OwnFrom.and (OwnFrom.and (Own.from (holdsRow_own w.heap.size (w.heap.size + 1 + 1 + 1) 44 36 3 (fun pre : List Int => pre.length) dc (fun _ _ => True)) _) (OwnFrom.and (Own.from (boxed_own _ _ _) _) (OwnFrom.and (Own.from (boxed_own _ _ _) _) (OwnFrom.and (Own.from (boxed_own _ _ _) _) (Own.from (boxed_own _ _ _) _))))) (OwnFrom.and (ownFrom_pure _ (fun pre : List Int => (pre.length : Int) < most)) (ownFrom_below (Nat.le_refl _) (by omega))))
      (fun c => (OwnFrom.and (OwnFrom.and (Own.from (holdsRow_own w.heap.size (w.heap.size + 1 + 1 + 1) 44 36 3 (fun pre : List Int => pre.length) dc (fun _ _ => True)) _) (OwnFrom.and (Own.from (boxed_own _ _ _) _) (OwnFrom.and (Own.from (boxed_own _ _ _) _) (OwnFrom.and (Own.from (boxed_own _ _ _) _) (Own.from (boxed_own _ _ _) _))))) (OwnFrom.and (ownFrom_pure _ (fun pre : List Int => c = .exit 0 ∧ (pre.length : Int) = most)) (ownFrom_below (Nat.le_refl _) (by omega)))))
      ⟨⟨⟨_, bL4.out, World.ownsRow_nil _ _ _ _, trivial⟩, bM4.out, HX1.out, HXs.out, HX2.out⟩, (by simp; omega), HB4.out⟩
      (fun x a' W => ∃ Bx, Box W Bx (dY x) (dM x) (dD x) ∧ a' = { tmps := #[.agg #[.int .i64 y, .int .i64 m, .int .i64 d], .agg #[.int .i64 y', .int .i64 m', .int .i64 d'], .int .i64 s, .int .i64 most, .pointer (some ⟨w.heap.size, 0, none⟩), .pointer (some ⟨w.heap.size + 1, 0, none⟩), undef, .pointer (some ⟨w.heap.size + 1 + 1, 0, none⟩), .slice none 0 0, .pointer (some ⟨w.heap.size + 1 + 1 + 1, 0, none⟩), .func (.func 38) #[] #[.pointer (some ⟨g1, 0, none⟩), .pointer (some ⟨gs, 0, none⟩), .pointer (some ⟨g2, 0, none⟩)], .pointer (some ⟨Bx, 0, none⟩), .agg #[.int .i64 y, .int .i64 m, .int .i64 d], .agg #[.int .i64 y', .int .i64 m', .int .i64 d'], .int .i64 s, .func (.func 38) #[] #[.pointer (some ⟨g1, 0, none⟩), .pointer (some ⟨gs, 0, none⟩), .pointer (some ⟨g2, 0, none⟩)], .func (.func 38) #[] #[.pointer (some ⟨g1, 0, none⟩), .pointer (some ⟨gs, 0, none⟩), .pointer (some ⟨g2, 0, none⟩)], .bool false, .bool false, .int .i64 most, .bool (decide (most < 1)), .bool (decide (most < 1)), undef, .func (.func 38) #[] #[.pointer (some ⟨g1, 0, none⟩), .pointer (some ⟨gs, 0, none⟩), .pointer (some ⟨g2, 0, none⟩)], .agg #[.int .i64 (dY x), .int .i64 (dM x), .int .i64 (dD x)], undef, undef, undef, undef, undef, undef, undef, undef, undef], defers := [] })
      (fun x a' _ X Y row hs hg hr => by obtain ⟨Bx, h2, h3⟩ := hs; exact ⟨Bx, h2.own hg (fun r e => (hr r e).2), h3⟩)
      ?assign ?body ?done ?stop
    case kb =>
      intro W l o o' hl hW _ _ k hk
      refine World.putObj_heap_other ?_
      have := HX1.out.facts.2.2; have := HX2.out.facts.2.2; have := HXs.out.facts.2.2; have := HA4.out.lt
      rcases hk with rfl | rfl | rfl | rfl <;> omega
    case assign =>
      rintro l pre x W K ⟨⟨⟨v, bv, hrow, _⟩, b1, b2, b3, b4⟩, hlen, hB⟩ hK
      have HKK := hid hK
      clear hK
      unfold dV
      gi_wp2
      exact HKK.out _ _ ((KeepsOthers.alloc _ _).from _) (KpE.below (alloc_below W _) b2.lt b3.lt b4.lt (by have := hB.size; omega)) ⟨⟨⟨v, bv.alloc _, hrow.alloc _, trivial⟩, b1.alloc _, b2.alloc _, b3.alloc _, b4.alloc _⟩, hlen, hB.alloc hB.size _⟩ ⟨W.heap.size, Box.new W _ _ _, rfl⟩
    case body =>
      rintro l pre x a' W hl _ ⟨⟨⟨v, bv, hrow, _⟩, b1, b2, b3, b4⟩, hlen, hB⟩ ⟨Bx, bX, rfl⟩ hlt
      obtain ⟨x0, x1, x2, _⟩ := bX.facts
      have cv := bv.cell
      have hcon : (pre.length : Int) + 1 < most ∨ (pre.length : Int) + 1 = most := by omega
      rcases hcon with hcon | hcon
      · gi_wp2_with (gi_at_builtin; refine wpListIn_append_own _ rfl _ _ 44 rfl w.heap.size 36 i0 (.agg #[.int .i64 0, .int .i64 0, .int .i64 0]) 3 24 Tryd.underlying44 hi hz0 hz1 hz2 rfl (by decide) _ _ _ rfl (hrow.alloc _) ⟨W.heap.size, 0, none⟩ 1 1 (dcE x) rfl rfl (three_new W x) (three_one x) (by unfold maxLen; omega) (by omega) (by have := hB.size; simp; omega) ?_; intro v' w1 hown' hgrow _; obtain ⟨g', cap', rfl⟩ := ownsRow_succ hown'; obtain ⟨hv1, hv2, hr2, hk2, hb2⟩ := bv.appended (by decide) hrow hB.size (by omega) hown' hgrow; have hc1 := hv1.cell; have hf1 := hv1.frozen; have hc2 := hv2.cell; have e1 := ((b1.alloc _).kept hgrow (b1.not_row (by decide) hrow)).other (show w.heap.size + 1 + 1 ≠ w.heap.size + 1 + 1 + 1 by omega) (.slice (some ⟨g', 0, none⟩) (pre.length + 1) cap'); have e2 := ((b2.alloc _).kept hgrow (b2.not_row (by decide) hrow)).other (show g1 ≠ w.heap.size + 1 + 1 + 1 by omega) (.slice (some ⟨g', 0, none⟩) (pre.length + 1) cap'); have e3 := ((b3.alloc _).kept hgrow (b3.not_row (by decide) hrow)).other (show gs ≠ w.heap.size + 1 + 1 + 1 by omega) (.slice (some ⟨g', 0, none⟩) (pre.length + 1) cap'); have e4 := ((b4.alloc _).kept hgrow (b4.not_row (by decide) hrow)).other (show g2 ≠ w.heap.size + 1 + 1 + 1 by omega) (.slice (some ⟨g', 0, none⟩) (pre.length + 1) cap'); have ce1 := e1.cell)
        exact ⟨hk2.from _, (fun k hk => by rcases hk with rfl | rfl | rfl | rfl; exact e2.trans (Eq.symm b2); exact e3.trans (Eq.symm b3); exact e4.trans (Eq.symm b4); exact hb2.block _ hG), ⟨⟨⟨_, hv2, by rw [dc_snoc, List.length_append]; exact hr2, trivial⟩, e1, e2, e3, e4⟩, by rw [List.length_append]; simpa using hcon, hB.trans hb2⟩⟩
      · gi_wp2_with (gi_at_builtin; refine wpListIn_append_own _ rfl _ _ 44 rfl w.heap.size 36 i0 (.agg #[.int .i64 0, .int .i64 0, .int .i64 0]) 3 24 Tryd.underlying44 hi hz0 hz1 hz2 rfl (by decide) _ _ _ rfl (hrow.alloc _) ⟨W.heap.size, 0, none⟩ 1 1 (dcE x) rfl rfl (three_new W x) (three_one x) (by unfold maxLen; omega) (by omega) (by have := hB.size; simp; omega) ?_; intro v' w1 hown' hgrow _; obtain ⟨g', cap', rfl⟩ := ownsRow_succ hown'; obtain ⟨hv1, hv2, hr2, hk2, hb2⟩ := bv.appended (by decide) hrow hB.size (by omega) hown' hgrow; have hc1 := hv1.cell; have hf1 := hv1.frozen; have hc2 := hv2.cell; have e1 := ((b1.alloc _).kept hgrow (b1.not_row (by decide) hrow)).other (show w.heap.size + 1 + 1 ≠ w.heap.size + 1 + 1 + 1 by omega) (.slice (some ⟨g', 0, none⟩) (pre.length + 1) cap'); have e2 := ((b2.alloc _).kept hgrow (b2.not_row (by decide) hrow)).other (show g1 ≠ w.heap.size + 1 + 1 + 1 by omega) (.slice (some ⟨g', 0, none⟩) (pre.length + 1) cap'); have e3 := ((b3.alloc _).kept hgrow (b3.not_row (by decide) hrow)).other (show gs ≠ w.heap.size + 1 + 1 + 1 by omega) (.slice (some ⟨g', 0, none⟩) (pre.length + 1) cap'); have e4 := ((b4.alloc _).kept hgrow (b4.not_row (by decide) hrow)).other (show g2 ≠ w.heap.size + 1 + 1 + 1 by omega) (.slice (some ⟨g', 0, none⟩) (pre.length + 1) cap'); have ce1 := e1.cell)
        exact ⟨hk2.from _, ⟨⟨⟨_, hv2, by rw [dc_snoc, List.length_append]; exact hr2, trivial⟩, e1, e2, e3, e4⟩, ⟨rfl, by rw [List.length_append]; simpa using hcon⟩, hB.trans hb2⟩⟩
    case done =>
      rintro D ys W hD rfl ⟨⟨⟨v, bv, hrow, _⟩, b1, b2, b3, b4⟩, hlen, hB⟩ hK
      have cv := bv.cell
      rw [upE_len] at hrow hlen
      have hkk : KK = cnE a b st := by have := HKm.out; omega
      have HKK := hid hkk
      clear hkk
      gi_wp2
      refine ⟨by simp, .inl ⟨_, _, rfl, run_takeDeferred hK, ?_⟩⟩
      rw [HKK.out]
      exact ⟨_, results_tmp rfl _ _ _, v, rfl, ownsRow_putObj hrow _ hK rfl, hB.trans (belowK_b (w := w) (Nat.le_refl _) W D _ _ (by omega) hK rfl rfl)⟩
    case stop =>
      rintro D c pre W hD ⟨k, hk, rfl⟩ ⟨⟨⟨v, bv, hrow, _⟩, b1, b2, b3, b4⟩, ⟨rfl, hlen⟩, hB⟩ hK
      have cv := bv.cell
      rw [upE_len] at hrow hlen
      have hkk : KK = k := by have := HKm.out; omega
      have HKK := hid hkk
      clear hkk
      gi_wp2
      refine ⟨by simp, .inl ⟨_, _, rfl, run_takeDeferred hK, ?_⟩⟩
      rw [HKK.out]
      exact ⟨_, results_tmp rfl _ _ _, v, rfl, ownsRow_putObj hrow _ hK rfl, hB.trans (belowK_b (w := w) (Nat.le_refl _) W D _ _ (by omega) hK rfl rfl)⟩
end Go.Proofs.YtjmainmidacmfaaDoor
