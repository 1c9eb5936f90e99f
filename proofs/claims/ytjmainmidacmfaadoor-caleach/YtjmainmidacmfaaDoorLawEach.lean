/-
  CalEach: the law's own walk, out of the contracts.
-/
import Derived.Test.YtjmainmidacmfaaDoorRngB
import Derived.Test.YtjmainmidacmfaaDoorRlist2
namespace Go.Proofs.YtjmainmidacmfaaDoor
open Go.RowKit Go.Shelf
set_option maxRecDepth 100000
attribute [local go_sem] Oper.semAt_some

theorem tmod_1000 (n : Int) : -999 ≤ n.tmod 1000 ∧ n.tmod 1000 ≤ 999 := by
  by_cases h : 0 ≤ n
  · rw [Int.tmod_eq_emod_of_nonneg h]
    omega
  · obtain ⟨x, hx⟩ : ∃ x : Nat, n = -(x : Int) := ⟨(-n).toNat, by omega⟩
    rw [hx, Int.neg_tmod, Int.tmod_eq_emod_of_nonneg (by omega)]
    omega

theorem wk_le (n : Nat) (most : Int) : wkK n most ≤ n := by
  unfold wkK
  split <;> omega

/-- what the law's rounds lean on -/
def LE (w0 : World) (y m d y' m' d' nn : Int) (g1 gs g2 : Nat) (a b st : Int) (w : World) : Prop :=
  HasAh w ∧ Below w0.heap.size w0 w ∧ Box w w0.heap.size y m d ∧ Box w (w0.heap.size + 1) y' m' d' ∧ IBox w (w0.heap.size + 1 + 1) nn ∧ IBox w g1 a ∧ IBox w gs st ∧ IBox w g2 b
theorem LE.call {w0 : World} {y m d y' m' d' nn : Int} {g1 gs g2 : Nat} {a b st : Int} {w w' : World} (h : LE w0 y m d y' m' d' nn g1 gs g2 a b st w) (hb : Below w.heap.size w w') : LE w0 y m d y' m' d' nn g1 gs g2 a b st w' :=
  ⟨h.1.below hb, h.2.1.trans (hb.mono h.2.1.size), h.2.2.1.later hb, h.2.2.2.1.later hb, h.2.2.2.2.1.later hb, h.2.2.2.2.2.1.later hb, h.2.2.2.2.2.2.1.later hb, h.2.2.2.2.2.2.2.later hb⟩
/-- ahead of Each -/
def LF (w0 : World) (y m d y' m' d' nn : Int) (w : World) : Prop :=
  HasAh w ∧ Below w0.heap.size w0 w ∧ Box w w0.heap.size y m d ∧ Box w (w0.heap.size + 1) y' m' d' ∧ IBox w (w0.heap.size + 1 + 1) nn
theorem LF.call {w0 : World} {y m d y' m' d' nn : Int} {w w' : World} (h : LF w0 y m d y' m' d' nn w) (hb : Below w.heap.size w w') : LF w0 y m d y' m' d' nn w' :=
  ⟨h.1.below hb, h.2.1.trans (hb.mono h.2.1.size), h.2.2.1.later hb, h.2.2.2.1.later hb, h.2.2.2.2.later hb⟩

set_option maxHeartbeats 1000000 in
theorem eachlaw_any (y m d y' m' d' s most : Int) (w : World) (hA : HasAh w) :
    Calls Tryd.prog 8 #[dV y m d, dV y' m' d', .int .i64 s, .int .i64 most] w fun e w' => e = .returned (.bool true) ∧ Below w.heap.size w w' := by
  obtain ⟨i0, hi, hz0, hz1, hz2⟩ := info_parts dateinfo
  have HE := hid (fun w h => each_any y m d y' m' d' s w h)
  have HW := hid (fun mo w h => walked_any y m d y' m' d' s mo w h)
  have HL := hid (fun mo w => refList_any y m d y' m' d' s mo w)
  have ha := dn_in y m d
  have hb := dn_in y' m' d'
  have hst := stE_in y m d y' m' d' s
  generalize dn y m d = a at *
  generalize dn y' m' d' = b at *
  generalize stE y m d y' m' d' s = st at *
  have hN := cn_le a b st ha hb
  have hr := tmod_1000 most
  obtain ⟨r, hre⟩ : ∃ r, most.tmod 1000 = r := ⟨_, rfl⟩
  rw [hre] at hr
  obtain ⟨hr0, hr1⟩ := hr
  unfold dV at HE HW HL ⊢
  have HA := hid hA
  clear hA
  have F0 := hid (show LF w y m d y' m' d' r (((w.alloc (.cells #[.int .i64 y, .int .i64 m, .int .i64 d] 36)).alloc (.cells #[.int .i64 y', .int .i64 m', .int .i64 d'] 36)).alloc (.cells #[.int .i64 r] 3)) from
    ⟨((HA.out.alloc _).alloc _).alloc _, (((Below.refl _ _).alloc (Nat.le_refl _) _).alloc (by simp) _).alloc (by simp; omega) _, ((Box.new w y m d).later (alloc_below _ _)).later (alloc_below _ _), by
      have h := Box.new (w.alloc (.cells #[.int .i64 y, .int .i64 m, .int .i64 d] 36)) y' m' d'
      rw [World.size_alloc] at h
      exact h.later (alloc_below _ _), by
      have h : IBox _ _ r := heap_alloc_new ((w.alloc (.cells #[.int .i64 y, .int .i64 m, .int .i64 d] 36)).alloc (.cells #[.int .i64 y', .int .i64 m', .int .i64 d'] 36)) (.cells #[.int .i64 r] 3)
      simp only [World.size_alloc] at h
      exact h⟩)
  obtain ⟨wa, hwa⟩ : ∃ wa, ((w.alloc (.cells #[.int .i64 y, .int .i64 m, .int .i64 d] 36)).alloc (.cells #[.int .i64 y', .int .i64 m', .int .i64 d'] 36)).alloc (.cells #[.int .i64 r] 3) = wa := ⟨_, rfl⟩
  rw [hwa] at F0
  have F1 := hid (show LF w y m d y' m' d' (-r) (wa.setCell ⟨w.heap.size + 1 + 1, 0, none⟩ (.int .i64 (-r))) from by
    obtain ⟨f1, f2, f3, f4, f5⟩ := F0.out
    refine ⟨f1.belowAt ((Below.refl (w.heap.size + 1 + 1) wa).setCell (Nat.le_refl _) _) (by have := HA.out.lt; omega), f2.setCell (by show w.heap.size ≤ w.heap.size + 1 + 1; omega) _, ?_, ?_, f5.put _⟩
    · exact f3.below ((Below.refl (w.heap.size + 1 + 1) wa).setCell (Nat.le_refl _) _) (by omega)
    · exact f4.below ((Below.refl (w.heap.size + 1 + 1) wa).setCell (Nat.le_refl _) _) (by omega))
  obtain ⟨a0, a1, a2, _⟩ := F0.out.2.2.1.facts
  obtain ⟨c0, c1, c2, _⟩ := F0.out.2.2.2.1.facts
  obtain ⟨n0, nf, _⟩ := F0.out.2.2.2.2.facts
  obtain ⟨a0', a1', a2', _⟩ := F1.out.2.2.1.facts
  obtain ⟨c0', c1', c2', _⟩ := F1.out.2.2.2.1.facts
  obtain ⟨n0', _, _⟩ := F1.out.2.2.2.2.facts
  refine (callsIn_wide (n := 5)).1 ?_
  refine callsIn_of_wp_marks Tryd.func8 rfl trivial ?_ rfl
  simp only [Tryd.ntmps8, List.size_toArray, List.length_cons, List.length_nil, Nat.reduceAdd, Nat.reduceSub, Array.replicate_succ, Array.replicate_zero, List.push_toArray, List.append_toArray, List.nil_append, List.cons_append]
  by_cases hneg : r < 0
  · gi_wp2_with fail
    have FSx := F1
    obtain ⟨nn, hnn⟩ : ∃ nn, -r = nn := ⟨_, rfl⟩
    rw [hnn] at FSx a0' a1' a2' c0' c1' c2' n0' ⊢
    have hnn0 : 0 ≤ nn := by omega
    have hnn1 : nn ≤ 999 := by omega
    clear F0 F1 a0 a1 a2 c0 c1 c2 n0 nf
    generalize wa.setCell ⟨w.heap.size + 1 + 1, 0, none⟩ (.int .i64 nn) = wS at *
    clear hwa
    have a0 := a0'
    have a1 := a1'
    have a2 := a2'
    have c0 := c0'
    have c1 := c1'
    have c2 := c2'
    have n0 := n0'
    clear a0' a1' a2' c0' c1' c2' n0' hnn
    refine ⟨trivial, ?_⟩
    refine (callsIn_wide.2 (HW.out _ _ FSx.out.1)).mono ?_
    rintro e w1 ⟨v1, rfl, hrow1, hb1⟩
    have R1 := hid (RD.of_row hrow1)
    have F2 := hid (FSx.out.call hb1)
    clear hb1 hrow1 a0 a1 a2 c0 c1 c2 n0 FSx
    obtain ⟨a0, a1, a2, _⟩ := F2.out.2.2.1.facts
    obtain ⟨c0, c1, c2, _⟩ := F2.out.2.2.2.1.facts
    obtain ⟨n0, _, _⟩ := F2.out.2.2.2.2.facts
    gi_wp2_with fail
    refine ⟨trivial, ?_⟩
    refine (callsIn_wide.2 (HL.out _ _)).mono ?_
    rintro e w2 ⟨⟨v2, rfl, hR2⟩, hb2⟩
    have Q1 := hid (R1.out.below hb2)
    have Q2 := hid hR2
    have F3 := hid (F2.out.call hb2)
    clear hb2 hR2 a0 a1 a2 c0 c1 c2 n0 F2 R1
    gi_wp2_with fail
    refine ⟨trivial, ?_⟩
    refine (callsIn_wide.2 (dates_any _ _ _ _ (Nat.le_trans (wk_le _ _) (by omega)) _ Q1.out Q2.out)).mono ?_
    rintro e w3 ⟨rfl, hb3⟩
    have F4 := hid (F3.out.call hb3)
    clear hb3 F3 Q1 Q2
    obtain ⟨a0, a1, a2, _⟩ := F4.out.2.2.1.facts
    obtain ⟨c0, c1, c2, _⟩ := F4.out.2.2.2.1.facts
    obtain ⟨n0, _, _⟩ := F4.out.2.2.2.2.facts
    gi_wp2_with fail
    refine ⟨trivial, ?_⟩
    refine (callsIn_wide.2 (HE.out _ F4.out.1)).mono ?_
    rintro e w4 ⟨⟨g1, g2, gs, rfl, hg1, hg2, hgs, hx1, hx2, hxs⟩, hb4⟩
    have L4 := hid (show LE w y m d y' m' d' nn g1 gs g2 a b st w4 from by
      obtain ⟨f1, f2, f3, f4, f5⟩ := F4.out.call hb4
      exact ⟨f1, f2, f3, f4, f5, hx1, hxs, hx2⟩)
    clear hb4 hx1 hx2 hxs F4 a0 a1 a2 c0 c1 c2 n0 hg1 hg2 hgs HW HE
    have hnn := each_notnil (.func 38) #[] #[.pointer (some ⟨g1, 0, none⟩), .pointer (some ⟨gs, 0, none⟩), .pointer (some ⟨g2, 0, none⟩)]
    gi_wp2_with fail
    refine wpIn_loop_rounds 3 ?_
    rw [roundsIn_succ]
    gi_wp2_with fail
    refine rangeB (px := 48) (bx := 15) (show 1 ≤ 5 by omega) rfl (enters_of Tryd.func38 (by kernel_rfl) rfl)
      (each_stops 4 (by omega) g1 gs g2 a b st ha hb hst _ (L4.out.call (alloc_below w4 _)).2.2.2.2.2.1 (L4.out.call (alloc_below w4 _)).2.2.2.2.2.2.2 (L4.out.call (alloc_below w4 _)).2.2.2.2.2.2.1 (L4.out.call (alloc_below w4 _)).1) KpE.trans ?kb (Below.refl _ _)
      (fun pre W => (∃ v, Boxed W w4.heap.size 44 v ∧ W.ownsRow w4.heap.size 36 3 v pre.length (dc pre) ∧ True) ∧ ((pre.length : Int) ≤ nn ∧ Below w4.heap.size w4 W))
      (fun pre W => (∃ v, Boxed W w4.heap.size 44 v ∧ W.ownsRow w4.heap.size 36 3 v pre.length (dc pre) ∧ True) ∧ ((pre.length : Int) = nn + 1 ∧ Below w4.heap.size w4 W))
      (OwnFrom.and (Own.from (holdsRow_own w4.heap.size w4.heap.size 44 36 3 (fun pre : List Int => pre.length) dc (fun _ _ => True)) _) (OwnFrom.and (ownFrom_pure _ (fun pre : List Int => (pre.length : Int) ≤ nn)) (ownFrom_below (Nat.le_refl _) (by simp))))
      (OwnFrom.and (Own.from (holdsRow_own w4.heap.size w4.heap.size 44 36 3 (fun pre : List Int => pre.length) dc (fun _ _ => True)) _) (OwnFrom.and (ownFrom_pure _ (fun pre : List Int => (pre.length : Int) = nn + 1)) (ownFrom_below (Nat.le_refl _) (by simp))))
      ⟨⟨_, Boxed.new w4 _ _, World.ownsRow_nil _ _ _ _, trivial⟩, by simpa using hnn0, alloc_below _ _⟩
      ?assign ?body (fun W => (∃ v, Boxed W w4.heap.size 44 v ∧ RD W v (wkK (cnE a b st) (nn + 1)) (fun j => a + (j : Int) * st)) ∧ Below w4.heap.size w4 W) ?done ?stop ?go
    case kb =>
      intro W l o o' hl hW _ _ k hk
      refine World.putObj_heap_other ?_
      have q1 := L4.out.2.2.2.2.2.1.facts.2.2
      have q2 := L4.out.2.2.2.2.2.2.1.facts.2.2
      have q3 := L4.out.2.2.2.2.2.2.2.facts.2.2
      have q4 := L4.out.1.lt
      have hl2 : w4.heap.size + 1 ≤ l := by simpa using hl
      rcases hk with rfl | rfl | rfl | rfl <;> omega
    case assign =>
      rintro l pre x W K ⟨⟨v, bv, hrow, _⟩, hlen, hB⟩ hK
      have HKK := hid hK
      have q1 := L4.out.2.2.2.2.2.1.facts.2.2
      have q2 := L4.out.2.2.2.2.2.2.1.facts.2.2
      have q3 := L4.out.2.2.2.2.2.2.2.facts.2.2
      have q4 := L4.out.1.lt
      have q5 := hB.size
      have KPE := hid (KpE.below (g1 := g1) (gs := gs) (g2 := g2) (alloc_below W (.cells #[.int .i64 (dY x), .int .i64 (dM x), .int .i64 (dD x)] 36)) (by omega) (by omega) (by omega) (by omega))
      clear hK q1 q2 q3 q4 q5
      unfold dV
      gi_wp2
      exact HKK.out _ _ ((KeepsOthers.alloc _ _).from _) KPE.out ⟨⟨v, bv.alloc _, hrow.alloc _, trivial⟩, hlen, hB.alloc hB.size _⟩ ⟨W.heap.size, Box.new W _ _ _, rfl⟩
    case body =>
      rintro l pre x Bx W ⟨⟨v, bv, hrow, _⟩, hlen, hB⟩ bX hlt
      unfold dV
      simp only [List.setIfInBounds_toArray, List.set_cons_succ, List.set_cons_zero]
      obtain ⟨x0, x1, x2, _⟩ := bX.facts
      have cv := bv.cell
      have q1 := L4.out.2.2.2.2.2.1.facts.2.2
      have q2 := L4.out.2.2.2.2.2.2.1.facts.2.2
      have q3 := L4.out.2.2.2.2.2.2.2.facts.2.2
      have q4 := L4.out.1.lt
      have q5 := L4.out.2.2.2.2.1.facts.2.2
      have LW := hid (L4.out.call hB)
      have hcon : (pre.length : Int) + 1 ≤ nn ∨ (pre.length : Int) = nn := by omega
      rcases hcon with hcon | hcon
      · gi_wp2_with (gi_at_builtin; refine wpListIn_append_own _ rfl _ _ 44 rfl w4.heap.size 36 i0 (.agg #[.int .i64 0, .int .i64 0, .int .i64 0]) 3 24 Tryd.underlying44 hi hz0 hz1 hz2 rfl (by decide) _ _ _ rfl (hrow.alloc _) ⟨W.heap.size, 0, none⟩ 1 1 (dcE x) rfl rfl (three_new W x) (three_one x) (by unfold maxLen; omega) (by omega) (by have := hB.size; simp; omega) ?_; intro v' w1 hown' hgrow _; obtain ⟨g', cap', rfl⟩ := ownsRow_succ hown'; obtain ⟨hv1, hv2, hr2, hk2, hb2⟩ := bv.appended (by decide) hrow hB.size (Nat.le_refl _) hown' hgrow; have hc1 := hv1.cell; have hf1 := hv1.frozen; have hc2 := hv2.cell; have hcn := (show IBox _ _ _ from (hb2.block _ q5).trans LW.out.2.2.2.2.1).facts.1)
        exact ⟨hk2.from _, KpE.below hb2 q1 q2 q3 q4, ⟨⟨_, hv2, by rw [dc_snoc, List.length_append]; exact hr2, trivial⟩, by rw [List.length_append]; simpa using hcon, hB.trans hb2⟩⟩
      · have HCON := hid hcon
        have hcon2 : nn < (pre.length : Int) + 1 := by omega
        clear hcon
        gi_wp2_with (gi_at_builtin; refine wpListIn_append_own _ rfl _ _ 44 rfl w4.heap.size 36 i0 (.agg #[.int .i64 0, .int .i64 0, .int .i64 0]) 3 24 Tryd.underlying44 hi hz0 hz1 hz2 rfl (by decide) _ _ _ rfl (hrow.alloc _) ⟨W.heap.size, 0, none⟩ 1 1 (dcE x) rfl rfl (three_new W x) (three_one x) (by unfold maxLen; omega) (by omega) (by have := hB.size; simp; omega) ?_; intro v' w1 hown' hgrow _; obtain ⟨g', cap', rfl⟩ := ownsRow_succ hown'; obtain ⟨hv1, hv2, hr2, hk2, hb2⟩ := bv.appended (by decide) hrow hB.size (Nat.le_refl _) hown' hgrow; have hc1 := hv1.cell; have hf1 := hv1.frozen; have hc2 := hv2.cell; have hcn := (show IBox _ _ _ from (hb2.block _ q5).trans LW.out.2.2.2.2.1).facts.1)
        exact ⟨hk2.from _, rfl, ⟨⟨_, hv2, by rw [dc_snoc, List.length_append]; exact hr2, trivial⟩, by rw [List.length_append]; simpa using HCON.out, hB.trans hb2⟩⟩
    case done =>
      rintro xs W rfl ⟨⟨v, bv, hrow, _⟩, hlen, hB⟩
      rw [upE_len] at hrow hlen
      refine ⟨⟨v, bv, ?_⟩, hB⟩
      rw [show wkK (cnE a b st) (nn + 1) = cnE a b st by unfold wkK; rw [if_neg (by omega)]; omega]
      exact RD.of_row hrow
    case stop =>
      rintro pre W ⟨k, hk, rfl⟩ ⟨⟨v, bv, hrow, _⟩, hlen, hB⟩
      rw [upE_len] at hrow hlen
      refine ⟨⟨v, bv, ?_⟩, hB⟩
      rw [show wkK (cnE a b st) (nn + 1) = k by unfold wkK; rw [if_neg (by omega)]; omega]
      exact RD.of_row hrow
    case go =>
      rintro D1 V5 hD1 ⟨⟨v5, bv5, hR5⟩, hB5⟩ hK1
      have LV := hid (L4.out.call hB5)
      have RV := hid hR5
      have BV := hid bv5
      have K1 := hid hK1
      have hD12 : w4.heap.size + 1 ≤ D1 := by simpa using hD1
      have hzD1 : w.heap.size ≤ w4.heap.size := L4.out.2.1.size
      obtain ⟨a0, a1, a2, _⟩ := LV.out.2.2.1.facts
      obtain ⟨c0, c1, c2, _⟩ := LV.out.2.2.2.1.facts
      obtain ⟨n0, _, _⟩ := LV.out.2.2.2.2.1.facts
      clear hB5 hR5 bv5 hK1 L4 hD1
      gi_wp2_with fail
      refine ⟨trivial, ?_⟩
      refine (callsIn_wide.2 (HL.out _ _)).mono ?_
      rintro e V6 ⟨⟨v6, rfl, hR6⟩, hb6⟩
      have R5 := hid (RV.out.below hb6)
      have R6 := hid hR6
      have BV6 := hid (show Boxed V6 w4.heap.size 44 v5 from (hb6.block _ BV.out.lt).trans BV.out)
      have LV6 := hid (LV.out.call hb6)
      have K16 := hid ((hb6.block D1 (Array.getElem?_eq_some_iff.1 K1.out).1).trans K1.out)
      have cv6 := BV6.out.cell
      clear hb6 hR6 a0 a1 a2 c0 c1 c2 n0 LV RV BV K1
      gi_wp2_with fail
      refine ⟨trivial, ?_⟩
      refine (callsIn_wide.2 (dates_any _ _ _ _ (Nat.le_trans (wk_le _ _) (by omega)) _ R5.out R6.out)).mono ?_
      rintro e w5 ⟨rfl, hb7⟩
      have L5 := hid (LV6.out.call hb7)
      have K5 := hid ((hb7.block D1 (Array.getElem?_eq_some_iff.1 K16.out).1).trans K16.out)
      clear hb7 LV6 R5 R6 BV6 K16 cv6
      gi_wp2_with fail
      rw [roundsIn_succ]
      gi_wp2_with fail
      refine rangeB (px := 48) (bx := 15) (show 1 ≤ 5 by omega) rfl (enters_of Tryd.func38 (by kernel_rfl) rfl)
        (each_stops 4 (by omega) g1 gs g2 a b st ha hb hst _ (L5.out.call (alloc_below w5 _)).2.2.2.2.2.1 (L5.out.call (alloc_below w5 _)).2.2.2.2.2.2.2 (L5.out.call (alloc_below w5 _)).2.2.2.2.2.2.1 (L5.out.call (alloc_below w5 _)).1) KpE.trans ?kb (Below.refl _ _)
        (fun pre W => (∃ v, Boxed W w5.heap.size 44 v ∧ W.ownsRow w5.heap.size 36 3 v pre.length (dc pre) ∧ True) ∧ ((pre.length : Int) ≤ nn ∧ Below w5.heap.size w5 W))
        (fun pre W => (∃ v, Boxed W w5.heap.size 44 v ∧ W.ownsRow w5.heap.size 36 3 v pre.length (dc pre) ∧ True) ∧ ((pre.length : Int) = nn + 1 ∧ Below w5.heap.size w5 W))
        (OwnFrom.and (Own.from (holdsRow_own w5.heap.size w5.heap.size 44 36 3 (fun pre : List Int => pre.length) dc (fun _ _ => True)) _) (OwnFrom.and (ownFrom_pure _ (fun pre : List Int => (pre.length : Int) ≤ nn)) (ownFrom_below (Nat.le_refl _) (by simp))))
        (OwnFrom.and (Own.from (holdsRow_own w5.heap.size w5.heap.size 44 36 3 (fun pre : List Int => pre.length) dc (fun _ _ => True)) _) (OwnFrom.and (ownFrom_pure _ (fun pre : List Int => (pre.length : Int) = nn + 1)) (ownFrom_below (Nat.le_refl _) (by simp))))
        ⟨⟨_, Boxed.new w5 _ _, World.ownsRow_nil _ _ _ _, trivial⟩, by simpa using hnn0, alloc_below _ _⟩
        ?assign ?body (fun W => (∃ v, Boxed W w5.heap.size 44 v ∧ RD W v (wkK (cnE a b st) (nn + 1)) (fun j => a + (j : Int) * st)) ∧ Below w5.heap.size w5 W) ?done ?stop ?go
      case kb =>
        intro W l o o' hl hW _ _ k hk
        refine World.putObj_heap_other ?_
        have q1 := L5.out.2.2.2.2.2.1.facts.2.2
        have q2 := L5.out.2.2.2.2.2.2.1.facts.2.2
        have q3 := L5.out.2.2.2.2.2.2.2.facts.2.2
        have q4 := L5.out.1.lt
        have hl2 : w5.heap.size + 1 ≤ l := by simpa using hl
        rcases hk with rfl | rfl | rfl | rfl <;> omega
      case assign =>
        rintro l pre x W K ⟨⟨v, bv, hrow, _⟩, hlen, hB⟩ hK
        have HKK := hid hK
        have q1 := L5.out.2.2.2.2.2.1.facts.2.2
        have q2 := L5.out.2.2.2.2.2.2.1.facts.2.2
        have q3 := L5.out.2.2.2.2.2.2.2.facts.2.2
        have q4 := L5.out.1.lt
        have q5 := hB.size
        have KPE := hid (KpE.below (g1 := g1) (gs := gs) (g2 := g2) (alloc_below W (.cells #[.int .i64 (dY x), .int .i64 (dM x), .int .i64 (dD x)] 36)) (by omega) (by omega) (by omega) (by omega))
        clear hK q1 q2 q3 q4 q5
        unfold dV
        gi_wp2
        exact HKK.out _ _ ((KeepsOthers.alloc _ _).from _) KPE.out ⟨⟨v, bv.alloc _, hrow.alloc _, trivial⟩, hlen, hB.alloc hB.size _⟩ ⟨W.heap.size, Box.new W _ _ _, rfl⟩
      case body =>
        rintro l pre x Bx W ⟨⟨v, bv, hrow, _⟩, hlen, hB⟩ bX hlt
        unfold dV
        simp only [List.setIfInBounds_toArray, List.set_cons_succ, List.set_cons_zero]
        obtain ⟨x0, x1, x2, _⟩ := bX.facts
        have cv := bv.cell
        have q1 := L5.out.2.2.2.2.2.1.facts.2.2
        have q2 := L5.out.2.2.2.2.2.2.1.facts.2.2
        have q3 := L5.out.2.2.2.2.2.2.2.facts.2.2
        have q4 := L5.out.1.lt
        have q5 := L5.out.2.2.2.2.1.facts.2.2
        have LW := hid (L5.out.call hB)
        have hcon : (pre.length : Int) + 1 ≤ nn ∨ (pre.length : Int) = nn := by omega
        rcases hcon with hcon | hcon
        · gi_wp2_with (gi_at_builtin; refine wpListIn_append_own _ rfl _ _ 44 rfl w5.heap.size 36 i0 (.agg #[.int .i64 0, .int .i64 0, .int .i64 0]) 3 24 Tryd.underlying44 hi hz0 hz1 hz2 rfl (by decide) _ _ _ rfl (hrow.alloc _) ⟨W.heap.size, 0, none⟩ 1 1 (dcE x) rfl rfl (three_new W x) (three_one x) (by unfold maxLen; omega) (by omega) (by have := hB.size; simp; omega) ?_; intro v' w1 hown' hgrow _; obtain ⟨g', cap', rfl⟩ := ownsRow_succ hown'; obtain ⟨hv1, hv2, hr2, hk2, hb2⟩ := bv.appended (by decide) hrow hB.size (Nat.le_refl _) hown' hgrow; have hc1 := hv1.cell; have hf1 := hv1.frozen; have hc2 := hv2.cell; have hcn := (show IBox _ _ _ from (hb2.block _ q5).trans LW.out.2.2.2.2.1).facts.1)
          exact ⟨hk2.from _, KpE.below hb2 q1 q2 q3 q4, ⟨⟨_, hv2, by rw [dc_snoc, List.length_append]; exact hr2, trivial⟩, by rw [List.length_append]; simpa using hcon, hB.trans hb2⟩⟩
        · have HCON := hid hcon
          have hcon2 : nn < (pre.length : Int) + 1 := by omega
          clear hcon
          gi_wp2_with (gi_at_builtin; refine wpListIn_append_own _ rfl _ _ 44 rfl w5.heap.size 36 i0 (.agg #[.int .i64 0, .int .i64 0, .int .i64 0]) 3 24 Tryd.underlying44 hi hz0 hz1 hz2 rfl (by decide) _ _ _ rfl (hrow.alloc _) ⟨W.heap.size, 0, none⟩ 1 1 (dcE x) rfl rfl (three_new W x) (three_one x) (by unfold maxLen; omega) (by omega) (by have := hB.size; simp; omega) ?_; intro v' w1 hown' hgrow _; obtain ⟨g', cap', rfl⟩ := ownsRow_succ hown'; obtain ⟨hv1, hv2, hr2, hk2, hb2⟩ := bv.appended (by decide) hrow hB.size (Nat.le_refl _) hown' hgrow; have hc1 := hv1.cell; have hf1 := hv1.frozen; have hc2 := hv2.cell; have hcn := (show IBox _ _ _ from (hb2.block _ q5).trans LW.out.2.2.2.2.1).facts.1)
          exact ⟨hk2.from _, rfl, ⟨⟨_, hv2, by rw [dc_snoc, List.length_append]; exact hr2, trivial⟩, by rw [List.length_append]; simpa using HCON.out, hB.trans hb2⟩⟩
      case done =>
        rintro xs W rfl ⟨⟨v, bv, hrow, _⟩, hlen, hB⟩
        rw [upE_len] at hrow hlen
        refine ⟨⟨v, bv, ?_⟩, hB⟩
        rw [show wkK (cnE a b st) (nn + 1) = cnE a b st by unfold wkK; rw [if_neg (by omega)]; omega]
        exact RD.of_row hrow
      case stop =>
        rintro pre W ⟨k, hk, rfl⟩ ⟨⟨v, bv, hrow, _⟩, hlen, hB⟩
        rw [upE_len] at hrow hlen
        refine ⟨⟨v, bv, ?_⟩, hB⟩
        rw [show wkK (cnE a b st) (nn + 1) = k by unfold wkK; rw [if_neg (by omega)]; omega]
        exact RD.of_row hrow
      case go =>
        rintro D2 V5 hD2 ⟨⟨v5, bv5, hR5⟩, hB5⟩ hK2
        have LV := hid (L5.out.call hB5)
        have RV := hid hR5
        have BV := hid bv5
        have K2 := hid hK2
        have hD22 : w5.heap.size + 1 ≤ D2 := by simpa using hD2
        have hzD2 : w.heap.size ≤ w5.heap.size := L5.out.2.1.size
        have KV := hid ((hB5.block D1 (Array.getElem?_eq_some_iff.1 K5.out).1).trans K5.out)
        have hDlt : D1 < w5.heap.size := (Array.getElem?_eq_some_iff.1 K5.out).1
        obtain ⟨a0, a1, a2, _⟩ := LV.out.2.2.1.facts
        obtain ⟨c0, c1, c2, _⟩ := LV.out.2.2.2.1.facts
        obtain ⟨n0, _, _⟩ := LV.out.2.2.2.2.1.facts
        clear hB5 hR5 bv5 hK2 L5 hD2
        gi_wp2_with fail
        refine ⟨trivial, ?_⟩
        refine (callsIn_wide.2 (HL.out _ _)).mono ?_
        rintro e V6 ⟨⟨v6, rfl, hR6⟩, hb6⟩
        have R5 := hid (RV.out.below hb6)
        have R6 := hid hR6
        have BV6 := hid (show Boxed V6 w5.heap.size 44 v5 from (hb6.block _ BV.out.lt).trans BV.out)
        have LV6 := hid (LV.out.call hb6)
        have K26 := hid ((hb6.block D2 (Array.getElem?_eq_some_iff.1 K2.out).1).trans K2.out)
        have KV6 := hid ((hb6.block D1 (Array.getElem?_eq_some_iff.1 KV.out).1).trans KV.out)
        have cv6 := BV6.out.cell
        clear hb6 hR6 a0 a1 a2 c0 c1 c2 n0 LV RV BV K2
        gi_wp2_with fail
        refine ⟨trivial, ?_⟩
        refine (callsIn_wide.2 (dates_any _ _ _ _ (Nat.le_trans (wk_le _ _) (by omega)) _ R5.out R6.out)).mono ?_
        rintro e w8 ⟨rfl, hb7⟩
        have L8 := hid (LV6.out.call hb7)
        have K8 := hid ((hb7.block D2 (Array.getElem?_eq_some_iff.1 K26.out).1).trans K26.out)
        have K9 := hid ((hb7.block D1 (Array.getElem?_eq_some_iff.1 KV6.out).1).trans KV6.out)
        clear hb7 LV6 R5 R6 BV6 K26 cv6
        gi_wp2_with fail
        rw [roundsIn_succ]
        gi_wp2
        have hne : D2 ≠ D1 := by omega
        refine ⟨by simp, .inl ⟨_, _, rfl, run_takeDeferred K8.out, ?_⟩⟩
        have K10 := (World.putObj_heap_other (w := w8) (o := .deferred none) hne.symm).trans K9.out
        refine ⟨by simp, .inl ⟨_, _, rfl, run_takeDeferred K10, ?_⟩⟩
        exact ⟨_, results_tmp rfl _ _ _, rfl, (L8.out.2.1.trans (belowK_b (w := w) (Nat.le_refl _) w8 D2 _ _ (by omega) K8.out rfl rfl)).trans (belowK_b (w := w) (Nat.le_refl _) _ D1 _ _ (by omega) K10 rfl rfl)⟩
  · gi_wp2_with fail
    have FSx := F0
    obtain ⟨nn, hnn⟩ : ∃ nn, r = nn := ⟨_, rfl⟩
    rw [hnn] at FSx n0 ⊢
    have hnn0 : 0 ≤ nn := by omega
    have hnn1 : nn ≤ 999 := by omega
    clear F0 F1 a0' a1' a2' c0' c1' c2' n0' nf hwa hnn
    refine ⟨trivial, ?_⟩
    refine (callsIn_wide.2 (HW.out _ _ FSx.out.1)).mono ?_
    rintro e w1 ⟨v1, rfl, hrow1, hb1⟩
    have R1 := hid (RD.of_row hrow1)
    have F2 := hid (FSx.out.call hb1)
    clear hb1 hrow1 a0 a1 a2 c0 c1 c2 n0 FSx
    obtain ⟨a0, a1, a2, _⟩ := F2.out.2.2.1.facts
    obtain ⟨c0, c1, c2, _⟩ := F2.out.2.2.2.1.facts
    obtain ⟨n0, _, _⟩ := F2.out.2.2.2.2.facts
    gi_wp2_with fail
    refine ⟨trivial, ?_⟩
    refine (callsIn_wide.2 (HL.out _ _)).mono ?_
    rintro e w2 ⟨⟨v2, rfl, hR2⟩, hb2⟩
    have Q1 := hid (R1.out.below hb2)
    have Q2 := hid hR2
    have F3 := hid (F2.out.call hb2)
    clear hb2 hR2 a0 a1 a2 c0 c1 c2 n0 F2 R1
    gi_wp2_with fail
    refine ⟨trivial, ?_⟩
    refine (callsIn_wide.2 (dates_any _ _ _ _ (Nat.le_trans (wk_le _ _) (by omega)) _ Q1.out Q2.out)).mono ?_
    rintro e w3 ⟨rfl, hb3⟩
    have F4 := hid (F3.out.call hb3)
    clear hb3 F3 Q1 Q2
    obtain ⟨a0, a1, a2, _⟩ := F4.out.2.2.1.facts
    obtain ⟨c0, c1, c2, _⟩ := F4.out.2.2.2.1.facts
    obtain ⟨n0, _, _⟩ := F4.out.2.2.2.2.facts
    gi_wp2_with fail
    refine ⟨trivial, ?_⟩
    refine (callsIn_wide.2 (HE.out _ F4.out.1)).mono ?_
    rintro e w4 ⟨⟨g1, g2, gs, rfl, hg1, hg2, hgs, hx1, hx2, hxs⟩, hb4⟩
    have L4 := hid (show LE w y m d y' m' d' nn g1 gs g2 a b st w4 from by
      obtain ⟨f1, f2, f3, f4, f5⟩ := F4.out.call hb4
      exact ⟨f1, f2, f3, f4, f5, hx1, hxs, hx2⟩)
    clear hb4 hx1 hx2 hxs F4 a0 a1 a2 c0 c1 c2 n0 hg1 hg2 hgs HW HE
    have hnn := each_notnil (.func 38) #[] #[.pointer (some ⟨g1, 0, none⟩), .pointer (some ⟨gs, 0, none⟩), .pointer (some ⟨g2, 0, none⟩)]
    gi_wp2_with fail
    refine wpIn_loop_rounds 3 ?_
    rw [roundsIn_succ]
    gi_wp2_with fail
    refine rangeB (px := 48) (bx := 15) (show 1 ≤ 5 by omega) rfl (enters_of Tryd.func38 (by kernel_rfl) rfl)
      (each_stops 4 (by omega) g1 gs g2 a b st ha hb hst _ (L4.out.call (alloc_below w4 _)).2.2.2.2.2.1 (L4.out.call (alloc_below w4 _)).2.2.2.2.2.2.2 (L4.out.call (alloc_below w4 _)).2.2.2.2.2.2.1 (L4.out.call (alloc_below w4 _)).1) KpE.trans ?kb (Below.refl _ _)
      (fun pre W => (∃ v, Boxed W w4.heap.size 44 v ∧ W.ownsRow w4.heap.size 36 3 v pre.length (dc pre) ∧ True) ∧ ((pre.length : Int) ≤ nn ∧ Below w4.heap.size w4 W))
      (fun pre W => (∃ v, Boxed W w4.heap.size 44 v ∧ W.ownsRow w4.heap.size 36 3 v pre.length (dc pre) ∧ True) ∧ ((pre.length : Int) = nn + 1 ∧ Below w4.heap.size w4 W))
      (OwnFrom.and (Own.from (holdsRow_own w4.heap.size w4.heap.size 44 36 3 (fun pre : List Int => pre.length) dc (fun _ _ => True)) _) (OwnFrom.and (ownFrom_pure _ (fun pre : List Int => (pre.length : Int) ≤ nn)) (ownFrom_below (Nat.le_refl _) (by simp))))
      (OwnFrom.and (Own.from (holdsRow_own w4.heap.size w4.heap.size 44 36 3 (fun pre : List Int => pre.length) dc (fun _ _ => True)) _) (OwnFrom.and (ownFrom_pure _ (fun pre : List Int => (pre.length : Int) = nn + 1)) (ownFrom_below (Nat.le_refl _) (by simp))))
      ⟨⟨_, Boxed.new w4 _ _, World.ownsRow_nil _ _ _ _, trivial⟩, by simpa using hnn0, alloc_below _ _⟩
      ?assign ?body (fun W => (∃ v, Boxed W w4.heap.size 44 v ∧ RD W v (wkK (cnE a b st) (nn + 1)) (fun j => a + (j : Int) * st)) ∧ Below w4.heap.size w4 W) ?done ?stop ?go
    case kb =>
      intro W l o o' hl hW _ _ k hk
      refine World.putObj_heap_other ?_
      have q1 := L4.out.2.2.2.2.2.1.facts.2.2
      have q2 := L4.out.2.2.2.2.2.2.1.facts.2.2
      have q3 := L4.out.2.2.2.2.2.2.2.facts.2.2
      have q4 := L4.out.1.lt
      have hl2 : w4.heap.size + 1 ≤ l := by simpa using hl
      rcases hk with rfl | rfl | rfl | rfl <;> omega
    case assign =>
      rintro l pre x W K ⟨⟨v, bv, hrow, _⟩, hlen, hB⟩ hK
      have HKK := hid hK
      have q1 := L4.out.2.2.2.2.2.1.facts.2.2
      have q2 := L4.out.2.2.2.2.2.2.1.facts.2.2
      have q3 := L4.out.2.2.2.2.2.2.2.facts.2.2
      have q4 := L4.out.1.lt
      have q5 := hB.size
      have KPE := hid (KpE.below (g1 := g1) (gs := gs) (g2 := g2) (alloc_below W (.cells #[.int .i64 (dY x), .int .i64 (dM x), .int .i64 (dD x)] 36)) (by omega) (by omega) (by omega) (by omega))
      clear hK q1 q2 q3 q4 q5
      unfold dV
      gi_wp2
      exact HKK.out _ _ ((KeepsOthers.alloc _ _).from _) KPE.out ⟨⟨v, bv.alloc _, hrow.alloc _, trivial⟩, hlen, hB.alloc hB.size _⟩ ⟨W.heap.size, Box.new W _ _ _, rfl⟩
    case body =>
      rintro l pre x Bx W ⟨⟨v, bv, hrow, _⟩, hlen, hB⟩ bX hlt
      unfold dV
      simp only [List.setIfInBounds_toArray, List.set_cons_succ, List.set_cons_zero]
      obtain ⟨x0, x1, x2, _⟩ := bX.facts
      have cv := bv.cell
      have q1 := L4.out.2.2.2.2.2.1.facts.2.2
      have q2 := L4.out.2.2.2.2.2.2.1.facts.2.2
      have q3 := L4.out.2.2.2.2.2.2.2.facts.2.2
      have q4 := L4.out.1.lt
      have q5 := L4.out.2.2.2.2.1.facts.2.2
      have LW := hid (L4.out.call hB)
      have hcon : (pre.length : Int) + 1 ≤ nn ∨ (pre.length : Int) = nn := by omega
      rcases hcon with hcon | hcon
      · gi_wp2_with (gi_at_builtin; refine wpListIn_append_own _ rfl _ _ 44 rfl w4.heap.size 36 i0 (.agg #[.int .i64 0, .int .i64 0, .int .i64 0]) 3 24 Tryd.underlying44 hi hz0 hz1 hz2 rfl (by decide) _ _ _ rfl (hrow.alloc _) ⟨W.heap.size, 0, none⟩ 1 1 (dcE x) rfl rfl (three_new W x) (three_one x) (by unfold maxLen; omega) (by omega) (by have := hB.size; simp; omega) ?_; intro v' w1 hown' hgrow _; obtain ⟨g', cap', rfl⟩ := ownsRow_succ hown'; obtain ⟨hv1, hv2, hr2, hk2, hb2⟩ := bv.appended (by decide) hrow hB.size (Nat.le_refl _) hown' hgrow; have hc1 := hv1.cell; have hf1 := hv1.frozen; have hc2 := hv2.cell; have hcn := (show IBox _ _ _ from (hb2.block _ q5).trans LW.out.2.2.2.2.1).facts.1)
        exact ⟨hk2.from _, KpE.below hb2 q1 q2 q3 q4, ⟨⟨_, hv2, by rw [dc_snoc, List.length_append]; exact hr2, trivial⟩, by rw [List.length_append]; simpa using hcon, hB.trans hb2⟩⟩
      · have HCON := hid hcon
        have hcon2 : nn < (pre.length : Int) + 1 := by omega
        clear hcon
        gi_wp2_with (gi_at_builtin; refine wpListIn_append_own _ rfl _ _ 44 rfl w4.heap.size 36 i0 (.agg #[.int .i64 0, .int .i64 0, .int .i64 0]) 3 24 Tryd.underlying44 hi hz0 hz1 hz2 rfl (by decide) _ _ _ rfl (hrow.alloc _) ⟨W.heap.size, 0, none⟩ 1 1 (dcE x) rfl rfl (three_new W x) (three_one x) (by unfold maxLen; omega) (by omega) (by have := hB.size; simp; omega) ?_; intro v' w1 hown' hgrow _; obtain ⟨g', cap', rfl⟩ := ownsRow_succ hown'; obtain ⟨hv1, hv2, hr2, hk2, hb2⟩ := bv.appended (by decide) hrow hB.size (Nat.le_refl _) hown' hgrow; have hc1 := hv1.cell; have hf1 := hv1.frozen; have hc2 := hv2.cell; have hcn := (show IBox _ _ _ from (hb2.block _ q5).trans LW.out.2.2.2.2.1).facts.1)
        exact ⟨hk2.from _, rfl, ⟨⟨_, hv2, by rw [dc_snoc, List.length_append]; exact hr2, trivial⟩, by rw [List.length_append]; simpa using HCON.out, hB.trans hb2⟩⟩
    case done =>
      rintro xs W rfl ⟨⟨v, bv, hrow, _⟩, hlen, hB⟩
      rw [upE_len] at hrow hlen
      refine ⟨⟨v, bv, ?_⟩, hB⟩
      rw [show wkK (cnE a b st) (nn + 1) = cnE a b st by unfold wkK; rw [if_neg (by omega)]; omega]
      exact RD.of_row hrow
    case stop =>
      rintro pre W ⟨k, hk, rfl⟩ ⟨⟨v, bv, hrow, _⟩, hlen, hB⟩
      rw [upE_len] at hrow hlen
      refine ⟨⟨v, bv, ?_⟩, hB⟩
      rw [show wkK (cnE a b st) (nn + 1) = k by unfold wkK; rw [if_neg (by omega)]; omega]
      exact RD.of_row hrow
    case go =>
      rintro D1 V5 hD1 ⟨⟨v5, bv5, hR5⟩, hB5⟩ hK1
      have LV := hid (L4.out.call hB5)
      have RV := hid hR5
      have BV := hid bv5
      have K1 := hid hK1
      have hD12 : w4.heap.size + 1 ≤ D1 := by simpa using hD1
      have hzD1 : w.heap.size ≤ w4.heap.size := L4.out.2.1.size
      obtain ⟨a0, a1, a2, _⟩ := LV.out.2.2.1.facts
      obtain ⟨c0, c1, c2, _⟩ := LV.out.2.2.2.1.facts
      obtain ⟨n0, _, _⟩ := LV.out.2.2.2.2.1.facts
      clear hB5 hR5 bv5 hK1 L4 hD1
      gi_wp2_with fail
      refine ⟨trivial, ?_⟩
      refine (callsIn_wide.2 (HL.out _ _)).mono ?_
      rintro e V6 ⟨⟨v6, rfl, hR6⟩, hb6⟩
      have R5 := hid (RV.out.below hb6)
      have R6 := hid hR6
      have BV6 := hid (show Boxed V6 w4.heap.size 44 v5 from (hb6.block _ BV.out.lt).trans BV.out)
      have LV6 := hid (LV.out.call hb6)
      have K16 := hid ((hb6.block D1 (Array.getElem?_eq_some_iff.1 K1.out).1).trans K1.out)
      have cv6 := BV6.out.cell
      clear hb6 hR6 a0 a1 a2 c0 c1 c2 n0 LV RV BV K1
      gi_wp2_with fail
      refine ⟨trivial, ?_⟩
      refine (callsIn_wide.2 (dates_any _ _ _ _ (Nat.le_trans (wk_le _ _) (by omega)) _ R5.out R6.out)).mono ?_
      rintro e w5 ⟨rfl, hb7⟩
      have L5 := hid (LV6.out.call hb7)
      have K5 := hid ((hb7.block D1 (Array.getElem?_eq_some_iff.1 K16.out).1).trans K16.out)
      clear hb7 LV6 R5 R6 BV6 K16 cv6
      gi_wp2_with fail
      rw [roundsIn_succ]
      gi_wp2_with fail
      refine rangeB (px := 48) (bx := 15) (show 1 ≤ 5 by omega) rfl (enters_of Tryd.func38 (by kernel_rfl) rfl)
        (each_stops 4 (by omega) g1 gs g2 a b st ha hb hst _ (L5.out.call (alloc_below w5 _)).2.2.2.2.2.1 (L5.out.call (alloc_below w5 _)).2.2.2.2.2.2.2 (L5.out.call (alloc_below w5 _)).2.2.2.2.2.2.1 (L5.out.call (alloc_below w5 _)).1) KpE.trans ?kb (Below.refl _ _)
        (fun pre W => (∃ v, Boxed W w5.heap.size 44 v ∧ W.ownsRow w5.heap.size 36 3 v pre.length (dc pre) ∧ True) ∧ ((pre.length : Int) ≤ nn ∧ Below w5.heap.size w5 W))
        (fun pre W => (∃ v, Boxed W w5.heap.size 44 v ∧ W.ownsRow w5.heap.size 36 3 v pre.length (dc pre) ∧ True) ∧ ((pre.length : Int) = nn + 1 ∧ Below w5.heap.size w5 W))
        (OwnFrom.and (Own.from (holdsRow_own w5.heap.size w5.heap.size 44 36 3 (fun pre : List Int => pre.length) dc (fun _ _ => True)) _) (OwnFrom.and (ownFrom_pure _ (fun pre : List Int => (pre.length : Int) ≤ nn)) (ownFrom_below (Nat.le_refl _) (by simp))))
        (OwnFrom.and (Own.from (holdsRow_own w5.heap.size w5.heap.size 44 36 3 (fun pre : List Int => pre.length) dc (fun _ _ => True)) _) (OwnFrom.and (ownFrom_pure _ (fun pre : List Int => (pre.length : Int) = nn + 1)) (ownFrom_below (Nat.le_refl _) (by simp))))
        ⟨⟨_, Boxed.new w5 _ _, World.ownsRow_nil _ _ _ _, trivial⟩, by simpa using hnn0, alloc_below _ _⟩
        ?assign ?body (fun W => (∃ v, Boxed W w5.heap.size 44 v ∧ RD W v (wkK (cnE a b st) (nn + 1)) (fun j => a + (j : Int) * st)) ∧ Below w5.heap.size w5 W) ?done ?stop ?go
      case kb =>
        intro W l o o' hl hW _ _ k hk
        refine World.putObj_heap_other ?_
        have q1 := L5.out.2.2.2.2.2.1.facts.2.2
        have q2 := L5.out.2.2.2.2.2.2.1.facts.2.2
        have q3 := L5.out.2.2.2.2.2.2.2.facts.2.2
        have q4 := L5.out.1.lt
        have hl2 : w5.heap.size + 1 ≤ l := by simpa using hl
        rcases hk with rfl | rfl | rfl | rfl <;> omega
      case assign =>
        rintro l pre x W K ⟨⟨v, bv, hrow, _⟩, hlen, hB⟩ hK
        have HKK := hid hK
        have q1 := L5.out.2.2.2.2.2.1.facts.2.2
        have q2 := L5.out.2.2.2.2.2.2.1.facts.2.2
        have q3 := L5.out.2.2.2.2.2.2.2.facts.2.2
        have q4 := L5.out.1.lt
        have q5 := hB.size
        have KPE := hid (KpE.below (g1 := g1) (gs := gs) (g2 := g2) (alloc_below W (.cells #[.int .i64 (dY x), .int .i64 (dM x), .int .i64 (dD x)] 36)) (by omega) (by omega) (by omega) (by omega))
        clear hK q1 q2 q3 q4 q5
        unfold dV
        gi_wp2
        exact HKK.out _ _ ((KeepsOthers.alloc _ _).from _) KPE.out ⟨⟨v, bv.alloc _, hrow.alloc _, trivial⟩, hlen, hB.alloc hB.size _⟩ ⟨W.heap.size, Box.new W _ _ _, rfl⟩
      case body =>
        rintro l pre x Bx W ⟨⟨v, bv, hrow, _⟩, hlen, hB⟩ bX hlt
        unfold dV
        simp only [List.setIfInBounds_toArray, List.set_cons_succ, List.set_cons_zero]
        obtain ⟨x0, x1, x2, _⟩ := bX.facts
        have cv := bv.cell
        have q1 := L5.out.2.2.2.2.2.1.facts.2.2
        have q2 := L5.out.2.2.2.2.2.2.1.facts.2.2
        have q3 := L5.out.2.2.2.2.2.2.2.facts.2.2
        have q4 := L5.out.1.lt
        have q5 := L5.out.2.2.2.2.1.facts.2.2
        have LW := hid (L5.out.call hB)
        have hcon : (pre.length : Int) + 1 ≤ nn ∨ (pre.length : Int) = nn := by omega
        rcases hcon with hcon | hcon
        · gi_wp2_with (gi_at_builtin; refine wpListIn_append_own _ rfl _ _ 44 rfl w5.heap.size 36 i0 (.agg #[.int .i64 0, .int .i64 0, .int .i64 0]) 3 24 Tryd.underlying44 hi hz0 hz1 hz2 rfl (by decide) _ _ _ rfl (hrow.alloc _) ⟨W.heap.size, 0, none⟩ 1 1 (dcE x) rfl rfl (three_new W x) (three_one x) (by unfold maxLen; omega) (by omega) (by have := hB.size; simp; omega) ?_; intro v' w1 hown' hgrow _; obtain ⟨g', cap', rfl⟩ := ownsRow_succ hown'; obtain ⟨hv1, hv2, hr2, hk2, hb2⟩ := bv.appended (by decide) hrow hB.size (Nat.le_refl _) hown' hgrow; have hc1 := hv1.cell; have hf1 := hv1.frozen; have hc2 := hv2.cell; have hcn := (show IBox _ _ _ from (hb2.block _ q5).trans LW.out.2.2.2.2.1).facts.1)
          exact ⟨hk2.from _, KpE.below hb2 q1 q2 q3 q4, ⟨⟨_, hv2, by rw [dc_snoc, List.length_append]; exact hr2, trivial⟩, by rw [List.length_append]; simpa using hcon, hB.trans hb2⟩⟩
        · have HCON := hid hcon
          have hcon2 : nn < (pre.length : Int) + 1 := by omega
          clear hcon
          gi_wp2_with (gi_at_builtin; refine wpListIn_append_own _ rfl _ _ 44 rfl w5.heap.size 36 i0 (.agg #[.int .i64 0, .int .i64 0, .int .i64 0]) 3 24 Tryd.underlying44 hi hz0 hz1 hz2 rfl (by decide) _ _ _ rfl (hrow.alloc _) ⟨W.heap.size, 0, none⟩ 1 1 (dcE x) rfl rfl (three_new W x) (three_one x) (by unfold maxLen; omega) (by omega) (by have := hB.size; simp; omega) ?_; intro v' w1 hown' hgrow _; obtain ⟨g', cap', rfl⟩ := ownsRow_succ hown'; obtain ⟨hv1, hv2, hr2, hk2, hb2⟩ := bv.appended (by decide) hrow hB.size (Nat.le_refl _) hown' hgrow; have hc1 := hv1.cell; have hf1 := hv1.frozen; have hc2 := hv2.cell; have hcn := (show IBox _ _ _ from (hb2.block _ q5).trans LW.out.2.2.2.2.1).facts.1)
          exact ⟨hk2.from _, rfl, ⟨⟨_, hv2, by rw [dc_snoc, List.length_append]; exact hr2, trivial⟩, by rw [List.length_append]; simpa using HCON.out, hB.trans hb2⟩⟩
      case done =>
        rintro xs W rfl ⟨⟨v, bv, hrow, _⟩, hlen, hB⟩
        rw [upE_len] at hrow hlen
        refine ⟨⟨v, bv, ?_⟩, hB⟩
        rw [show wkK (cnE a b st) (nn + 1) = cnE a b st by unfold wkK; rw [if_neg (by omega)]; omega]
        exact RD.of_row hrow
      case stop =>
        rintro pre W ⟨k, hk, rfl⟩ ⟨⟨v, bv, hrow, _⟩, hlen, hB⟩
        rw [upE_len] at hrow hlen
        refine ⟨⟨v, bv, ?_⟩, hB⟩
        rw [show wkK (cnE a b st) (nn + 1) = k by unfold wkK; rw [if_neg (by omega)]; omega]
        exact RD.of_row hrow
      case go =>
        rintro D2 V5 hD2 ⟨⟨v5, bv5, hR5⟩, hB5⟩ hK2
        have LV := hid (L5.out.call hB5)
        have RV := hid hR5
        have BV := hid bv5
        have K2 := hid hK2
        have hD22 : w5.heap.size + 1 ≤ D2 := by simpa using hD2
        have hzD2 : w.heap.size ≤ w5.heap.size := L5.out.2.1.size
        have KV := hid ((hB5.block D1 (Array.getElem?_eq_some_iff.1 K5.out).1).trans K5.out)
        have hDlt : D1 < w5.heap.size := (Array.getElem?_eq_some_iff.1 K5.out).1
        obtain ⟨a0, a1, a2, _⟩ := LV.out.2.2.1.facts
        obtain ⟨c0, c1, c2, _⟩ := LV.out.2.2.2.1.facts
        obtain ⟨n0, _, _⟩ := LV.out.2.2.2.2.1.facts
        clear hB5 hR5 bv5 hK2 L5 hD2
        gi_wp2_with fail
        refine ⟨trivial, ?_⟩
        refine (callsIn_wide.2 (HL.out _ _)).mono ?_
        rintro e V6 ⟨⟨v6, rfl, hR6⟩, hb6⟩
        have R5 := hid (RV.out.below hb6)
        have R6 := hid hR6
        have BV6 := hid (show Boxed V6 w5.heap.size 44 v5 from (hb6.block _ BV.out.lt).trans BV.out)
        have LV6 := hid (LV.out.call hb6)
        have K26 := hid ((hb6.block D2 (Array.getElem?_eq_some_iff.1 K2.out).1).trans K2.out)
        have KV6 := hid ((hb6.block D1 (Array.getElem?_eq_some_iff.1 KV.out).1).trans KV.out)
        have cv6 := BV6.out.cell
        clear hb6 hR6 a0 a1 a2 c0 c1 c2 n0 LV RV BV K2
        gi_wp2_with fail
        refine ⟨trivial, ?_⟩
        refine (callsIn_wide.2 (dates_any _ _ _ _ (Nat.le_trans (wk_le _ _) (by omega)) _ R5.out R6.out)).mono ?_
        rintro e w8 ⟨rfl, hb7⟩
        have L8 := hid (LV6.out.call hb7)
        have K8 := hid ((hb7.block D2 (Array.getElem?_eq_some_iff.1 K26.out).1).trans K26.out)
        have K9 := hid ((hb7.block D1 (Array.getElem?_eq_some_iff.1 KV6.out).1).trans KV6.out)
        clear hb7 LV6 R5 R6 BV6 K26 cv6
        gi_wp2_with fail
        rw [roundsIn_succ]
        gi_wp2
        have hne : D2 ≠ D1 := by omega
        refine ⟨by simp, .inl ⟨_, _, rfl, run_takeDeferred K8.out, ?_⟩⟩
        have K10 := (World.putObj_heap_other (w := w8) (o := .deferred none) hne.symm).trans K9.out
        refine ⟨by simp, .inl ⟨_, _, rfl, run_takeDeferred K10, ?_⟩⟩
        exact ⟨_, results_tmp rfl _ _ _, rfl, (L8.out.2.1.trans (belowK_b (w := w) (Nat.le_refl _) w8 D2 _ _ (by omega) K8.out rfl rfl)).trans (belowK_b (w := w) (Nat.le_refl _) _ D1 _ _ (by omega) K10 rfl rfl)⟩
end Go.Proofs.YtjmainmidacmfaaDoor
