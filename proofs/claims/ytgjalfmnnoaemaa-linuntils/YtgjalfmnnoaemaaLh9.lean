/-
  lin: twin.
-/
import Derived.Test.YtgjalfmnnoaemaaLh8
namespace Go.Proofs.Ytgjalfmnnoaemaa
open Go.RowKit
set_option maxRecDepth 100000

attribute [local go_sem ↓] opLd_op opSt_op bsO_op
/-- a history that fits into memory -/
def LOk (L : List Opx) : Prop := L.length ≤ 837723144947 ∧ ∀ x ∈ L, x.req.lines.length ≤ 5864062014634 ∧ x.rep.levels.length ≤ 4398046510976
set_option maxHeartbeats 4000000 in
theorem twin_is (v : Value) (L : List Opx) (w : World) (h1 : RO w v L) (hL : LOk L) :
    Calls Try.prog 6 #[v] w fun e w' => (∃ v', e = .returned v' ∧ TO w' v' L) ∧ Below w.heap.size w w' := by
  have H1 := hid h1
  have HL := hid hL
  obtain ⟨a1, p1, rfl⟩ := h1.form
  clear h1 hL
  go_enter Try.func6, Try.ntmps6
  go_wp2_with fail
  go_loopw [3, 4] (fun o i wr => ∃ (k : Nat) (E : List Opv), k ≤ L.length ∧ i = .int .i64 (k : Int) ∧ E.map (·.1) = L.take k ∧ wr.ownsRow w.heap.size 35 14 o E.length (E.flatMap encO) ∧ TE wr o E ∧ Below w.heap.size w wr) (fun _ i _ => L.length - (intOf i).toNat)
  case atStart => exact ⟨0, [], by omega, rfl, by simp, World.ownsRow_nil _ _ _ _, fun y hy => by simp at hy, Below.refl _ _⟩
  case round =>
    obtain ⟨k, E, hk, rfl, hE, hown, hTE, hbl⟩ := hrel
    have hlen := HL.out.1
    have HE := hid hE
    have HOut := hid hown
    have HT := hid hTE
    have HB := hid hbl
    have hEl : E.length = k := by have := congrArg List.length hE; simpa [Nat.min_eq_left hk] using this
    have HEl := hid hEl
    by_cases hlt : k < L.length
    · obtain ⟨b, off, cap, v1, v2, e1, hc1, o1, l1, m1⟩ := (H1.out.below hbl).at k hlt
      cases e1
      have hI : (k : Int) < (L.length : Int) := by omega
      have E1 := run_opLd o1
      obtain ⟨W, E2, bW, zW, oW⟩ := op_new wr (L[k]'hlt) l1.one m1.one
      have hx := HL.out.2 (L[k]'hlt) (List.getElem_mem hlt)
      have HX := hid (show L.take k ++ [L[k]'hlt] = L.take (k + 1) by rw [List.take_succ_eq_append_getElem hlt])
      have HS := hid (l1.below bW)
      have HV := hid m1
      have BW := hid (hbl.trans (bW.mono hbl.size))
      have BW0 := hid bW
      have c2 := oW.at 2 _ rfl
      rw [Nat.zero_add] at c2
      have HOB := hid oW
      have hv1 := l1.form
      have hv2 := m1.form
      generalize L[k]'hlt = x at *
      obtain ⟨s1, t1, rfl⟩ := hv1
      obtain ⟨s2, t2, rfl⟩ := hv2
      generalize hX : opA x _ _ = X at E1 E2
      have ZW := hid zW
      clear o1 l1 m1 oW hE hown hTE hbl hEl hc1 bW zW
      go_wp2_with (at_builtin; refine wpList_appX lninfo Try.underlying28 rfl (by decide) rfl (.tmp 18) (.tmp 21) rfl W.heap.size _ 0 [] rfl (World.ownsRow_nil _ _ _ _) _ x.req.lines.length (lc x.req.lines) rfl (lc_len _) HS.out.src (lc_one _) (by unfold maxLen; omega) (by omega) (Nat.le_refl _) ?n1)
      case n1 =>
      intro u1 w1 ho1 hg1 _
      have OL1 := hid (show OLn w1 W.heap.size u1 x.req.lines by simpa [OLn] using ho1)
      have B1 := hid (show Below W.heap.size W w1 from (Below.refl W.heap.size W).grown hg1 (Nat.le_refl _) (by intro k hk; cases hk))
      clear ho1 hg1 HS c2 E1 E2
      obtain ⟨W1, hW1⟩ : ∃ W1, w1.alloc (.cells #[.string ⟨#[109, 97, 114, 107]⟩, .int .i64 0] 40) = W1 := ⟨_, rfl⟩
      have RW := hid (show W1.heap[w1.heap.size]? = some (.cells #[.string markB, .int .i64 0] 40 (0, 0)) by rw [← hW1]; exact heap_alloc_new w1 _)
      have BW1 := hid (show Below w1.heap.size w1 W1 by rw [← hW1]; exact (Below.refl _ _).alloc (Nat.le_refl _) _)
      have zW1 := hid (show W1.heap.size = w1.heap.size + 1 by rw [← hW1, World.size_alloc])
      have HOW := hid (show OLn W1 W.heap.size u1 x.req.lines from own_later OL1.out BW1.out)
      go_wp2_with (at_builtin; refine wpList_appX lninfo Try.underlying28 rfl (by decide) rfl (.tmp 23) (.tmp 25) rfl W.heap.size _ x.req.lines.length (lc x.req.lines) rfl HOW.out _ 1 (lc [(markB, 0)]) rfl rfl (.inr ⟨_, _, rfl, news_blk RW.out⟩) (lc_one _) (by unfold maxLen; omega) (by omega) (by have := B1.out.size; have := zW1.out; omega) ?n2)
      case n2 =>
      intro u2 w2 ho2 hg2 _
      have B2 := hid (show Below W.heap.size W w2 from (B1.out.trans (BW1.out.mono B1.out.size)).grown hg2 (by have := B1.out.size; have := zW1.out; omega) (fun k hk => (World.ownsRow.lt HOW.out k hk).1))
      obtain ⟨g1, q1, rfl, hgb1, hq1, hqm1, hML⟩ := OLn.cut (show OLn w2 W.heap.size u2 (x.req.lines ++ [(markB, 0)]) by unfold OLn; rw [lc_app, List.length_append]; exact ho2)
      have OB2 := hid (HOB.out.later B2.out)
      have d2 := OB2.out.at 2 _ rfl
      rw [Nat.zero_add] at d2
      have f2 : w2.frozen? ⟨wr.heap.size, 2, none⟩ = false := Lib.frozen_of_heap OB2.out 2
      obtain ⟨W3, hW3⟩ : ∃ W3, w2.setCell ⟨wr.heap.size, 2, none⟩ (.slice (some ⟨g1, 0, none⟩) x.req.lines.length q1) = W3 := ⟨_, rfl⟩
      have OB3 := hid (show OB W3 wr.heap.size x (.slice (some ⟨g1, 0, none⟩) x.req.lines.length q1) (.slice s2 x.rep.levels.length t2) by rw [← hW3]; exact OB2.out.lines _)
      have Bw2 := hid (show Below wr.heap.size wr w2 from BW0.out.trans (B2.out.mono BW0.out.size))
      have B3 := hid (show Below wr.heap.size wr W3 by rw [← hW3]; exact below_put Bw2.out (Nat.le_refl _))
      have ML3 := hid (show MLn W3 (.slice (some ⟨g1, 0, none⟩) x.req.lines.length q1) x.req.lines by
        refine hML.old fun g e => ?_
        cases e
        rw [← hW3]
        exact heap_setCell_other _ _ _ _ (by show g1 ≠ wr.heap.size; have := ZW.out; omega))
      have z3 := hid (show W.heap.size ≤ W3.heap.size by rw [← hW3, World.size_setCell]; exact B2.out.size)
      have lg1 := hid (show g1 < W3.heap.size by obtain ⟨g, e, hlt⟩ := ML3.out.lt; cases e; exact hlt)
      have HW3 := hid hW3
      have hsub : ((x.req.lines.length + 1 : Nat) : Int) - 1 = (x.req.lines.length : Int) := by omega
      have hq1I : (x.req.lines.length : Int) ≤ (q1 : Int) := by omega
      have HG1 := hid hgb1
      clear ho2 hg2 hML RW BW1 zW1 HOW OL1 B1 OB2 HOB hW1 hq1 hqm1 hgb1
      have c9 := OB3.out.at 9 _ rfl
      rw [Nat.zero_add] at c9
      have HV3 := hid (HV.out.below B3.out)
      go_wp2_with (at_builtin; refine wpList_appX lvinfo Try.underlying31 rfl (by decide) rfl (.tmp 34) (.tmp 37) rfl W3.heap.size _ 0 [] rfl (World.ownsRow_nil _ _ _ _) _ x.rep.levels.length (vc x.rep.levels) rfl (vc_len _) HV3.out.src (vc_one _) (by unfold maxLen; omega) (by omega) (Nat.le_refl _) ?n3)
      case n3 =>
      intro u4 w4 ho4 hg4 _
      have OL4 := hid (show OLv w4 W3.heap.size u4 x.rep.levels by simpa [OLv] using ho4)
      have B4 := hid (show Below W3.heap.size W3 w4 from (Below.refl W3.heap.size W3).grown hg4 (Nat.le_refl _) (by intro k hk; cases hk))
      clear ho4 hg4 HV3 c9 d2 f2 hW3 hsub hq1I
      obtain ⟨W4, hW4⟩ : ∃ W4, w4.alloc (.cells #[.string ⟨#[109, 97, 114, 107]⟩, .int .i64 0, .int .i64 0] 42) = W4 := ⟨_, rfl⟩
      have RW4 := hid (show W4.heap[w4.heap.size]? = some (.cells #[.string markB, .int .i64 0, .int .i64 0] 42 (0, 0)) by rw [← hW4]; exact heap_alloc_new w4 _)
      have BW4 := hid (show Below w4.heap.size w4 W4 by rw [← hW4]; exact (Below.refl _ _).alloc (Nat.le_refl _) _)
      have zW4 := hid (show W4.heap.size = w4.heap.size + 1 by rw [← hW4, World.size_alloc])
      have HOW4 := hid (show OLv W4 W3.heap.size u4 x.rep.levels from own_later OL4.out BW4.out)
      go_wp2_with (at_builtin; refine wpList_appX lvinfo Try.underlying31 rfl (by decide) rfl (.tmp 39) (.tmp 41) rfl W3.heap.size _ x.rep.levels.length (vc x.rep.levels) rfl HOW4.out _ 1 (vc [(markB, 0, 0)]) rfl rfl (.inr ⟨_, _, rfl, news_blk RW4.out⟩) (vc_one _) (by unfold maxLen; omega) (by omega) (by have := B4.out.size; have := zW4.out; omega) ?n4)
      case n4 =>
      intro u5 w5 ho5 hg5 _
      have B5 := hid (show Below W3.heap.size W3 w5 from (B4.out.trans (BW4.out.mono B4.out.size)).grown hg5 (by have := B4.out.size; have := zW4.out; omega) (fun k hk => (World.ownsRow.lt HOW4.out k hk).1))
      obtain ⟨g2, q2, rfl, hgb2, hq2, hqm2, hMV⟩ := OLv.cut (show OLv w5 W3.heap.size u5 (x.rep.levels ++ [(markB, 0, 0)]) by unfold OLv; rw [vc_app, List.length_append]; exact ho5)
      have OB5 := hid (OB3.out.later B5.out)
      have d9 := OB5.out.at 9 _ rfl
      rw [Nat.zero_add] at d9
      have f9 : w5.frozen? ⟨wr.heap.size, 9, none⟩ = false := Lib.frozen_of_heap OB5.out 9
      obtain ⟨W6, hW6⟩ : ∃ W6, w5.setCell ⟨wr.heap.size, 9, none⟩ (.slice (some ⟨g2, 0, none⟩) x.rep.levels.length q2) = W6 := ⟨_, rfl⟩
      have OB6 := hid (show OB W6 wr.heap.size x (.slice (some ⟨g1, 0, none⟩) x.req.lines.length q1) (.slice (some ⟨g2, 0, none⟩) x.rep.levels.length q2) by rw [← hW6]; exact OB5.out.levels _)
      have Bw5 := hid (show Below wr.heap.size wr w5 from B3.out.trans (B5.out.mono B3.out.size))
      have B6 := hid (show Below wr.heap.size wr W6 by rw [← hW6]; exact below_put Bw5.out (Nat.le_refl _))
      have ML6 := hid (show MLn W6 (.slice (some ⟨g1, 0, none⟩) x.req.lines.length q1) x.req.lines by
        refine (ML3.out.below B5.out).old fun g e => ?_
        cases e
        rw [← hW6]
        exact heap_setCell_other _ _ _ _ (by show g1 ≠ wr.heap.size; have := ZW.out; have := HG1.out; omega))
      have MV6 := hid (show MLv W6 (.slice (some ⟨g2, 0, none⟩) x.rep.levels.length q2) x.rep.levels by
        refine hMV.old fun g e => ?_
        cases e
        rw [← hW6]
        exact heap_setCell_other _ _ _ _ (by show g2 ≠ wr.heap.size; have := ZW.out; have := z3.out; omega))
      have hg2b := hid (show wr.heap.size < g2 by have := ZW.out; have := z3.out; omega)
      have hg1b := hid (show wr.heap.size < g1 by have := ZW.out; have := HG1.out; omega)
      have E6 := run_opLd OB6.out.at
      have E7 := run_bsO W6 x (.slice (some ⟨g1, 0, none⟩) x.req.lines.length q1) (.slice (some ⟨g2, 0, none⟩) x.rep.levels.length q2)
      obtain ⟨W7, hW7⟩ : ∃ W7, W6.alloc (.cells (opC x (.slice (some ⟨g1, 0, none⟩) x.req.lines.length q1) (.slice (some ⟨g2, 0, none⟩) x.rep.levels.length q2)).toArray 35) = W7 := ⟨_, rfl⟩
      have RW7 := hid (show W7.heap[W6.heap.size]? = some (.cells (encO (x, .slice (some ⟨g1, 0, none⟩) x.req.lines.length q1, .slice (some ⟨g2, 0, none⟩) x.rep.levels.length q2)).toArray 35 (0, 0)) by rw [← hW7]; exact heap_alloc_new W6 _)
      have BW7 := hid (show Below W6.heap.size W6 W7 by rw [← hW7]; exact (Below.refl _ _).alloc (Nat.le_refl _) _)
      rw [hW7] at E7
      have B7 := hid (show Below wr.heap.size wr W7 from B6.out.trans (BW7.out.mono B6.out.size))
      have O7 := hid (own_later HOut.out B7.out)
      have T7 := hid (HT.out.later B7.out)
      have ML7 := hid (ML6.out.below BW7.out)
      have MV7 := hid (MV6.out.below BW7.out)
      generalize hY : opA x _ _ = Y at E6 E7
      have HY := hid hY
      have hsub : ((x.rep.levels.length + 1 : Nat) : Int) - 1 = (x.rep.levels.length : Int) := by omega
      have hq2I : (x.rep.levels.length : Int) ≤ (q2 : Int) := by omega
      have hbig : (E.length + 1) * 168 ≤ 140737488355328 := by have := HEl.out; omega
      have hbig2 : E.length + 1 ≤ maxLen := by unfold maxLen; omega
      have hbs := hid (show w.heap.size ≤ W7.heap.size from Nat.le_trans HB.out.size B7.out.size)
      clear ho5 hg5 hMV RW4 BW4 zW4 HOW4 OL4 B4 OB5 hW4 hq2 hqm2 hgb2 hY hW7 OB6 ML6 MV6 BW7 B6 ML3 z3
      go_wp2_with (at_builtin; refine wpList_appX opinfo Try.underlying22 rfl (by decide) rfl (.tmp 50) (.tmp 52) rfl w.heap.size _ E.length (E.flatMap encO) rfl O7.out _ 1 (encO (x, .slice (some ⟨g1, 0, none⟩) x.req.lines.length q1, .slice (some ⟨g2, 0, none⟩) x.rep.levels.length q2)) rfl rfl (.inr ⟨_, _, rfl, news_blk RW7.out⟩) (opC_one rfl rfl) hbig2 hbig hbs.out ?n5)
      case n5 =>
      intro u8 w8 ho8 hg8 hd8
      have T8 := hid (TE.grow (TE.snoc (y := (x, .slice (some ⟨g1, 0, none⟩) x.req.lines.length q1, .slice (some ⟨g2, 0, none⟩) x.rep.levels.length q2)) T7.out ML7.out MV7.out
        (fun e => by have := (World.ownsRow.lt HOut.out g1 e.symm).2; have := hg1b.out; omega) (fun e => by have := (World.ownsRow.lt HOut.out g2 e.symm).2; have := hg2b.out; omega)) hg8 hd8)
      have O8 := hid (show w8.ownsRow w.heap.size 35 14 u8 (E ++ [(x, Value.slice (some ⟨g1, 0, none⟩) x.req.lines.length q1, Value.slice (some ⟨g2, 0, none⟩) x.rep.levels.length q2)]).length ((E ++ [(x, Value.slice (some ⟨g1, 0, none⟩) x.req.lines.length q1, Value.slice (some ⟨g2, 0, none⟩) x.rep.levels.length q2)]).flatMap encO) by
        rw [List.length_append, List.flatMap_append]
        simpa using ho8)
      have B8 := hid (show Below w.heap.size w w8 from (HB.out.trans (B7.out.mono HB.out.size)).grown hg8 hbs.out (fun k hk => (World.ownsRow.lt HOut.out k hk).1))
      have M8 := hid (show (E ++ [(x, Value.slice (some ⟨g1, 0, none⟩) x.req.lines.length q1, Value.slice (some ⟨g2, 0, none⟩) x.rep.levels.length q2)]).map (·.1) = L.take (k + 1) by rw [List.map_append, HE.out]; exact HX.out)
      clear ho8 hg8 hd8 E6 E7 d9 f9 hW6 hsub hq2I hbig hbig2
      go_wp2_with fail
      go_roundw
      case rel => exact ⟨k + 1, _, by omega, by go_num, M8.out, O8.out, T8.out, B8.out⟩
      case measure => simp [intOf]; omega
    · obtain rfl : k = L.length := by omega
      have hm : E.map (·.1) = L := by rw [hE, List.take_length]
      have E7 := run_bsO wr lastO (.slice none 0 0) (.slice none 0 0)
      obtain ⟨W7, hW7⟩ : ∃ W7, wr.alloc (.cells (opC lastO (.slice none 0 0) (.slice none 0 0)).toArray 35) = W7 := ⟨_, rfl⟩
      have RW7 := hid (show W7.heap[wr.heap.size]? = some (.cells (encO (lastO, .slice none 0 0, .slice none 0 0)).toArray 35 (0, 0)) by rw [← hW7]; exact heap_alloc_new wr _)
      have B7 := hid (show Below wr.heap.size wr W7 by rw [← hW7]; exact (Below.refl _ _).alloc (Nat.le_refl _) _)
      rw [hW7] at E7
      unfold opA opC lastO at E7
      dsimp only at E7
      have O7 := hid (own_later HOut.out B7.out)
      have T7 := hid (HT.out.later B7.out)
      have hbig : (E.length + 1) * 168 ≤ 140737488355328 := by omega
      have hbig2 : E.length + 1 ≤ maxLen := by unfold maxLen; omega
      have hbs := hid (show w.heap.size ≤ W7.heap.size from Nat.le_trans HB.out.size B7.out.size)
      have HM := hid hm
      clear hm hE hown hTE hbl hW7 hEl
      go_wp2_with (at_builtin; refine wpList_appX opinfo Try.underlying22 rfl (by decide) rfl (.tmp 54) (.tmp 56) rfl w.heap.size _ E.length (E.flatMap encO) rfl O7.out _ 1 (encO (lastO, .slice none 0 0, .slice none 0 0)) rfl rfl (.inr ⟨_, _, rfl, news_blk RW7.out⟩) (opC_one rfl rfl) hbig2 hbig hbs.out ?n6)
      case n6 =>
      intro u8 w8 ho8 hg8 hd8
      have T8 := hid (T7.out.grow hg8 hd8)
      have B8 := hid (show Below w.heap.size w w8 from (HB.out.trans (B7.out.mono HB.out.size)).grown hg8 hbs.out (fun k hk => (World.ownsRow.lt HOut.out k hk).1))
      obtain ⟨g, q, rfl, hq, hqm, hTO⟩ := T8.out.twin ho8
      rw [HM.out] at hTO
      have HTO := hid hTO
      have hqI : (L.length : Int) ≤ (q : Int) := by have := HEl.out; omega
      clear ho8 hg8 hd8 E7 hTO hbig hbig2 hq hqm T8 T7 O7 RW7
      go_wp2_with fail
      go_ret
      refine ⟨⟨_, rfl, ?_⟩, B8.out⟩
      have h := HTO.out
      rw [HEl.out] at h
      exact h
end Go.Proofs.Ytgjalfmnnoaemaa
