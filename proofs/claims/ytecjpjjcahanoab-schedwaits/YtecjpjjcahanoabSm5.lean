/-
  some over an iterator that writes blocks of its own; Mixed.
-/
import Derived.Test.YtecjpjjcahanoabSm4
namespace Go.Proofs.Ytecjpjjcahanoab
open Go.RowKit Go.Shelf
set_option maxRecDepth 100000
attribute [local go_sem] Oper.semAt_some

theorem own_chg {B n base : Nat} {A A' : World} {v : Value} {k : Nat} {xs : List Value} (h : A.ownsRow base 3 1 v k xs) (hc : Chg B n A A') (hb : B + n ≤ base) : A'.ownsRow base 3 1 v k xs := by
  refine ⟨h.1, ?_⟩
  rcases h.2 with h2 | ⟨g, cap, cur, hv, hg, hh, r⟩
  · exact .inl h2
  · exact .inr ⟨g, cap, cur, hv, hg, (hc.block g (Array.getElem?_eq_some_iff.1 hh).1 (by omega)).trans hh, r⟩
theorem own_ne {base : Nat} {A : World} {v : Value} {k b : Nat} {xs : List Value} (h : A.ownsRow base 3 1 v k xs) (hb : b < base) : some b ≠ v.ownBlock := fun e => by
  have := (World.ownsRow.lt h b e.symm).1
  omega
theorem boxed_chg {B n b : Nat} {A A' : World} {t : TypeId} {v : Value} (h : Boxed A b t v) (hc : Chg B n A A') (hb : b < B) : Boxed A' b t v := (hc.block b h.lt (by omega)).trans h

/-- behind an append to the list in the box -/
theorem appW (c most : Nat) (w W w1 : World) {v v' : Value} {k m : Nat} {xs ys : List Value} {tmp : Obj} (bv : Boxed W (w.heap.size + 1) 22 v) (b1 : Boxed W w.heap.size 3 (.int .i64 (most : Int)))
    (hrow : W.ownsRow (w.heap.size + 2 + (c + 2)) 3 1 v k xs) (hown : w1.ownsRow (w.heap.size + 2 + (c + 2)) 3 1 v' m ys) (hg : (W.alloc tmp).grownBy w1 v.ownBlock) (hsz : w.heap.size + 2 + 2 + c ≤ W.heap.size) :
    w1.cell? ⟨w.heap.size + 1, 0, none⟩ = some v ∧ w1.frozen? ⟨w.heap.size + 1, 0, none⟩ = false ∧ Boxed (w1.setCell ⟨w.heap.size + 1, 0, none⟩ v') (w.heap.size + 1) 22 v' ∧ (w1.setCell ⟨w.heap.size + 1, 0, none⟩ v').ownsRow (w.heap.size + 2 + (c + 2)) 3 1 v' m ys ∧
    Boxed (w1.setCell ⟨w.heap.size + 1, 0, none⟩ v') w.heap.size 3 (.int .i64 (most : Int)) ∧ KpW w.heap.size (w.heap.size + 2) (c + 2) W (w1.setCell ⟨w.heap.size + 1, 0, none⟩ v') ∧ Below w.heap.size W (w1.setCell ⟨w.heap.size + 1, 0, none⟩ v') := by
  have hv1 : Boxed w1 (w.heap.size + 1) 22 v := (bv.alloc tmp).kept hg (own_ne hrow (by omega))
  have h1 : Boxed w1 w.heap.size 3 (.int .i64 (most : Int)) := (b1.alloc tmp).kept hg (own_ne hrow (by omega))
  have hs := grownBy_setCell' w1 (w.heap.size + 1) v'
  have hz : W.heap.size ≤ w1.heap.size := by have := hg.size; simp at this; omega
  have hold : ∀ k, k < w.heap.size + 2 + (c + 2) → k ≠ w.heap.size + 1 → (w1.setCell ⟨w.heap.size + 1, 0, none⟩ v').heap[k]? = W.heap[k]? := fun k hk hne => by
    rw [hs.block k (by omega) (fun e => hne (by cases e; rfl)), hg.block k (by simp; omega) (own_ne hrow hk)]
    exact (alloc_below W tmp).block k (by omega)
  refine ⟨hv1.cell, hv1.frozen, hv1.set v', hown.kept hs (.inr (fun e => own_ne hown (b := w.heap.size + 1) (by omega) e.symm)), h1.other (by omega) v', ⟨Nat.le_trans hz hs.size, fun k hk => hold k (by omega) (by omega)⟩, ?_⟩
  have ha := alloc_below W tmp
  exact ⟨by rw [hs.os, hg.os, ha.os], by rw [hs.tape, hg.tape, ha.tape], by rw [hs.output, hg.output, ha.output], Nat.le_trans hz hs.size, fun k hk => hold k (by omega) (by omega)⟩

set_option maxHeartbeats 2000000 in
theorem some_w (gf : Nat) (lb : Array Value) (c : Nat) (YS : List Int) (most : Nat) (w : World) (eg : ∀ args w, (callFunc gf args).run Try.prog w = .ok (.enter gf args) w)
    (hseq : SeqW gf lb c w.heap.size YS w) (hN : YS.length ≤ 65536) (hmost : most ≤ 65537) :
    Calls Try.prog 22 #[.func (.func gf) #[] lb, .int .i64 (most : Int)] w fun e w' => (∃ v, e = .returned v ∧ OI w' w.heap.size v (YS.take most)) ∧ Below w.heap.size w w' := by
  obtain ⟨i0, hi, hz0, hz1, hz2⟩ := info_parts intinfo
  have hnn := seq_notnil (.func gf) #[] lb
  have HS := hid hseq
  have HN := hid hN
  have HM := hid hmost
  clear hseq hN hmost
  obtain ⟨W3, hW3⟩ : ∃ W3, (w.alloc (.cells #[.int .i64 (most : Int)] 3)).alloc (.cells #[.slice none 0 0] 22) = W3 := ⟨_, rfl⟩
  have hB3 : Below w.heap.size w W3 := by
    rw [← hW3]
    exact ((Below.refl _ _).alloc (Nat.le_refl _) _).alloc (by simp) _
  have hz3 : W3.heap.size = w.heap.size + 2 := by rw [← hW3]; simp
  have bM := hid (show Boxed W3 w.heap.size 3 (.int .i64 (most : Int)) by
    rw [← hW3]
    have h := Boxed.new w 3 (.int .i64 (most : Int))
    exact h.alloc _)
  have bL := hid (show Boxed W3 (w.heap.size + 1) 22 (.slice none 0 0) by
    rw [← hW3]
    have h := Boxed.new (w.alloc (.cells #[.int .i64 (most : Int)] 3)) 22 (.slice none 0 0)
    simp only [World.size_alloc] at h
    exact h)
  have cM := bM.out.cell
  have cL := bL.out.cell
  refine (callsIn_wide (n := 5)).1 ?_
  refine callsIn_of_wp_marks Try.func22 rfl trivial ?_ rfl
  simp only [Try.ntmps22, List.size_toArray, List.length_cons, List.length_nil, Nat.reduceAdd, Nat.reduceSub, Array.replicate_succ, Array.replicate_zero, List.push_toArray, List.append_toArray, List.nil_append, List.cons_append]
  have HB3 := hid hB3
  clear hB3
  by_cases hm0 : most = 0
  · have hb : ((most : Int) == 0) = true := by simp [hm0]
    have H0 := hid hm0
    clear hm0
    gi_wp2
    refine ⟨_, results_tmp rfl _ _ _, ?_⟩
    rw [H0.out, List.take_zero]
    exact ⟨⟨_, rfl, OI.nil _ _⟩, HB3.out⟩
  · have hb : ((most : Int) == 0) = false := by simp [hm0]
    have H0 := hid hm0
    clear hm0
    gi_wp2_with fail
    refine range_w (w0 := w) (gf := gf) (lb := lb) (c := c) (YS := YS) rfl eg HS.out HB3.out
      (fun pre W => (∃ v, Boxed W (w.heap.size + 1) 22 v ∧ W.ownsRow (w.heap.size + 2 + (c + 2)) 3 1 v pre.length (ic pre)) ∧ Boxed W w.heap.size 3 (.int .i64 (most : Int)) ∧ pre.length < most ∧ Below w.heap.size w W)
      (fun pre W => (∃ v, Boxed W (w.heap.size + 1) 22 v ∧ W.ownsRow (w.heap.size + 2 + (c + 2)) 3 1 v pre.length (ic pre)) ∧ pre.length = most ∧ pre = YS.take most ∧ Below w.heap.size w W)
      ?hI ?hIx ⟨⟨_, bL.out, World.ownsRow_nil _ _ _ _⟩, bM.out, (by have := H0.out; simp; omega), HB3.out⟩
      (fun x => { tmps := #[.func (.func gf) #[] lb, .int .i64 (most : Int), undef, .pointer (some ⟨w.heap.size, 0, none⟩), .slice none 0 0, .pointer (some ⟨w.heap.size + 1, 0, none⟩), .int .i64 x, .func (.func gf) #[] lb, .bool false, .bool false, .int .i64 (most : Int), .bool false, .bool false, undef, .func (.func gf) #[] lb, .int .i64 x, undef, undef, undef, undef, undef, undef, undef, undef, undef, undef, undef, undef, undef, undef], defers := [] })
      ?assign ?body ?done ?stop
    case hI =>
      rintro pre A A' ⟨⟨v, bv, hrow⟩, b1, hlen, hB⟩ hc
      rw [hz3] at hc
      exact ⟨⟨v, boxed_chg bv hc (by omega), own_chg hrow hc (by omega)⟩, boxed_chg b1 hc (by omega), hlen, hc.below hB (by omega) (Nat.le_refl _)⟩
    case hIx =>
      rintro pre A A' ⟨⟨v, bv, hrow⟩, hlen, hp, hB⟩ hc
      rw [hz3] at hc
      exact ⟨⟨v, boxed_chg bv hc (by omega), own_chg hrow hc (by omega)⟩, hlen, hp, hc.below hB (by omega) (Nat.le_refl _)⟩
    case assign =>
      intro l x W K hK
      have HKK := hid hK
      clear hK
      gi_wp2
      exact HKK.out
    case body =>
      rintro l pre x W ⟨⟨v, bv, hrow⟩, b1, hlen, hB⟩ hpx hlt hsz
      rw [hz3] at hsz ⊢
      have cv := bv.cell
      have HB := hid hB
      have hl6 : pre.length + 1 ≤ 65536 := by have := HN.out; omega
      have HL := hid hlen
      have HPX := hid hpx
      clear hB hlen hlt hpx
      by_cases hcon : pre.length + 1 = most
      · have hcb : ((pre.length : Int) + 1 == (most : Int)) = true := by simp; omega
        have HC := hid hcon
        clear hcon
        gi_wp2_with (gi_at_builtin; refine wpListIn_append_own _ rfl _ _ 22 rfl (w.heap.size + 2 + (c + 2)) 3 i0 (.int .i64 0) 1 8 Try.underlying22 hi hz0 hz1 hz2 rfl (by decide) _ _ _ rfl (hrow.alloc _) ⟨W.heap.size, 0, none⟩ 1 1 [.int .i64 x] rfl rfl (one_new W x) (one_one x) (by unfold maxLen; omega) (by omega) (by simp; omega) ?_; intro v' w1 hown' hgrow _; obtain ⟨g', cap', rfl⟩ := ownsRow_succ hown'; obtain ⟨hc1, hf1, hv2, hr2, e1, hkp, hb2⟩ := appW c most w W w1 bv b1 hrow hown' hgrow hsz; have hc2 := hv2.cell; have ce1 := e1.cell)
        exact ⟨hkp, ⟨⟨_, hv2, by rw [ic_snoc, List.length_append]; exact hr2⟩, by rw [List.length_append]; exact HC.out, by rw [HPX.out, HC.out], HB.out.trans hb2⟩⟩
      · have hcb : ((pre.length : Int) + 1 == (most : Int)) = false := by simp; omega
        have HC := hid hcon
        have hcI : ¬ (65536 : Int) < (pre.length : Int) + 1 := by omega
        clear hcon
        gi_wp2_with (gi_at_builtin; refine wpListIn_append_own _ rfl _ _ 22 rfl (w.heap.size + 2 + (c + 2)) 3 i0 (.int .i64 0) 1 8 Try.underlying22 hi hz0 hz1 hz2 rfl (by decide) _ _ _ rfl (hrow.alloc _) ⟨W.heap.size, 0, none⟩ 1 1 [.int .i64 x] rfl rfl (one_new W x) (one_one x) (by unfold maxLen; omega) (by omega) (by simp; omega) ?_; intro v' w1 hown' hgrow _; obtain ⟨g', cap', rfl⟩ := ownsRow_succ hown'; obtain ⟨hc1, hf1, hv2, hr2, e1, hkp, hb2⟩ := appW c most w W w1 bv b1 hrow hown' hgrow hsz; have hc2 := hv2.cell; have ce1 := e1.cell)
        exact ⟨hkp, ⟨⟨_, hv2, by rw [ic_snoc, List.length_append]; exact hr2⟩, e1, by rw [List.length_append]; have := HC.out; have := HL.out; simp; omega, HB.out.trans hb2⟩⟩
    case done =>
      rintro W ⟨⟨v, bv, hrow⟩, b1, hlen, hB⟩ hK
      have cv := bv.cell
      have HB := hid hB
      have HL := hid hlen
      clear hB hlen
      gi_wp2
      refine ⟨by simp, .inl ⟨_, _, rfl, run_takeDeferred hK, ?_⟩⟩
      rw [List.take_of_length_le (Nat.le_of_lt HL.out)]
      exact ⟨_, results_tmp rfl _ _ _, ⟨v, rfl, OI.mono (ownsRow_putObj hrow _ hK rfl) (by omega)⟩, HB.out.trans (belowK_b (w := w) (Nat.le_refl _) W _ _ _ (by omega) hK rfl rfl)⟩
    case stop =>
      rintro pre W ⟨⟨v, bv, hrow⟩, hlen, hp, hB⟩ hK
      have cv := bv.cell
      have HB := hid hB
      have HL := hid hp
      clear hB hp hlen
      gi_wp2
      refine ⟨by simp, .inl ⟨_, _, rfl, run_takeDeferred hK, ?_⟩⟩
      rw [← HL.out]
      exact ⟨_, results_tmp rfl _ _ _, ⟨v, rfl, OI.mono (ownsRow_putObj hrow _ hK rfl) (by omega)⟩, HB.out.trans (belowK_b (w := w) (Nat.le_refl _) W _ _ _ (by omega) hK rfl rfl)⟩
end Go.Proofs.Ytecjpjjcahanoab
