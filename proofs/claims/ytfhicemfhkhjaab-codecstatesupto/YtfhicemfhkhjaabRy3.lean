/-
  Ry2: codec, the document's reader: levels. Laid by mkry2.py.
  Ry3: codec, the document's Reply. Laid by mkry3.py.
-/
import Derived.Test.YtfhicemfhkhjaabLv2
import Derived.Test.YtfhicemfhkhjaabDx8
import Derived.Test.YtfhicemfhkhjaabRp4
namespace Go.Proofs.Ytfhicemfhkhjaab
open Go.RowKit
set_option maxRecDepth 100000

theorem fLv_state (l : List UInt8) (most : Nat) (s : Nat × Nat) (h0 : s.1 = 0) : ((fLv l most s.2).1, (fLv l most s.2).2.1) = sI l (sI l (sT l most s)) := by
  rw [fLv_eq]
  by_cases e1 : (fTx l most s.2).1 = 0
  case neg => rw [andR_no e1, sT_ok h0, sI_no (s := (_, _)) e1, sI_no (s := (_, _)) e1]
  rw [andR_ok e1, sT_ok h0]
  generalize (fTx l most s.2).2.1 = i1
  generalize (fTx l most s.2).2.2 = a1
  by_cases e2 : (fIn l i1).1 = 0
  case neg => rw [andR_no e2, sI_ok (s := (_, _)) e1, sI_no (s := (_, _)) e2]
  rw [andR_ok e2, sI_ok (s := (_, _)) e1]
  show _ = sI l ((fIn l i1).1, (fIn l i1).2.1)
  generalize (fIn l i1).2.1 = i2
  generalize (fIn l i1).2.2 = a2
  by_cases e3 : (fIn l i2).1 = 0
  case neg => rw [andR_no e3, sI_ok (s := (_, _)) e2]
  rw [andR_ok e3, sI_ok (s := (_, _)) e2]
  exact Prod.ext e3.symm rfl
theorem fLv_val (l : List UInt8) (most : Nat) (s : Nat × Nat) (h : (sI l (sI l (sT l most s))).1 = 0) : (fLv l most s.2).2.2 = (vT l most s, vI l (sT l most s), vI l (sI l (sT l most s))) := by
  obtain ⟨e3, p3, v3⟩ := sI_val h
  have h2 := sI_up h
  obtain ⟨e2, p2, v2⟩ := sI_val h2
  have h1 := sI_up h2
  obtain ⟨e1, p1, v1⟩ := sT_val h1
  rw [v1, v2, v3]
  rw [p2] at e3 ⊢
  rw [p1] at e2 e3 ⊢
  rw [fLv_eq, andR_ok e1, andR_ok e2, andR_ok e3]
theorem fVs_step (l : List UInt8) (most i j : Nat) (h : (fVs l most i j).1 = 0) :
    ((fVs l most i (j + 1)).1, (fVs l most i (j + 1)).2.1) = sI l (sI l (sT l most (0, (fVs l most i j).2.1))) ∧ ((fVs l most i (j + 1)).1 = 0 → (fVs l most i (j + 1)).2.2 = (fVs l most i j).2.2 ++ [(vT l most (0, (fVs l most i j).2.1), vI l (sT l most (0, (fVs l most i j).2.1)), vI l (sI l (sT l most (0, (fVs l most i j).2.1))))]) := by
  have e : fVs l most i (j + 1) = if (fLv l most (fVs l most i j).2.1).1 ≠ 0 then ((fLv l most (fVs l most i j).2.1).1, (fLv l most (fVs l most i j).2.1).2.1, []) else (0, (fLv l most (fVs l most i j).2.1).2.1, (fVs l most i j).2.2 ++ [(fLv l most (fVs l most i j).2.1).2.2]) := if_neg (fun e => e h)
  rw [e]
  generalize (fVs l most i j).2.1 = p at *
  generalize (fVs l most i j).2.2 = L at *
  have hs := fLv_state l most (0, p) rfl
  have hv := fLv_val l most (0, p)
  rw [← hs] at hv ⊢
  by_cases ht : (fLv l most p).1 = 0
  · rw [if_neg (fun e => e ht)]
    exact ⟨Prod.ext ht.symm rfl, fun _ => congrArg (fun x => L ++ [x]) (hv ht)⟩
  · rw [if_pos ht]
    exact ⟨rfl, fun e => (ht e).elim⟩
/-- the state behind a list of levels -/
def sV (l : List UInt8) (most : Nat) (s : Nat × Nat) : Nat × Nat := if s.1 ≠ 0 then s else ((fVi l most s.2).1, (fVi l most s.2).2.1)
theorem sV_ok {l : List UInt8} {most : Nat} {s : Nat × Nat} (h : s.1 = 0) : sV l most s = ((fVi l most s.2).1, (fVi l most s.2).2.1) := if_neg (fun e => e h)
theorem sV_no {l : List UInt8} {most : Nat} {s : Nat × Nat} (h : s.1 ≠ 0) : sV l most s = s := if_pos h
/-- behind a list of levels -/
def Xv (rb : Nat) (v : Value) (l : List UInt8) (most : Nat) (s : Nat × Nat) (w : World) (e : Ending) (w' : World) : Prop :=
  ∃ v' J, e = .returned v' ∧ OLv w' w.heap.size v' J ∧ XS w' rb v l most (sV l most s) ∧ Tb rb rb w w' ∧ ((sV l most s).1 = 0 → J = (fVi l most s.2).2.2)
theorem wpList_appV {w : World} {ops : Array Oper} {rest : List Oper} {o : Oper} {a : Act} {Q : Exit → Act → World → Prop} (hgd : o.guard = none) (s x : Operand)
    (ho : o.op = .call { callee := .builtin .append, args := #[s, x], argTypes := #[26, 26] })
    (base : Nat) (v : Value) (L : List Lv) (hs : a.eval s = v) (hown : OLv w base v L) (g : Nat) (y : Lv) (hx : a.eval x = .slice (some ⟨g, 0, none⟩) 1 1) (hg : w.heap[g]? = some (.cells #[.string y.1, .int .i64 y.2.1, .int .i64 y.2.2] 77 (0, 0)))
    (hlen : L.length ≤ 1000000000000) (hbase : base ≤ w.heap.size)
    (h : ∀ v' w', OLv w' base v' (L ++ [y]) → w.grownBy w' v.ownBlock → wpList Try.prog ops Q rest (a.put o.dst v') w') : wpList Try.prog ops Q (o :: rest) a w := by
  obtain ⟨i, hi, hz, hsz, hby⟩ := info_parts lvinfo
  refine wpList_append_own w hgd s x 26 ho base 77 i (.agg #[.string ⟨#[]⟩, .int .i64 0, .int .i64 0]) 3 32 Try.underlying26 hi hz hsz hby rfl (by decide) v L.length (vc L) hs hown ⟨g, 0, none⟩ 1 1 (vc [y]) hx rfl (World.news_of_block (cs := #[.string y.1, .int .i64 y.2.1, .int .i64 y.2.2]) (t := 77) (fr := (0, 0)) hg) (vc_one _) (by unfold maxLen; omega) (by omega) hbase ?_
  intro v' w' ho' hgr _
  refine h v' w' ?_ hgr
  unfold OLv
  rw [vc_app, List.length_append]
  exact ho'
theorem OLv.block_ge {w : World} {base : Nat} {v : Value} {L : List Lv} (h : OLv w base v L) : ∀ k, v.ownBlock = some k → base ≤ k := fun k hk => (World.ownsRow.lt h k hk).1
theorem OLv.tbb {w w' : World} {base rb : Nat} {v : Value} {L : List Lv} (h : OLv w base v L) (hk : Tb rb rb w w') (hb : rb < base) : OLv w' base v L := by
  refine ⟨h.1, ?_⟩
  rcases h.2 with g | ⟨x, y, z, g1, g2, g3, g4⟩
  · exact .inl g
  · exact .inr ⟨x, y, z, g1, g2, (hk.block x (Array.getElem?_eq_some_iff.1 g3).1 (by omega) (by omega)).trans g3, g4⟩
theorem OLv.lower2 {w : World} {B B' : Nat} {v : Value} {L : List Lv} (h : OLv w B v L) (hb : B' ≤ B) : OLv w B' v L := by
  refine ⟨h.1, ?_⟩
  rcases h.2 with g | ⟨x, y, z, g1, g2, g3⟩
  · exact .inl g
  · exact .inr ⟨x, y, z, g1, by omega, g3⟩
theorem OLv.old {w w' : World} {base : Nat} {v : Value} {L : List Lv} (h : OLv w base v L) (hk : ∀ k, base ≤ k → k < w.heap.size → w'.heap[k]? = w.heap[k]?) : OLv w' base v L := by
  refine ⟨h.1, ?_⟩
  rcases h.2 with g | ⟨x, y, z, g1, g2, g3, g4⟩
  · exact .inl g
  · exact .inr ⟨x, y, z, g1, g2, (hk x g2 (Array.getElem?_eq_some_iff.1 g3).1).trans g3, g4⟩
theorem levels_model (l : List UInt8) (most : Nat) (s : Nat × Nat) : ∃ F : Nat → Nat × Nat × List Lv,
    ((F 0).1, (F 0).2.1) = sC l most s ∧ ((F 0).1 = 0 → (F 0).2.2 = []) ∧
    (∀ j, j < vC l most s → (F j).1 = 0 → ((F (j + 1)).1, (F (j + 1)).2.1) = sI l (sI l (sT l most (0, (F j).2.1))) ∧ ((F (j + 1)).1 = 0 → (F (j + 1)).2.2 = (F j).2.2 ++ [(vT l most (0, (F j).2.1), vI l (sT l most (0, (F j).2.1)), vI l (sI l (sT l most (0, (F j).2.1))))])) ∧
    (∀ j, j ≤ vC l most s → (F j).1 ≠ 0 → ((F (vC l most s)).1, (F (vC l most s)).2.1) = ((F j).1, (F j).2.1)) ∧
    ((F (vC l most s)).1, (F (vC l most s)).2.1) = sV l most s ∧ ((sV l most s).1 = 0 → (F (vC l most s)).2.2 = (fVi l most s.2).2.2) ∧ vC l most s ≤ most := by
  by_cases h0 : s.1 = 0
  · by_cases h1 : (ct (l.drop s.2) most).2.2 = 0
    · have e1 : vC l most s = (ct (l.drop s.2) most).1 := (vC_ok h0).trans (if_pos h1)
      have e2 : fVi l most s.2 = fVs l most (s.2 + (ct (l.drop s.2) most).2.1) (ct (l.drop s.2) most).1 := if_neg (fun e => e h1)
      rw [e1, sC_ok h0, sV_ok h0, e2]
      refine ⟨fVs l most (s.2 + (ct (l.drop s.2) most).2.1), Prod.ext h1.symm rfl, fun _ => rfl, fun j _ hj => fVs_step l most _ j hj, fun j hj he => ?_, rfl, fun _ => rfl, ct_most h1⟩
      have := fVs_stuck l most _ j he _ hj
      rw [this.1, this.2]
    · have e1 : vC l most s = 0 := (vC_ok h0).trans (if_neg h1)
      have e2 : fVi l most s.2 = ((ct (l.drop s.2) most).2.2, s.2 + (ct (l.drop s.2) most).2.1, []) := if_pos h1
      rw [e1, sC_ok h0, sV_ok h0, e2]
      exact ⟨fun _ => ((ct (l.drop s.2) most).2.2, s.2 + (ct (l.drop s.2) most).2.1, []), rfl, fun _ => rfl, fun j hj => by omega, fun _ _ _ => rfl, rfl, fun _ => rfl, by omega⟩
  · rw [vC_no h0, sC_no h0, sV_no h0]
    exact ⟨fun _ => (s.1, s.2, []), rfl, fun _ => rfl, fun j hj => by omega, fun _ _ _ => rfl, rfl, fun e => (h0 e).elim, by omega⟩
set_option maxHeartbeats 2000000 in
theorem xlevels_any (w : World) {rb most : Nat} {v : Value} {l : List UInt8} {s : Nat × Nat} (h : XS w rb v l most s) (hm : most ≤ 1000000000) :
    Calls Try.prog 66 #[.pointer (some ⟨rb, 0, none⟩)] w fun e w' => Xv rb v l most s w e w' := by
  have HM := hid (xmany_any w h hm)
  have hlt := h.lt
  obtain ⟨F, f1, f2, f3, f4, f5, f6, f7⟩ := levels_model l most s
  have HXv := hid (fun (w' : World) (v' : Value) (J : List Lv) (h1 : OLv w' w.heap.size v' J) (h2 : XS w' rb v l most (sV l most s)) (h3 : Tb rb rb w w') (h4 : (sV l most s).1 = 0 → J = (fVi l most s.2).2.2) => (show Xv rb v l most s w (.returned v') w' from ⟨v', J, rfl, h1, h2, h3, h4⟩))
  generalize sC l most s = s1 at *
  generalize vC l most s = n at *
  generalize sV l most s = s2 at *
  have F1 := hid f1
  have F2 := hid f2
  have F3 := hid f3
  have F4 := hid f4
  have F5 := hid f5
  have F6 := hid f6
  have HXT := hid (fun (wx : World) (sx : Nat × Nat) (hx : XS wx rb v l most sx) => xtext_any wx hx hm)
  have HXW := hid (fun (wx : World) (sx : Nat × Nat) (hx : XS wx rb v l most sx) => xwhole_any wx hx)
  clear f1 f2 f3 f4 f5 f6 h
  have hn9 : (n : Int) ≤ 1000000000 := by omega
  go_enter Try.func66, Try.ntmps66
  go_wp2_with fail
  refine Calls.mono HM.out ?_
  rintro e w1 ⟨rfl, hS, hT⟩
  have HS := hid hS
  have HT := hid hT
  clear hS hT HM
  go_wp2_with fail
  go_loopw [3, 5] (fun vl vi wx => ∃ (j : Nat) (J : List Lv), j ≤ n ∧ vi = .int .i64 (j : Int) ∧ OLv wx w.heap.size vl J ∧ Hid (J.length = j) ∧ Tb rb rb w wx ∧ XS wx rb v l most ((F j).1, (F j).2.1) ∧ Hid ((F j).1 = 0 → J = (F j).2.2)) (fun _ vi _ => n - (intOf vi).toNat)
  case atStart => exact ⟨0, [], Nat.zero_le _, rfl, World.ownsRow_nil _ _ _ _, rfl, HT.out, by rw [F1.out]; exact HS.out, fun e => (F2.out e).symm⟩
  case round =>
    obtain ⟨j, J, hj, rfl, ho, HJ, ht, hx, HE⟩ := hrel
    have HO := hid ho
    have HTb := hid ht
    have HX := hid hx
    have ce := hx.e
    have hzw := ht.size
    clear ho ht hx
    by_cases hjn : j < n
    · have hI : (j : Int) < (n : Int) := by omega
      by_cases he : (F j).1 = 0
      · rw [he] at ce
        obtain ⟨g1, g2⟩ := F3.out j hjn he
        have G1 := hid g1
        have G2 := hid g2
        have HP0 := hid (show XS wr rb v l most (0, (F j).2.1) by have := HX.out; rw [he] at this; exact this)
        have HJE := hid (HE.out he)
        clear g1 g2 HX HE he
        generalize (F j).2.1 = p at *
        obtain ⟨W, hW⟩ : ∃ W, wr.alloc (.cells #[.string ⟨#[]⟩, .int .i64 0, .int .i64 0] 77) = W := ⟨_, rfl⟩
        have zW : W.heap.size = wr.heap.size + 1 := by rw [← hW, World.size_alloc]
        have bW : Below wr.heap.size wr W := by rw [← hW]; exact (Below.refl _ _).alloc (Nat.le_refl _) _
        have rW : W.heap[wr.heap.size]? = some (.cells #[.string ⟨#[]⟩, .int .i64 0, .int .i64 0] 77 (0, 0)) := by rw [← hW]; exact heap_alloc_new wr _
        have HSW := hid (HP0.out.below bW)
        have HTx := hid (HXT.out W _ HSW.out)
        have BW := hid bW
        have RW := hid rW
        have hlg : rb < wr.heap.size := HP0.out.lt
        have HW := hid hW
        clear bW rW hW
        go_wp2_with fail
        rw [HW.out]
        refine Calls.mono HTx.out ?_
        rintro e w2 ⟨rfl, hS2, hT2⟩
        have hg2 : wr.heap.size < W.heap.size := by omega
        have hne : wr.heap.size ≠ rb := by omega
        have R2 := hid (show w2.heap[wr.heap.size]? = some (.cells #[.string ⟨#[]⟩, .int .i64 0, .int .i64 0] 77 (0, 0)) from (hT2.block _ hg2 hne hne).trans RW.out)
        have z2 := hT2.size
        have q0 : w2.cell? ⟨wr.heap.size, 0, none⟩ = some (.string ⟨#[]⟩) := by rw [Lib.cell_of_heap R2.out]; rfl
        have q0f : w2.frozen? ⟨wr.heap.size, 0, none⟩ = false := Lib.frozen_of_heap R2.out 0
        generalize vT l most (0, p) = ta at *
        obtain ⟨W3, hW3⟩ : ∃ W3, w2.setCell ⟨wr.heap.size, 0, none⟩ (.string ta) = W3 := ⟨_, rfl⟩
        have R3 := hid (show W3.heap[wr.heap.size]? = some (.cells #[.string ta, .int .i64 0, .int .i64 0] 77 (0, 0)) by rw [← hW3]; exact heap_setCell_same w2 _ 0 _ _ _ R2.out)
        have HS3 := hid (show XS W3 rb v l most (sT l most (0, p)) by rw [← hW3]; exact hS2.set hlg)
        have TW3 := hid (show Tb rb rb wr W3 from (((Tb.of_below BW.out).trans hT2).own (g := wr.heap.size) (by rw [← hW3]; exact Tb.set w2 ⟨wr.heap.size, 0, none⟩ _ (.inl rfl)) (Nat.le_refl _)))
        have T3 := hid (HTb.out.trans TW3.out)
        have z3 : W3.heap.size = w2.heap.size := by rw [← hW3]; simp
        have HO3 := hid (HO.out.tbb TW3.out hlt)
        have HWh := hid (HXW.out W3 _ HS3.out)
        generalize sT l most (0, p) = sa at *
        clear hS2 hT2 HTx HSW HP0 R2 BW RW
        go_wp2_with fail
        refine Calls.mono HWh.out ?_
        rintro e w4 ⟨rfl, hS4, hT4⟩
        have R4 := hid (show w4.heap[wr.heap.size]? = some (.cells #[.string ta, .int .i64 0, .int .i64 0] 77 (0, 0)) from (hT4.block _ (by omega) hne hne).trans R3.out)
        have z4 := hT4.size
        have q1 : w4.cell? ⟨wr.heap.size, 1, none⟩ = some (.int .i64 0) := by rw [Lib.cell_of_heap R4.out]; rfl
        have q1f : w4.frozen? ⟨wr.heap.size, 1, none⟩ = false := Lib.frozen_of_heap R4.out 1
        generalize vI l sa = na at *
        obtain ⟨W5, hW5⟩ : ∃ W5, w4.setCell ⟨wr.heap.size, 1, none⟩ (.int .i64 na) = W5 := ⟨_, rfl⟩
        have R5 := hid (show W5.heap[wr.heap.size]? = some (.cells #[.string ta, .int .i64 na, .int .i64 0] 77 (0, 0)) by rw [← hW5]; exact heap_setCell_same w4 _ 1 _ _ _ R4.out)
        have HS5 := hid (show XS W5 rb v l most (sI l sa) by rw [← hW5]; exact hS4.set hlg)
        have TW5 := hid (show Tb rb rb wr W5 from ((TW3.out.trans hT4).own (g := wr.heap.size) (by rw [← hW5]; exact Tb.set w4 ⟨wr.heap.size, 1, none⟩ _ (.inl rfl)) (Nat.le_refl _)))
        have T5 := hid (HTb.out.trans TW5.out)
        have z5 : W5.heap.size = w4.heap.size := by rw [← hW5]; simp
        have HO5 := hid (HO.out.tbb TW5.out hlt)
        have HWi := hid (HXW.out W5 _ HS5.out)
        generalize sI l sa = sb at *
        clear hS4 hT4 HWh HS3 R3 R4 T3 HO3 TW3 T5 HO5
        go_wp2_with fail
        refine Calls.mono HWi.out ?_
        rintro e w8 ⟨rfl, hS8, hT8⟩
        have R8 := hid (show w8.heap[wr.heap.size]? = some (.cells #[.string ta, .int .i64 na, .int .i64 0] 77 (0, 0)) from (hT8.block _ (by omega) hne hne).trans R5.out)
        have z8 := hT8.size
        have q2 : w8.cell? ⟨wr.heap.size, 2, none⟩ = some (.int .i64 0) := by rw [Lib.cell_of_heap R8.out]; rfl
        have q2f : w8.frozen? ⟨wr.heap.size, 2, none⟩ = false := Lib.frozen_of_heap R8.out 2
        generalize vI l sb = ma at *
        obtain ⟨W9, hW9⟩ : ∃ W9, w8.setCell ⟨wr.heap.size, 2, none⟩ (.int .i64 ma) = W9 := ⟨_, rfl⟩
        have R9 := hid (show W9.heap[wr.heap.size]? = some (.cells #[.string ta, .int .i64 na, .int .i64 ma] 77 (0, 0)) by rw [← hW9]; exact heap_setCell_same w8 _ 2 _ _ _ R8.out)
        have HS9 := hid (show XS W9 rb v l most (sI l sb) by rw [← hW9]; exact hS8.set hlg)
        have TW9 := hid (show Tb rb rb wr W9 from ((TW5.out.trans hT8).own (g := wr.heap.size) (by rw [← hW9]; exact Tb.set w8 ⟨wr.heap.size, 2, none⟩ _ (.inl rfl)) (Nat.le_refl _)))
        have T9 := hid (HTb.out.trans TW9.out)
        have z9 : W9.heap.size = w8.heap.size := by rw [← hW9]; simp
        have HO9 := hid (HO.out.tbb TW9.out hlt)
        have q5 : W9.cell? ⟨wr.heap.size, 0, none⟩ = some (.string ta) := by rw [Lib.cell_of_heap R9.out]; rfl
        have q6 : W9.cell? ⟨wr.heap.size, 1, none⟩ = some (.int .i64 na) := by rw [Lib.cell_of_heap R9.out]; rfl
        have q7 : W9.cell? ⟨wr.heap.size, 2, none⟩ = some (.int .i64 ma) := by rw [Lib.cell_of_heap R9.out]; rfl
        obtain ⟨W6, hW6⟩ : ∃ W6, W9.alloc (.cells #[.string ta, .int .i64 na, .int .i64 ma] 77) = W6 := ⟨_, rfl⟩
        have R6 := hid (show W6.heap[w8.heap.size]? = some (.cells #[.string ta, .int .i64 na, .int .i64 ma] 77 (0, 0)) by rw [← hW6, ← z9]; exact heap_alloc_new W9 _)
        have B6 := hid (show Below W9.heap.size W9 W6 by rw [← hW6]; exact (Below.refl _ _).alloc (Nat.le_refl _) _)
        have z6 : W6.heap.size = W9.heap.size + 1 := by rw [← hW6, World.size_alloc]
        have HO6 := hid (show OLv W6 w.heap.size u3 J from HO9.out.tbb (Tb.of_below (rb := rb) B6.out) hlt)
        have hbz : w.heap.size ≤ W6.heap.size := by omega
        have hJl : J.length ≤ 1000000000000 := by have := HJ.out; omega
        clear hS8 hT8 HWi R8 HO9 HO HTb TW5 TW9
        go_wp2_with (at_builtin; go_loud (refine wpList_appV rfl _ _ rfl w.heap.size _ J rfl HO6.out w8.heap.size (ta, na, ma) rfl R6.out hJl hbz ?hnext))
        case hnext =>
        intro v7 w7 ho7 hg7
        have HO7 := hid ho7
        have T7 := hid ((T9.out.trans (Tb.of_below B6.out)).grown hg7 (fun k hk => HO6.out.block_ge k hk))
        have HS7 := hid (show XS w7 rb v l most ((F (j + 1)).1, (F (j + 1)).2.1) by
          rw [G1.out]
          refine (HS9.out.below B6.out).keep (fun k hk => hg7.block k (by omega) (fun e => ?_))
          have := HO6.out.block_ge k e.symm
          omega)
        have HJ7 := hid (show (J ++ [(ta, na, ma)]).length = j + 1 by rw [List.length_append, HJ.out]; rfl)
        have HE7 := hid (show (F (j + 1)).1 = 0 → J ++ [(ta, na, ma)] = (F (j + 1)).2.2 from fun e => by rw [G2.out e, HJE.out])
        clear ho7 hg7 HS9 T9 HO6 R9 R6 B6
        go_wp2_with fail
        go_roundw
        case rel => exact ⟨j + 1, _, by omega, by go_num, HO7.out, HJ7, T7.out, HS7.out, HE7⟩
        case measure => simp [intOf]; omega
      · have hb : (((F j).1 : Int) == 0) = false := by simp; omega
        have HF4 := hid (F4.out j hj he)
        clear he
        go_wp2
        go_ret
        have e2 := F5.out
        rw [HF4.out] at e2
        refine HXv.out _ _ J HO.out (by rw [← e2]; exact HX.out) HTb.out (fun e => ?_)
        rw [← e2] at e
        rw [show (F j).1 = 0 from e] at hb
        cases hb
    · have hI : ¬ (j : Int) < (n : Int) := by omega
      obtain rfl : j = n := by omega
      go_wp2
      go_ret
      refine HXv.out _ _ J HO.out (by rw [← F5.out]; exact HX.out) HTb.out (fun e => ?_)
      rw [← F6.out e]
      exact HE.out (by have := F5.out; rw [← this] at e; exact e)
end Go.Proofs.Ytfhicemfhkhjaab

namespace Go.Proofs.Ytfhicemfhkhjaab
open Go.RowKit
set_option maxRecDepth 100000

theorem sV_up {l : List UInt8} {most : Nat} {s : Nat × Nat} (h : (sV l most s).1 = 0) : s.1 = 0 := by
  by_cases e : s.1 = 0
  · exact e
  · rw [sV_no e] at h; exact (e h).elim
theorem sV_val {l : List UInt8} {most : Nat} {s : Nat × Nat} (h : (sV l most s).1 = 0) : (fVi l most s.2).1 = 0 ∧ (sV l most s).2 = (fVi l most s.2).2.1 := by
  have h0 := sV_up h
  rw [sV_ok h0] at h
  exact ⟨h, by rw [sV_ok h0]⟩
/-- the state behind a reply -/
def sP (l : List UInt8) (most : Nat) (s : Nat × Nat) : Nat × Nat := sI l (sV l most (sI l (sI l (sT l most s))))
theorem fRp_state (l : List UInt8) (most : Nat) (s : Nat × Nat) (h0 : s.1 = 0) : ((fRp l most s.2).1, (fRp l most s.2).2.1) = sP l most s := by
  unfold sP
  rw [fRp_eq]
  by_cases e1 : (fTx l most s.2).1 = 0
  case neg => rw [andR_no e1, sT_ok h0, sI_no (s := (_, _)) e1, sI_no (s := (_, _)) e1, sV_no (s := (_, _)) e1, sI_no (s := (_, _)) e1]
  rw [andR_ok e1, sT_ok h0]
  generalize (fTx l most s.2).2.1 = i1
  generalize (fTx l most s.2).2.2 = a1
  by_cases e2 : (fIn l i1).1 = 0
  case neg => rw [andR_no e2, sI_ok (s := (_, _)) e1, sI_no (s := (_, _)) e2, sV_no (s := (_, _)) e2, sI_no (s := (_, _)) e2]
  rw [andR_ok e2, sI_ok (s := (_, _)) e1]
  show _ = sI l (sV l most (sI l ((fIn l i1).1, (fIn l i1).2.1)))
  generalize (fIn l i1).2.1 = i2
  generalize (fIn l i1).2.2 = a2
  by_cases e3 : (fIn l i2).1 = 0
  case neg => rw [andR_no e3, sI_ok (s := (_, _)) e2, sV_no (s := (_, _)) e3, sI_no (s := (_, _)) e3]
  rw [andR_ok e3, sI_ok (s := (_, _)) e2]
  show _ = sI l (sV l most ((fIn l i2).1, (fIn l i2).2.1))
  generalize (fIn l i2).2.1 = i3
  generalize (fIn l i2).2.2 = a3
  by_cases e4 : (fVi l most i3).1 = 0
  case neg => rw [andR_no e4, sV_ok (s := (_, _)) e3, sI_no (s := (_, _)) e4]
  rw [andR_ok e4, sV_ok (s := (_, _)) e3]
  show _ = sI l ((fVi l most i3).1, (fVi l most i3).2.1)
  generalize (fVi l most i3).2.1 = i4
  generalize (fVi l most i3).2.2 = a4
  by_cases e5 : (fIn l i4).1 = 0
  case neg => rw [andR_no e5, sI_ok (s := (_, _)) e4]
  rw [andR_ok e5, sI_ok (s := (_, _)) e4]
  exact Prod.ext e5.symm rfl
theorem fRp_val (l : List UInt8) (most : Nat) (s : Nat × Nat) (h : (sP l most s).1 = 0) :
    (fRp l most s.2).2.2 = ⟨vT l most s, vI l (sT l most s), vI l (sI l (sT l most s)), (fVi l most (sI l (sI l (sT l most s))).2).2.2, vI l (sV l most (sI l (sI l (sT l most s))))⟩ := by
  unfold sP at h
  obtain ⟨e5, p5, v5⟩ := sI_val h
  have h4 := sI_up h
  obtain ⟨e4, p4⟩ := sV_val h4
  have h3 := sV_up h4
  obtain ⟨e3, p3, v3⟩ := sI_val h3
  have h2 := sI_up h3
  obtain ⟨e2, p2, v2⟩ := sI_val h2
  have h1 := sI_up h2
  obtain ⟨e1, p1, v1⟩ := sT_val h1
  rw [v1, v2, v3, v5]
  rw [p4] at e5 ⊢
  rw [p3] at e4 e5 ⊢
  rw [p2] at e3 e4 e5 ⊢
  rw [p1] at e2 e3 e4 e5 ⊢
  rw [fRp_eq, andR_ok e1, andR_ok e2, andR_ok e3, andR_ok e4, andR_ok e5]
theorem sP_no {l : List UInt8} {most : Nat} {s : Nat × Nat} (h : s.1 ≠ 0) : sP l most s = s := by
  unfold sP
  rw [sT_no h, sI_no h, sI_no h, sV_no h, sI_no h]
theorem rps_state (l : List UInt8) : (eE l (sP l 4096 (bS 82 l 4096)) ≠ 0 → rps l = (eE l (sP l 4096 (bS 82 l 4096)), eP l (sP l 4096 (bS 82 l 4096)), rp0)) ∧ (eE l (sP l 4096 (bS 82 l 4096)) = 0 → rps l = (0, 0, (fRp l 4096 (bS 82 l 4096).2).2.2) ∧ eP l (sP l 4096 (bS 82 l 4096)) = 0 ∧ (sP l 4096 (bS 82 l 4096)).1 = 0) := by
  unfold rps
  by_cases h1 : 4096 < l.length
  · have e : bS 82 l 4096 = (1, 0) := if_pos h1
    rw [e, sP_no (show ((1, 0) : Nat × Nat).1 ≠ 0 by decide), if_pos h1]
    exact ⟨fun _ => rfl, fun e => by cases e⟩
  rw [if_neg h1]
  by_cases h2 : l.length = 0
  · obtain rfl := List.eq_nil_of_length_eq_zero h2
    exact ⟨fun _ => rfl, fun e => by cases e⟩
  have h0 : 0 < l.length := by omega
  have eg : l.getD 0 0 = l[0] := by simp [h0]
  by_cases h3 : l[0] = 82
  case neg =>
    have e : bS 82 l 4096 = (90, 0) := (if_neg h1).trans ((if_neg h2).trans (if_pos (by rw [eg]; exact h3)))
    rw [e, sP_no (show ((90, 0) : Nat × Nat).1 ≠ 0 by decide), fKp_no h0 h3]
    exact ⟨fun _ => rfl, fun e => by cases e⟩
  have e : bS 82 l 4096 = (0, 1) := (if_neg h1).trans ((if_neg h2).trans (if_neg (by rw [eg]; exact fun e => e h3)))
  have eK : fKp l 4096 = fRp l 4096 1 := fKp_ok h0 h3
  rw [e, ← fRp_state l 4096 (0, 1) rfl, eK]
  show _ ∧ _
  by_cases h4 : (fRp l 4096 1).1 = 0
  · rw [if_neg (fun e => e h4)]
    have e5 : eE l ((fRp l 4096 (0, 1).2).1, (fRp l 4096 (0, 1).2).2.1) = if (fRp l 4096 1).2.1 < l.length then 4 else 0 := if_neg (fun e => e h4)
    have e6 : eP l ((fRp l 4096 (0, 1).2).1, (fRp l 4096 (0, 1).2).2.1) = if (fRp l 4096 1).2.1 < l.length then (fRp l 4096 1).2.1 else 0 := if_neg (fun e => e h4)
    rw [e5, e6]
    by_cases h5 : (fRp l 4096 1).2.1 < l.length
    · rw [if_pos h5, if_pos h5, if_pos h5]
      exact ⟨fun _ => rfl, fun e => by cases e⟩
    · rw [if_neg h5, if_neg h5, if_neg h5]
      exact ⟨fun e => (e rfl).elim, fun _ => ⟨rfl, rfl, h4⟩⟩
  · rw [if_pos h4]
    have e5 : eE l ((fRp l 4096 (0, 1).2).1, (fRp l 4096 (0, 1).2).2.1) = (fRp l 4096 1).1 := if_pos h4
    have e6 : eP l ((fRp l 4096 (0, 1).2).1, (fRp l 4096 (0, 1).2).2.1) = (fRp l 4096 1).2.1 := if_pos h4
    rw [e5, e6]
    exact ⟨fun _ => rfl, fun e => (h4 e).elim⟩
theorem fVi_len {l : List UInt8} {most i : Nat} (h : (fVi l most i).1 = 0) : (fVi l most i).2.2.length ≤ most := by
  unfold fVi at h ⊢
  split at h
  · rename_i hc; exact (hc h).elim
  · rename_i hc
    rw [if_neg hc, fVs_len l most _ _ h]
    exact ct_most (by simpa using hc)
theorem rps_levels (l : List UInt8) : (rps l).2.2.levels.length ≤ 4096 := by
  obtain ⟨m1, m2⟩ := rps_state l
  by_cases h : eE l (sP l 4096 (bS 82 l 4096)) = 0
  · obtain ⟨e1, _, e3⟩ := m2 h
    rw [e1]
    show ((fRp l 4096 (bS 82 l 4096).2).2.2).levels.length ≤ 4096
    rw [fRp_val l 4096 _ e3]
    unfold sP at e3
    exact fVi_len (sV_val (sI_up e3)).1
  · rw [m1 h]
    exact Nat.zero_le _
end Go.Proofs.Ytfhicemfhkhjaab
