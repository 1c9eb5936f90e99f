/-
  codec, the document's reader: lines.
-/
import Derived.Test.YtagjjcifpdgniaaDx3
import Derived.Deep.AppendLies
namespace Go.Proofs.Ytagjjcifpdgniaa
open Go.RowKit
set_option maxRecDepth 100000

theorem fLs_step (l : List UInt8) (most i j : Nat) (h : (fLs l most i j).1 = 0) :
    ((fLs l most i (j + 1)).1, (fLs l most i (j + 1)).2.1) = sI l (sT l most (0, (fLs l most i j).2.1)) ∧ ((fLs l most i (j + 1)).1 = 0 → (fLs l most i (j + 1)).2.2 = (fLs l most i j).2.2 ++ [(vT l most (0, (fLs l most i j).2.1), vI l (sT l most (0, (fLs l most i j).2.1)))]) := by
  have e : fLs l most i (j + 1) = if (fLn l most (fLs l most i j).2.1).1 ≠ 0 then ((fLn l most (fLs l most i j).2.1).1, (fLn l most (fLs l most i j).2.1).2.1, []) else (0, (fLn l most (fLs l most i j).2.1).2.1, (fLs l most i j).2.2 ++ [(⟨(fLn l most (fLs l most i j).2.1).2.2.1.toArray⟩, (fLn l most (fLs l most i j).2.1).2.2.2)]) := if_neg (fun e => e h)
  rw [e]
  generalize (fLs l most i j).2.1 = p at *
  generalize (fLs l most i j).2.2 = L at *
  have s1 : sT l most (0, p) = ((fTx l most p).1, (fTx l most p).2.1) := sT_ok rfl
  by_cases ht : (tx (l.drop p) most).2.2 = 0
  · have eL := fLn_ok (i := p) ht
    rw [s1, sI_ok (show ((fTx l most p).1, (fTx l most p).2.1).1 = 0 from ht), vI_ok (show ((fTx l most p).1, (fTx l most p).2.1).1 = 0 from ht), vT_ok (show ((0, p) : Nat × Nat).1 = 0 from rfl), if_pos (show (fTx l most (0, p).2).1 = 0 from ht), eL]
    by_cases hr : (rd (l.drop (p + (tx (l.drop p) most).2.1)) 0 0).2.2 = 0
    · rw [if_neg (fun e => e hr), if_pos (show (fIn l ((fTx l most p).1, (fTx l most p).2.1).2).1 = 0 from hr)]
      exact ⟨Prod.ext hr.symm rfl, fun _ => rfl⟩
    · rw [if_pos hr]
      exact ⟨rfl, fun e => (hr e).elim⟩
  · have eL := fLn_no (i := p) ht
    rw [s1, sI_no (show ((fTx l most p).1, (fTx l most p).2.1).1 ≠ 0 from ht), eL, if_pos ht]
    exact ⟨rfl, fun e => (ht e).elim⟩
theorem ct_most {d : List UInt8} {most : Nat} (h : (ct d most).2.2 = 0) : (ct d most).1 ≤ most := by
  unfold ct at h ⊢
  split
  · rename_i h1
    rw [if_pos h1] at h
    cases h
  · omega
/-- the state behind a list of lines -/
def sL (l : List UInt8) (most : Nat) (s : Nat × Nat) : Nat × Nat := if s.1 ≠ 0 then s else ((fLi l most s.2).1, (fLi l most s.2).2.1)
theorem sL_ok {l : List UInt8} {most : Nat} {s : Nat × Nat} (h : s.1 = 0) : sL l most s = ((fLi l most s.2).1, (fLi l most s.2).2.1) := if_neg (fun e => e h)
theorem sL_no {l : List UInt8} {most : Nat} {s : Nat × Nat} (h : s.1 ≠ 0) : sL l most s = s := if_pos h
/-- behind a list of lines -/
def Xl (rb : Nat) (v : Value) (l : List UInt8) (most : Nat) (s : Nat × Nat) (w : World) (e : Ending) (w' : World) : Prop :=
  ∃ v' J, e = .returned v' ∧ OLn w' w.heap.size v' J ∧ XS w' rb v l most (sL l most s) ∧ Tb rb rb w w' ∧ ((sL l most s).1 = 0 → J = (fLi l most s.2).2.2)
theorem wpList_appL {w : World} {ops : Array Oper} {rest : List Oper} {o : Oper} {a : Act} {Q : Exit → Act → World → Prop} (hgd : o.guard = none) (s x : Operand)
    (ho : o.op = .call { callee := .builtin .append, args := #[s, x], argTypes := #[26, 26] })
    (base : Nat) (v : Value) (L : List Ln) (hs : a.eval s = v) (hown : OLn w base v L) (g : Nat) (y : Ln) (hx : a.eval x = .slice (some ⟨g, 0, none⟩) 1 1) (hg : w.heap[g]? = some (.cells #[.string y.1, .int .i64 y.2] 73 (0, 0)))
    (hlen : L.length ≤ 1000000000000) (hbase : base ≤ w.heap.size)
    (h : ∀ v' w', OLn w' base v' (L ++ [y]) → w.grownBy w' v.ownBlock → wpList Try.prog ops Q rest (a.put o.dst v') w') : wpList Try.prog ops Q (o :: rest) a w := by
  obtain ⟨i, hi, hz, hsz, hby⟩ := info_parts lninfo
  refine wpList_append_own w hgd s x 26 ho base 73 i (.agg #[.string ⟨#[]⟩, .int .i64 0]) 2 24 Try.underlying26 hi hz hsz hby rfl (by decide) v L.length (lc L) hs hown ⟨g, 0, none⟩ 1 1 (lc [y]) hx rfl (World.news_of_block (cs := #[.string y.1, .int .i64 y.2]) (t := 73) (fr := (0, 0)) hg) (lc_one _) (by unfold maxLen; omega) (by omega) hbase ?_
  intro v' w' ho' hgr _
  refine h v' w' ?_ hgr
  unfold OLn
  rw [lc_app, List.length_append]
  exact ho'
theorem OLn.block_ge {w : World} {base : Nat} {v : Value} {L : List Ln} (h : OLn w base v L) : ∀ k, v.ownBlock = some k → base ≤ k := fun k hk => (World.ownsRow.lt h k hk).1
theorem OLn.tbb {w w' : World} {base rb : Nat} {v : Value} {L : List Ln} (h : OLn w base v L) (hk : Tb rb rb w w') (hb : rb < base) : OLn w' base v L := by
  refine ⟨h.1, ?_⟩
  rcases h.2 with g | ⟨x, y, z, g1, g2, g3, g4⟩
  · exact .inl g
  · exact .inr ⟨x, y, z, g1, g2, (hk.block x (Array.getElem?_eq_some_iff.1 g3).1 (by omega) (by omega)).trans g3, g4⟩
theorem Tb.of_below {rb : Nat} {w w' : World} (h : Below w.heap.size w w') : Tb rb rb w w' := ⟨h.os, h.tape, h.output, h.size, fun k hk _ _ => h.block k hk⟩
/-- new blocks turn as they will -/
theorem Tb.own {rb g : Nat} {w W w' : World} (h : Tb rb rb w W) (k : Tb g g W w') (hg : w.heap.size ≤ g) : Tb rb rb w w' :=
  ⟨k.os.trans h.os, k.tape.trans h.tape, k.output.trans h.output, Nat.le_trans h.size k.size, fun j hj h1 h2 => (k.block j (Nat.lt_of_lt_of_le hj h.size) (by omega) (by omega)).trans (h.block j hj h1 h2)⟩
theorem Tb.grown {rb : Nat} {w W w' : World} {o : Option Nat} (h : Tb rb rb w W) (k : W.grownBy w' o) (hg : ∀ j, o = some j → w.heap.size ≤ j) : Tb rb rb w w' :=
  ⟨k.os.trans h.os, k.tape.trans h.tape, k.output.trans h.output, Nat.le_trans h.size k.size, fun j hj h1 h2 => (k.block j (Nat.lt_of_lt_of_le hj h.size) (fun e => by have := hg j e.symm; omega)).trans (h.block j hj h1 h2)⟩
theorem lines_model (l : List UInt8) (most : Nat) (s : Nat × Nat) : ∃ F : Nat → Nat × Nat × List Ln,
    ((F 0).1, (F 0).2.1) = sC l most s ∧ ((F 0).1 = 0 → (F 0).2.2 = []) ∧
    (∀ j, j < vC l most s → (F j).1 = 0 → ((F (j + 1)).1, (F (j + 1)).2.1) = sI l (sT l most (0, (F j).2.1)) ∧ ((F (j + 1)).1 = 0 → (F (j + 1)).2.2 = (F j).2.2 ++ [(vT l most (0, (F j).2.1), vI l (sT l most (0, (F j).2.1)))])) ∧
    (∀ j, j ≤ vC l most s → (F j).1 ≠ 0 → ((F (vC l most s)).1, (F (vC l most s)).2.1) = ((F j).1, (F j).2.1)) ∧
    ((F (vC l most s)).1, (F (vC l most s)).2.1) = sL l most s ∧ ((sL l most s).1 = 0 → (F (vC l most s)).2.2 = (fLi l most s.2).2.2) ∧ vC l most s ≤ most := by
  by_cases h0 : s.1 = 0
  · by_cases h1 : (ct (l.drop s.2) most).2.2 = 0
    · have e1 : vC l most s = (ct (l.drop s.2) most).1 := (vC_ok h0).trans (if_pos h1)
      have e2 : fLi l most s.2 = fLs l most (s.2 + (ct (l.drop s.2) most).2.1) (ct (l.drop s.2) most).1 := if_neg (fun e => e h1)
      rw [e1, sC_ok h0, sL_ok h0, e2]
      refine ⟨fLs l most (s.2 + (ct (l.drop s.2) most).2.1), Prod.ext h1.symm rfl, fun _ => rfl, fun j _ hj => fLs_step l most _ j hj, fun j hj he => ?_, rfl, fun _ => rfl, ct_most h1⟩
      have := fLs_stuck l most _ j he _ hj
      rw [this.1, this.2]
    · have e1 : vC l most s = 0 := (vC_ok h0).trans (if_neg h1)
      have e2 : fLi l most s.2 = ((ct (l.drop s.2) most).2.2, s.2 + (ct (l.drop s.2) most).2.1, []) := if_pos h1
      rw [e1, sC_ok h0, sL_ok h0, e2]
      exact ⟨fun _ => ((ct (l.drop s.2) most).2.2, s.2 + (ct (l.drop s.2) most).2.1, []), rfl, fun _ => rfl, fun j hj => by omega, fun _ _ _ => rfl, rfl, fun _ => rfl, by omega⟩
  · rw [vC_no h0, sC_no h0, sL_no h0]
    exact ⟨fun _ => (s.1, s.2, []), rfl, fun _ => rfl, fun j hj => by omega, fun _ _ _ => rfl, rfl, fun e => (h0 e).elim, by omega⟩
set_option maxHeartbeats 2000000 in
theorem xlines_any (w : World) {rb most : Nat} {v : Value} {l : List UInt8} {s : Nat × Nat} (h : XS w rb v l most s) (hm : most ≤ 1000000000) :
    Calls Try.prog 88 #[.pointer (some ⟨rb, 0, none⟩)] w fun e w' => Xl rb v l most s w e w' := by
  have HM := hid (xmany_any w h hm)
  have hlt := h.lt
  obtain ⟨F, f1, f2, f3, f4, f5, f6, f7⟩ := lines_model l most s
  have HXl := hid (fun (w' : World) (v' : Value) (J : List Ln) (h1 : OLn w' w.heap.size v' J) (h2 : XS w' rb v l most (sL l most s)) (h3 : Tb rb rb w w') (h4 : (sL l most s).1 = 0 → J = (fLi l most s.2).2.2) => (show Xl rb v l most s w (.returned v') w' from ⟨v', J, rfl, h1, h2, h3, h4⟩))
  generalize sC l most s = s1 at *
  generalize vC l most s = n at *
  generalize sL l most s = s2 at *
  have F1 := hid f1
  have F2 := hid f2
  have F3 := hid f3
  have F4 := hid f4
  have F5 := hid f5
  have F6 := hid f6
  have HXT := hid (fun (wx : World) (sx : Nat × Nat) (hx : XS wx rb v l most sx) => xtext_any wx hx hm)
  have HXW := hid (fun (wx : World) (sx : Nat × Nat) (hx : XS wx rb v l most sx) => xwhole_any wx hx)
  clear f1 f2 f3 f4 f5 f6 h
  have hn9 : (n : Int) ≤ 1000000000 := by omega
  go_enter Try.func88, Try.ntmps88
  go_wp2_with fail
  refine Calls.mono HM.out ?_
  rintro e w1 ⟨rfl, hS, hT⟩
  have HS := hid hS
  have HT := hid hT
  clear hS hT HM
  go_wp2_with fail
  go_loopw [3, 5] (fun vl vi wx => ∃ (j : Nat) (J : List Ln), j ≤ n ∧ vi = .int .i64 (j : Int) ∧ OLn wx w.heap.size vl J ∧ Hid (J.length = j) ∧ Tb rb rb w wx ∧ XS wx rb v l most ((F j).1, (F j).2.1) ∧ Hid ((F j).1 = 0 → J = (F j).2.2)) (fun _ vi _ => n - (intOf vi).toNat)
  case atStart => exact ⟨0, [], Nat.zero_le _, rfl, World.ownsRow_nil _ _ _ _, rfl, HT.out, by rw [F1.out]; exact HS.out, fun e => (F2.out e).symm⟩
  case round =>
    obtain ⟨j, J, hj, rfl, ho, HJ, ht, hx, HE⟩ := hrel
    have HO := hid ho
    have HTb := hid ht
    have HX := hid hx
    have ce := hx.e
    have hzw := ht.size
    clear ho ht hx
    by_cases hjn : j < n
    · have hI : (j : Int) < (n : Int) := by omega
      by_cases he : (F j).1 = 0
      · rw [he] at ce
        obtain ⟨g1, g2⟩ := F3.out j hjn he
        have G1 := hid g1
        have G2 := hid g2
        have HP0 := hid (show XS wr rb v l most (0, (F j).2.1) by have := HX.out; rw [he] at this; exact this)
        have HJE := hid (HE.out he)
        clear g1 g2 HX HE he
        generalize (F j).2.1 = p at *
        obtain ⟨W, hW⟩ : ∃ W, wr.alloc (.cells #[.string ⟨#[]⟩, .int .i64 0] 73) = W := ⟨_, rfl⟩
        have zW : W.heap.size = wr.heap.size + 1 := by rw [← hW, World.size_alloc]
        have bW : Below wr.heap.size wr W := by rw [← hW]; exact (Below.refl _ _).alloc (Nat.le_refl _) _
        have rW : W.heap[wr.heap.size]? = some (.cells #[.string ⟨#[]⟩, .int .i64 0] 73 (0, 0)) := by rw [← hW]; exact heap_alloc_new wr _
        have HSW := hid (HP0.out.below bW)
        have HTx := hid (HXT.out W _ HSW.out)
        have BW := hid bW
        have RW := hid rW
        have hlg : rb < wr.heap.size := HP0.out.lt
        have HW := hid hW
        clear bW rW hW
        go_wp2_with fail
        rw [HW.out]
        refine Calls.mono HTx.out ?_
        rintro e w2 ⟨rfl, hS2, hT2⟩
        have hg2 : wr.heap.size < W.heap.size := by omega
        have hne : wr.heap.size ≠ rb := by omega
        have R2 := hid (show w2.heap[wr.heap.size]? = some (.cells #[.string ⟨#[]⟩, .int .i64 0] 73 (0, 0)) from (hT2.block _ hg2 hne hne).trans RW.out)
        have z2 := hT2.size
        have q0 : w2.cell? ⟨wr.heap.size, 0, none⟩ = some (.string ⟨#[]⟩) := by rw [Lib.cell_of_heap R2.out]; rfl
        have q0f : w2.frozen? ⟨wr.heap.size, 0, none⟩ = false := Lib.frozen_of_heap R2.out 0
        generalize vT l most (0, p) = ta at *
        obtain ⟨W3, hW3⟩ : ∃ W3, w2.setCell ⟨wr.heap.size, 0, none⟩ (.string ta) = W3 := ⟨_, rfl⟩
        have R3 := hid (show W3.heap[wr.heap.size]? = some (.cells #[.string ta, .int .i64 0] 73 (0, 0)) by rw [← hW3]; exact heap_setCell_same w2 _ 0 _ _ _ R2.out)
        have HS3 := hid (show XS W3 rb v l most (sT l most (0, p)) by rw [← hW3]; exact hS2.set hlg)
        have TW3 := hid (show Tb rb rb wr W3 from (((Tb.of_below BW.out).trans hT2).own (g := wr.heap.size) (by rw [← hW3]; exact Tb.set w2 ⟨wr.heap.size, 0, none⟩ _ (.inl rfl)) (Nat.le_refl _)))
        have T3 := hid (HTb.out.trans TW3.out)
        have z3 : W3.heap.size = w2.heap.size := by rw [← hW3]; simp
        have HO3 := hid (HO.out.tbb TW3.out hlt)
        have HWh := hid (HXW.out W3 _ HS3.out)
        generalize sT l most (0, p) = sa at *
        clear hS2 hT2 HTx HSW HP0 R2 BW RW
        go_wp2_with fail
        refine Calls.mono HWh.out ?_
        rintro e w4 ⟨rfl, hS4, hT4⟩
        have R4 := hid (show w4.heap[wr.heap.size]? = some (.cells #[.string ta, .int .i64 0] 73 (0, 0)) from (hT4.block _ (by omega) hne hne).trans R3.out)
        have z4 := hT4.size
        have q1 : w4.cell? ⟨wr.heap.size, 1, none⟩ = some (.int .i64 0) := by rw [Lib.cell_of_heap R4.out]; rfl
        have q1f : w4.frozen? ⟨wr.heap.size, 1, none⟩ = false := Lib.frozen_of_heap R4.out 1
        generalize vI l sa = na at *
        obtain ⟨W5, hW5⟩ : ∃ W5, w4.setCell ⟨wr.heap.size, 1, none⟩ (.int .i64 na) = W5 := ⟨_, rfl⟩
        have R5 := hid (show W5.heap[wr.heap.size]? = some (.cells #[.string ta, .int .i64 na] 73 (0, 0)) by rw [← hW5]; exact heap_setCell_same w4 _ 1 _ _ _ R4.out)
        have HS5 := hid (show XS W5 rb v l most (sI l sa) by rw [← hW5]; exact hS4.set hlg)
        have TW5 := hid (show Tb rb rb wr W5 from ((TW3.out.trans hT4).own (g := wr.heap.size) (by rw [← hW5]; exact Tb.set w4 ⟨wr.heap.size, 1, none⟩ _ (.inl rfl)) (Nat.le_refl _)))
        have T5 := hid (HTb.out.trans TW5.out)
        have z5 : W5.heap.size = w4.heap.size := by rw [← hW5]; simp
        have HO5 := hid (HO.out.tbb TW5.out hlt)
        have q5 : W5.cell? ⟨wr.heap.size, 0, none⟩ = some (.string ta) := by rw [Lib.cell_of_heap R5.out]; rfl
        have q6 : W5.cell? ⟨wr.heap.size, 1, none⟩ = some (.int .i64 na) := by rw [Lib.cell_of_heap R5.out]; rfl
        obtain ⟨W6, hW6⟩ : ∃ W6, W5.alloc (.cells #[.string ta, .int .i64 na] 73) = W6 := ⟨_, rfl⟩
        have R6 := hid (show W6.heap[w4.heap.size]? = some (.cells #[.string ta, .int .i64 na] 73 (0, 0)) by rw [← hW6, ← z5]; exact heap_alloc_new W5 _)
        have B6 := hid (show Below W5.heap.size W5 W6 by rw [← hW6]; exact (Below.refl _ _).alloc (Nat.le_refl _) _)
        have z6 : W6.heap.size = W5.heap.size + 1 := by rw [← hW6, World.size_alloc]
        have HO6 := hid (show OLn W6 w.heap.size u3 J from HO5.out.tbb (Tb.of_below (rb := rb) B6.out) hlt)
        have hbz : w.heap.size ≤ W6.heap.size := by omega
        have hJl : J.length ≤ 1000000000000 := by have := HJ.out; omega
        clear hS4 hT4 HWh HS3 R3 R4 T3 HO3 HO5 HO HTb TW3 TW5
        go_wp2_with (at_builtin; go_loud (refine wpList_appL rfl _ _ rfl w.heap.size _ J rfl HO6.out w4.heap.size (ta, na) rfl R6.out hJl hbz ?hnext))
        case hnext =>
        intro v7 w7 ho7 hg7
        have HO7 := hid ho7
        have T7 := hid ((T5.out.trans (Tb.of_below B6.out)).grown hg7 (fun k hk => HO6.out.block_ge k hk))
        have HS7 := hid (show XS w7 rb v l most ((F (j + 1)).1, (F (j + 1)).2.1) by
          rw [G1.out]
          refine (HS5.out.below B6.out).keep (fun k hk => hg7.block k (by omega) (fun e => ?_))
          have := HO6.out.block_ge k e.symm
          omega)
        have HJ7 := hid (show (J ++ [(ta, na)]).length = j + 1 by rw [List.length_append, HJ.out]; rfl)
        have HE7 := hid (show (F (j + 1)).1 = 0 → J ++ [(ta, na)] = (F (j + 1)).2.2 from fun e => by rw [G2.out e, HJE.out])
        clear ho7 hg7 HS5 T5 HO6 R5 R6 B6
        go_wp2_with fail
        go_roundw
        case rel => exact ⟨j + 1, _, by omega, by go_num, HO7.out, HJ7, T7.out, HS7.out, HE7⟩
        case measure => simp [intOf]; omega
      · have hb : (((F j).1 : Int) == 0) = false := by simp; omega
        have HF4 := hid (F4.out j hj he)
        clear he
        go_wp2
        go_ret
        have e2 := F5.out
        rw [HF4.out] at e2
        refine HXl.out _ _ J HO.out (by rw [← e2]; exact HX.out) HTb.out (fun e => ?_)
        rw [← e2] at e
        rw [show (F j).1 = 0 from e] at hb
        cases hb
    · have hI : ¬ (j : Int) < (n : Int) := by omega
      obtain rfl : j = n := by omega
      go_wp2
      go_ret
      refine HXl.out _ _ J HO.out (by rw [← F5.out]; exact HX.out) HTb.out (fun e => ?_)
      rw [← F6.out e]
      exact HE.out (by have := F5.out; rw [← this] at e; exact e)
end Go.Proofs.Ytagjjcifpdgniaa
