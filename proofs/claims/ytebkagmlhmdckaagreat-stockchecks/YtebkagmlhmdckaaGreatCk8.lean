/-
  stock: the document's put, one line among lines in order.
-/
import Derived.Test.YtebkagmlhmdckaaGreatCk1
import Derived.Deep.AppendLies
import Derived.Deep.RegionHeld3
import Derived.Deep.Cut
namespace Go.Proofs.YtebkagmlhmdckaaGreat
open Go.RowKit
set_option maxRecDepth 100000
set_option linter.unusedSimpArgs false

theorem wpList_appL {w : World} {ops : Array Oper} {rest : List Oper} {o : Oper} {a : Act} {Q : Exit → Act → World → Prop} (hgd : o.guard = none) (s x : Operand)
    (ho : o.op = .call { callee := .builtin .append, args := #[s, x], argTypes := #[22, 22] })
    (base : Nat) (v : Value) (L : List Ln) (hs : a.eval s = v) (hown : OLn w base v L) (g : Nat) (y : Ln) (hx : a.eval x = .slice (some ⟨g, 0, none⟩) 1 1) (hg : w.heap[g]? = some (.cells #[.string y.1, .int .i64 y.2] 45 (0, 0)))
    (hlen : L.length ≤ 1000000000000) (hbase : base ≤ w.heap.size)
    (h : ∀ v' w', OLn w' base v' (L ++ [y]) → w.grownBy w' v.ownBlock → wpList Tryz.prog ops Q rest (a.put o.dst v') w') : wpList Tryz.prog ops Q (o :: rest) a w := by
  obtain ⟨i, hi, hz, hsz, hby⟩ := info_parts lninfo
  refine wpList_append_own w hgd s x 22 ho base 45 i (.agg #[.string ⟨#[]⟩, .int .i64 0]) 2 24 Tryz.underlying22 hi hz hsz hby rfl (by decide) v L.length (lc L) hs hown ⟨g, 0, none⟩ 1 1 (lc [y]) hx rfl (World.news_of_block (cs := #[.string y.1, .int .i64 y.2]) (t := 45) (fr := (0, 0)) hg) (lc_one _) (by unfold maxLen; omega) (by omega) hbase ?_
  intro v' w' ho' hgr _
  refine h v' w' ?_ hgr
  unfold OLn
  rw [lc_app, List.length_append]
  exact ho'
theorem OLn.block_ge {w : World} {base : Nat} {v : Value} {L : List Ln} (h : OLn w base v L) : ∀ k, v.ownBlock = some k → base ≤ k := fun k hk => (World.ownsRow.lt h k hk).1
theorem OLn.old {w w' : World} {base : Nat} {v : Value} {L : List Ln} (h : OLn w base v L) (hk : ∀ k, base ≤ k → k < w.heap.size → w'.heap[k]? = w.heap[k]?) : OLn w' base v L := by
  refine ⟨h.1, ?_⟩
  rcases h.2 with g | ⟨x, y, z, g1, g2, g3, g4⟩
  · exact .inl g
  · exact .inr ⟨x, y, z, g1, g2, (hk x g2 (Array.getElem?_eq_some_iff.1 g3).1).trans g3, g4⟩
theorem OLn.lower {w : World} {B B' : Nat} {v : Value} {L : List Ln} (h : OLn w B v L) (hb : B' ≤ B) : OLn w B' v L := by
  refine ⟨h.1, ?_⟩
  rcases h.2 with g | ⟨x, y, z, g1, g2, g3⟩
  · exact .inl g
  · exact .inr ⟨x, y, z, g1, by omega, g3⟩
theorem OLn.form {w : World} {base : Nat} {v : Value} {L : List Ln} (h : OLn w base v L) : ∃ ao n c, v = .slice ao n c := by
  rcases h.2 with ⟨g, _⟩ | ⟨x, y, z, g1, _⟩
  · exact ⟨_, _, _, g⟩
  · exact ⟨_, _, _, g1⟩
theorem OLn.none (w : World) (B : Nat) : OLn w B (.slice none 0 0) [] := World.ownsRow_nil _ _ _ _
/-- append of one line that lies in a block, as an equation -/
theorem run_appL {w : World} {base : Nat} {v : Value} {L : List Ln} (hown : OLn w base v L) (g : Nat) (y : Ln) (hg : w.heap[g]? = some (.cells #[.string y.1, .int .i64 y.2] 45 (0, 0))) (hlen : L.length ≤ 1000000000000) (hbase : base ≤ w.heap.size) (ty : TypeId) :
    ∃ v' w', (Builtin.append_ #[22, 22] ty #[v, .slice (some ⟨g, 0, none⟩) 1 1]).run Tryz.prog w = .ok v' w' ∧ OLn w' base v' (L ++ [y]) ∧ w.grownBy w' v.ownBlock := by
  obtain ⟨i, hi, hz, hsz, hby⟩ := info_parts lninfo
  have h := run_append_own (P := Tryz.prog) (w := w) base 22 ty 45 i (.agg #[.string ⟨#[]⟩, .int .i64 0]) 2 24 Tryz.underlying22 hi hz hsz hby rfl (by decide) v L.length (lc L) hown ⟨g, 0, none⟩ 1 1 (lc [y]) rfl (World.news_of_block (cs := #[.string y.1, .int .i64 y.2]) (t := 45) (fr := (0, 0)) hg) (lc_one _) (by unfold maxLen; omega) (by omega) hbase
  obtain ⟨v', w', h1, h2, h3, _⟩ := h
  refine ⟨v', w', h1, ?_, h3⟩
  unfold OLn
  rw [lc_app, List.length_append]
  exact h2
theorem step_appL {ops : Array Oper} {o : Oper} {a : Act} {w w' : World} {K : Act → World → Prop} {Q : Exit → Act → World → Prop} {E : Prop} {v xv v' : Value}
    (hg : o.guard = none) (s x : Operand) (hop : o.op = Op.call { callee := Callee.builtin Builtin.append, args := #[s, x], argTypes := #[22, 22] })
    (hs : a.eval s = v) (hx : a.eval x = xv) (hrun : (Builtin.append_ #[22, 22] o.type #[v, xv]).run Tryz.prog w = .ok v' w') (hK : K (a.put o.dst v') w') :
    if Region.wanted o (yielded ops a.tmps) = true then Oper.wp Tryz.prog o a w K Q else E := by
  have hw : Region.wanted o (yielded ops a.tmps) = true := by simp [Region.wanted, hg]
  rw [if_pos hw]
  unfold Oper.wp
  simp [execOp, hop, resolve, invoke, builtin, hs, hx, hrun, Result.andThen]
  exact hK
theorem ptS_len (x : Ln) : ∀ (N : List Ln) (s : List Ln × Bool), (N.foldl (ptS x) s).1.length ≤ s.1.length + 2 * N.length
  | [], s => by simp
  | a :: t, s => by
    have h := ptS_len x t (ptS x s a)
    have h2 : (ptS x s a).1.length ≤ s.1.length + 2 := by
      unfold ptS
      split
      · simp
      · split <;> simp
    simp only [List.foldl_cons, List.length_cons]
    omega
theorem pt_step (x : Ln) (N : List Ln) (k : Nat) (h : k < N.length) : (N.take (k + 1)).foldl (ptS x) ([], false) = ptS x ((N.take k).foldl (ptS x) ([], false)) N[k] := by
  rw [List.take_succ_eq_append_getElem h, List.foldl_append]
  rfl
set_option maxHeartbeats 8000000 in
theorem put_any (v : Value) (N : List Ln) (x : Ln) (w : World) (hR : RLn w v N) (hl : N.length ≤ 1000000) :
    Calls Tryz.prog 24 #[v, .agg #[.string x.1, .int .i64 x.2]] w fun e w' => ∃ v', e = .returned v' ∧ OLn w' w.heap.size v' (pt N x) ∧ Below w.heap.size w w' := by
  obtain ⟨ao, cap, rfl⟩ := hR.form
  obtain ⟨W, hW⟩ : ∃ W, w.alloc (.cells #[.string x.1, .int .i64 x.2] 45) = W := ⟨_, rfl⟩
  have HRW : W.heap[w.heap.size]? = some (.cells #[.string x.1, .int .i64 x.2] 45 (0, 0)) := by rw [← hW]; exact heap_alloc_new w _
  have BW := hid (show Below w.heap.size w W by rw [← hW]; exact (Below.refl _ _).alloc (Nat.le_refl _) _)
  have zW : W.heap.size = w.heap.size + 1 := by rw [← hW, World.size_alloc]
  have KX := hid (fun (wx : World) (hb : Below W.heap.size W wx) => (show wx.cell? ⟨w.heap.size, 0, none⟩ = some (.string x.1) ∧ wx.cell? ⟨w.heap.size, 1, none⟩ = some (.int .i64 x.2) from by
    have hx := (hb.block w.heap.size (by omega)).trans HRW
    exact ⟨by rw [Lib.cell_of_heap hx]; rfl, by rw [Lib.cell_of_heap hx]; rfl⟩))
  have HL := hid (hR.below BW.out)
  have HW := hid hW
  have ZW := hid zW
  clear hR HRW hW zW
  go_enter Tryz.func24, Tryz.ntmps24
  go_wp2_with fail
  try rw [HW.out]
  go_loopw [5, 6, 7] (fun o d i wr => ∃ k : Nat, k ≤ N.length ∧ i = .int .i64 (k : Int) ∧ OLn wr W.heap.size o ((N.take k).foldl (ptS x) ([], false)).1 ∧ d = .bool ((N.take k).foldl (ptS x) ([], false)).2 ∧ Below W.heap.size W wr) (fun _ _ i _ => N.length - (intOf i).toNat)
  case atStart => exact ⟨0, by omega, rfl, OLn.none _ _, rfl, Below.refl _ _⟩
  case round =>
    obtain ⟨k, hk, rfl, ho, rfl, hb⟩ := hrel
    have hz := hb.size
    obtain ⟨oo, on, oc, rfl⟩ := ho.form
    by_cases h : k < N.length
    · have hI : (k : Int) < (N.length : Int) := by omega
      have HT := hid (pt_step x N k h)
      have hln := ptS_len x (N.take k) ([], false)
      rw [List.length_take, Nat.min_eq_left (by omega)] at hln
      rcases HL.out with ⟨e0, _⟩ | ⟨b, off, cp, hv, hcp, hcell⟩
      · rw [e0] at h; simp at h
      cases hv
      have hxx : ∃ y q : _, (N[k]'h).1 = y ∧ (N[k]'h).2 = q := ⟨_, _, rfl, rfl⟩
      obtain ⟨y, q, ex, ey⟩ := hxx
      have K := hid (fun (wx : World) (hx : Below W.heap.size W wx) => (show (wx.cell? ⟨w.heap.size, 0, none⟩ = some (.string x.1) ∧ wx.cell? ⟨w.heap.size, 1, none⟩ = some (.int .i64 x.2)) ∧ wx.cell? ⟨b, off + k * 2, none⟩ = some (.string y) ∧ wx.cell? ⟨b, off + k * 2 + 1, none⟩ = some (.int .i64 q) from
        ⟨KX.out wx hx, by rw [← ex]; exact below_cells hx _ _ (hcell k h).1, by rw [← ey]; exact below_cells hx _ _ (hcell k h).2⟩))
      generalize (N.take k).foldl (ptS x) ([], false) = s at *
      have HO := hid ho
      have HB := hid hb
      have c := fun n => K.out _ (below_drewN hb n)
      have c0 := fun n => (c n).1.1
      have d0 := fun n => (c n).2.1
      clear ho hb hcell hcp c
      by_cases hk9 : ky (N[k]'h) = ky x
      · have HT := hid (HT.out.trans (show ptS x s (N[k]'h) = (s.1 ++ [(x.1, wrap64 (q + x.2))], true) by rw [← ey]; exact if_pos hk9))
        have eb : (y.toList == x.1.toList) = true := by
          unfold ky at hk9
          rw [ex] at hk9
          rw [ByteArray.toList_eq, ByteArray.toList_eq, hk9]
          simp
        clear hk9
        go_wp2_with fail
        go_quiet (fail)
        obtain ⟨wq, hwq⟩ : ∃ wq, wr.drewN nq = wq := ⟨_, rfl⟩
        have bq : Below W.heap.size W wq := by rw [← hwq]; exact below_drewN HB.out nq
        have hoq : OLn wq W.heap.size (.slice oo on oc) s.1 := by rw [← hwq]; exact HO.out.old (fun _ _ _ => rfl)
        have zq := bq.size
        rw [hwq]
        clear hwq c0 d0 eb
        have sA : Below W.heap.size W wq.drew := bq.drew
        have sB : Below W.heap.size W (wq.alloc (.cells #[.string x.1, .int .i64 (IntKind.i64.wrap (q + x.2))] 45)) := bq.alloc zq _
        have sD : Below W.heap.size W (wq.alloc (.cells #[.string x.1, .int .i64 (IntKind.i64.wrap (q + x.2))] 45)).drew := sB.drew
        obtain ⟨v', w', hap, ho', hg'⟩ := run_appL (w := (wq.alloc (.cells #[.string x.1, .int .i64 (IntKind.i64.wrap (q + x.2))] 45)).drew) (base := W.heap.size) (L := s.1) (hoq.old (fun j _ hj => ((Below.refl wq.heap.size wq).alloc (Nat.le_refl _) _).block j hj)) wq.heap.size (x.1, IntKind.i64.wrap (q + x.2)) (heap_alloc_new wq _) (by simp at hln; omega) sD.size 22
        rw [show IntKind.i64.wrap (q + x.2) = wrap64 (q + x.2) from IntWalk.i64_left _] at ho'
        have sC : Below W.heap.size W w' := sD.grown hg' sD.size (fun j hj => hoq.block_ge j hj)
        have HO' := hid ho'
        have SC := hid sC
        clear ho' hg' hoq
        go_upto_region 7 with fail
        go_region_held3 (fun wx => (wx.cell? ⟨w.heap.size, 0, none⟩ = some (.string x.1) ∧ wx.cell? ⟨w.heap.size, 1, none⟩ = some (.int .i64 x.2)) ∧ wx.cell? ⟨b, off + k * 2, none⟩ = some (.string y) ∧ wx.cell? ⟨b, off + k * 2 + 1, none⟩ = some (.int .i64 q)) (exact K.out _ (by assumption)) (refine step_appL rfl (.tmp 22) (.tmp 34) rfl rfl rfl hap ?_)
        all_goals
          go_wp2_with fail
          go_roundw
          case rel => exact ⟨k + 1, by omega, by go_num, by rw [HT.out]; exact HO'.out, by rw [HT.out], SC.out⟩
          case measure => simp [intOf]; omega
      · have hkn := hk9
        have eb : (y.toList == x.1.toList) = false := by
          unfold ky at hk9
          rw [ex] at hk9
          rw [ByteArray.toList_eq, ByteArray.toList_eq]
          simpa using hk9
        have exy : N[k]'h = (y, q) := Prod.ext ex ey
        rw [exy] at HT hkn
        clear hk9
        cases hs2 : s.2 with
        | true =>
          have HT := hid (HT.out.trans (show ptS x s (y, q) = (s.1 ++ [(y, q)], true) by rw [← hs2]; exact (if_neg hkn).trans (if_neg (by rw [hs2]; simp))))
          clear hkn
          go_wp2_with fail
          go_quiet (fail)
          obtain ⟨wp, hwp⟩ : ∃ wp, wr.drewN nq = wp := ⟨_, rfl⟩
          have bp : Below W.heap.size W wp := by rw [← hwp]; exact below_drewN HB.out nq
          have hop : OLn wp W.heap.size (.slice oo on oc) s.1 := by rw [← hwp]; exact HO.out.old (fun _ _ _ => rfl)
          rw [hwp]
          clear hwp c0 d0 eb nq
          have e0 := fun n => (K.out _ (below_drewN bp n)).1.1
          have f0 := fun n => (K.out _ (below_drewN bp n)).2.1
          have e0' := (K.out _ bp).1.1
          have f0' := (K.out _ bp).2.1
          go_wp2_with fail
          go_quiet (fail)
          obtain ⟨wq, hwq⟩ : ∃ wq, wp.drewN nq = wq := ⟨_, rfl⟩
          have BQ := hid (show Below W.heap.size W wq by rw [← hwq]; exact below_drewN bp nq)
          have HQ := hid (show OLn wq W.heap.size (.slice oo on oc) s.1 by rw [← hwq]; exact hop.old (fun _ _ _ => rfl))
          rw [hwq]
          clear hwq e0 f0 e0' f0' hop bp nq
          obtain ⟨⟨x0, x1⟩, y0, y1⟩ := K.out _ BQ.out
          obtain ⟨W5, hW5⟩ : ∃ W9, wq.alloc (.cells #[.string y, .int .i64 q] 45) = W9 := ⟨_, rfl⟩
          have R5 := hid (show W5.heap[wq.heap.size]? = some (.cells #[.string y, .int .i64 q] 45 (0, 0)) by rw [← hW5]; exact heap_alloc_new wq _)
          have b5 : Below wq.heap.size wq W5 := by rw [← hW5]; exact (Below.refl _ _).alloc (Nat.le_refl _) _
          have BB5 := hid (BQ.out.trans (b5.mono BQ.out.size))
          have HW5 := hid (show OLn W5 W.heap.size (.slice oo on oc) (s.1) from HQ.out.old (fun j _ hj => b5.block j hj))
          clear b5
          go_wp2_with (at_builtin; refine wpList_appL rfl (.tmp 52) (.tmp 57) rfl W.heap.size _ (s.1) rfl HW5.out wq.heap.size (y, q) rfl R5.out (by simp at hln ⊢; omega) BB5.out.size ?hnext5)
          case hnext5 =>
          intro v5 w5 ho5 hg5
          have HO5 := hid ho5
          have B5 := hid (BB5.out.grown hg5 BB5.out.size (fun j hj => HW5.out.block_ge j hj))
          clear ho5 hg5 HW5 R5 BB5 hW5
          clear x0 x1 y0 y1
          go_wp2_with fail
          go_roundw
          case rel => exact ⟨k + 1, by omega, by go_num, by rw [HT.out]; exact HO5.out, by rw [HT.out], B5.out⟩
          case measure => simp [intOf]; omega
        | false =>
          by_cases lt : ky x < ky (y, q)
          · have HT := hid (HT.out.trans (show ptS x s (y, q) = (s.1 ++ [x, (y, q)], true) from (if_neg hkn).trans (if_pos ⟨hs2, lt⟩)))
            clear hkn
            have lb : Op.bytesLess x.1.toList y.toList = true := by
              rw [bytesLess_eq, ByteArray.toList_eq, ByteArray.toList_eq]
              exact decide_eq_true lt
            clear lt
            go_wp2_with fail
            go_quiet (fail)
            obtain ⟨wp, hwp⟩ : ∃ wp, wr.drewN nq = wp := ⟨_, rfl⟩
            have bp : Below W.heap.size W wp := by rw [← hwp]; exact below_drewN HB.out nq
            have hop : OLn wp W.heap.size (.slice oo on oc) s.1 := by rw [← hwp]; exact HO.out.old (fun _ _ _ => rfl)
            rw [hwp]
            clear hwp c0 d0 eb nq
            have e0 := fun n => (K.out _ (below_drewN bp n)).1.1
            have f0 := fun n => (K.out _ (below_drewN bp n)).2.1
            have e0' := (K.out _ bp).1.1
            have f0' := (K.out _ bp).2.1
            go_wp2_with fail
            go_quiet (fail)
            obtain ⟨wq, hwq⟩ : ∃ wq, wp.drewN nq = wq := ⟨_, rfl⟩
            have BQ := hid (show Below W.heap.size W wq by rw [← hwq]; exact below_drewN bp nq)
            have HQ := hid (show OLn wq W.heap.size (.slice oo on oc) s.1 by rw [← hwq]; exact hop.old (fun _ _ _ => rfl))
            rw [hwq]
            clear hwq e0 f0 e0' f0' hop bp nq
            clear lb
            obtain ⟨⟨x0, x1⟩, y0, y1⟩ := K.out _ BQ.out
            obtain ⟨W5, hW5⟩ : ∃ W9, wq.alloc (.cells #[.string x.1, .int .i64 x.2] 45) = W9 := ⟨_, rfl⟩
            have R5 := hid (show W5.heap[wq.heap.size]? = some (.cells #[.string x.1, .int .i64 x.2] 45 (0, 0)) by rw [← hW5]; exact heap_alloc_new wq _)
            have b5 : Below wq.heap.size wq W5 := by rw [← hW5]; exact (Below.refl _ _).alloc (Nat.le_refl _) _
            have BB5 := hid (BQ.out.trans (b5.mono BQ.out.size))
            have HW5 := hid (show OLn W5 W.heap.size (.slice oo on oc) (s.1) from HQ.out.old (fun j _ hj => b5.block j hj))
            clear b5
            go_wp2_with (at_builtin; refine wpList_appL rfl (.tmp 48) (.tmp 50) rfl W.heap.size _ (s.1) rfl HW5.out wq.heap.size (x.1, x.2) rfl R5.out (by simp at hln ⊢; omega) BB5.out.size ?hnext5)
            case hnext5 =>
            intro v5 w5 ho5 hg5
            have HO5 := hid ho5
            have B5 := hid (BB5.out.grown hg5 BB5.out.size (fun j hj => HW5.out.block_ge j hj))
            clear ho5 hg5 HW5 R5 BB5 hW5
            clear x0 x1 y0 y1
            obtain ⟨⟨x0, x1⟩, y0, y1⟩ := K.out _ B5.out
            obtain ⟨po, pn, pc, rfl⟩ := HO5.out.form
            obtain ⟨W6, hW6⟩ : ∃ W9, w5.alloc (.cells #[.string y, .int .i64 q] 45) = W9 := ⟨_, rfl⟩
            have R6 := hid (show W6.heap[w5.heap.size]? = some (.cells #[.string y, .int .i64 q] 45 (0, 0)) by rw [← hW6]; exact heap_alloc_new w5 _)
            have b6 : Below w5.heap.size w5 W6 := by rw [← hW6]; exact (Below.refl _ _).alloc (Nat.le_refl _) _
            have BB6 := hid (B5.out.trans (b6.mono B5.out.size))
            have HW6 := hid (show OLn W6 W.heap.size (.slice po pn pc) (s.1 ++ [(x.1, x.2)]) from HO5.out.old (fun j _ hj => b6.block j hj))
            clear b6
            go_wp2_with (at_builtin; refine wpList_appL rfl (.tmp 52) (.tmp 57) rfl W.heap.size _ (s.1 ++ [(x.1, x.2)]) rfl HW6.out w5.heap.size (y, q) rfl R6.out (by simp at hln ⊢; omega) BB6.out.size ?hnext6)
            case hnext6 =>
            intro v6 w6 ho6 hg6
            have HO6 := hid ho6
            have B6 := hid (BB6.out.grown hg6 BB6.out.size (fun j hj => HW6.out.block_ge j hj))
            clear ho6 hg6 HW6 R6 BB6 hW6
            clear x0 x1 y0 y1
            go_wp2_with fail
            go_roundw
            case rel => exact ⟨k + 1, by omega, by go_num, by rw [HT.out]; have h := HO6.out; simpa using h, by rw [HT.out], B6.out⟩
            case measure => simp [intOf]; omega
          · have HT := hid (HT.out.trans (show ptS x s (y, q) = (s.1 ++ [(y, q)], false) by rw [← hs2]; exact (if_neg hkn).trans (if_neg (fun h => lt h.2))))
            clear hkn
            have lb : Op.bytesLess x.1.toList y.toList = false := by
              rw [bytesLess_eq, ByteArray.toList_eq, ByteArray.toList_eq]
              exact decide_eq_false lt
            clear lt
            go_wp2_with fail
            go_quiet (fail)
            obtain ⟨wp, hwp⟩ : ∃ wp, wr.drewN nq = wp := ⟨_, rfl⟩
            have bp : Below W.heap.size W wp := by rw [← hwp]; exact below_drewN HB.out nq
            have hop : OLn wp W.heap.size (.slice oo on oc) s.1 := by rw [← hwp]; exact HO.out.old (fun _ _ _ => rfl)
            rw [hwp]
            clear hwp c0 d0 eb nq
            have e0 := fun n => (K.out _ (below_drewN bp n)).1.1
            have f0 := fun n => (K.out _ (below_drewN bp n)).2.1
            have e0' := (K.out _ bp).1.1
            have f0' := (K.out _ bp).2.1
            go_wp2_with fail
            go_quiet (fail)
            obtain ⟨wq, hwq⟩ : ∃ wq, wp.drewN nq = wq := ⟨_, rfl⟩
            have BQ := hid (show Below W.heap.size W wq by rw [← hwq]; exact below_drewN bp nq)
            have HQ := hid (show OLn wq W.heap.size (.slice oo on oc) s.1 by rw [← hwq]; exact hop.old (fun _ _ _ => rfl))
            rw [hwq]
            clear hwq e0 f0 e0' f0' hop bp nq
            clear lb
            obtain ⟨⟨x0, x1⟩, y0, y1⟩ := K.out _ BQ.out
            obtain ⟨W5, hW5⟩ : ∃ W9, wq.alloc (.cells #[.string y, .int .i64 q] 45) = W9 := ⟨_, rfl⟩
            have R5 := hid (show W5.heap[wq.heap.size]? = some (.cells #[.string y, .int .i64 q] 45 (0, 0)) by rw [← hW5]; exact heap_alloc_new wq _)
            have b5 : Below wq.heap.size wq W5 := by rw [← hW5]; exact (Below.refl _ _).alloc (Nat.le_refl _) _
            have BB5 := hid (BQ.out.trans (b5.mono BQ.out.size))
            have HW5 := hid (show OLn W5 W.heap.size (.slice oo on oc) (s.1) from HQ.out.old (fun j _ hj => b5.block j hj))
            clear b5
            go_wp2_with (at_builtin; refine wpList_appL rfl (.tmp 52) (.tmp 57) rfl W.heap.size _ (s.1) rfl HW5.out wq.heap.size (y, q) rfl R5.out (by simp at hln ⊢; omega) BB5.out.size ?hnext5)
            case hnext5 =>
            intro v5 w5 ho5 hg5
            have HO5 := hid ho5
            have B5 := hid (BB5.out.grown hg5 BB5.out.size (fun j hj => HW5.out.block_ge j hj))
            clear ho5 hg5 HW5 R5 BB5 hW5
            clear x0 x1 y0 y1
            go_wp2_with fail
            go_roundw
            case rel => exact ⟨k + 1, by omega, by go_num, by rw [HT.out]; exact HO5.out, by rw [HT.out], B5.out⟩
            case measure => simp [intOf]; omega
    · obtain rfl : k = N.length := by omega
      have hln := ptS_len x (N.take N.length) ([], false)
      rw [List.take_length] at ho hln ⊢
      have HP := hid (show pt N x = ptE x (N.foldl (ptS x) ([], false)) from rfl)
      generalize N.foldl (ptS x) ([], false) = s at *
      have HO := hid ho
      have HB := hid hb
      have hLB : w.heap.size ≤ W.heap.size := by rw [ZW.out]; omega
      cases hs2 : s.2 with
      | true =>
        have HQ := hid (HP.out.trans (show ptE x s = s.1 by unfold ptE; rw [hs2]; rfl))
        clear ho hb
        go_wp2
        go_ret
        exact ⟨_, rfl, by rw [HQ.out]; exact HO.out.lower hLB, BW.out.trans (HB.out.mono hLB)⟩
      | false =>
        have HQ := hid (HP.out.trans (show ptE x s = s.1 ++ [x] by unfold ptE; rw [hs2]; rfl))
        obtain ⟨x0, x1⟩ := KX.out _ hb
        clear ho hb
        obtain ⟨W5, hW5⟩ : ∃ W9, wr.alloc (.cells #[.string x.1, .int .i64 x.2] 45) = W9 := ⟨_, rfl⟩
        have R5 := hid (show W5.heap[wr.heap.size]? = some (.cells #[.string x.1, .int .i64 x.2] 45 (0, 0)) by rw [← hW5]; exact heap_alloc_new wr _)
        have b5 : Below wr.heap.size wr W5 := by rw [← hW5]; exact (Below.refl _ _).alloc (Nat.le_refl _) _
        have BB5 := hid (HB.out.trans (b5.mono HB.out.size))
        have HW5 := hid (show OLn W5 W.heap.size (.slice oo on oc) (s.1) from HO.out.old (fun j _ hj => b5.block j hj))
        clear b5
        go_wp2_with (at_builtin; refine wpList_appL rfl (.tmp 61) (.tmp 63) rfl W.heap.size _ (s.1) rfl HW5.out wr.heap.size (x.1, x.2) rfl R5.out (by simp at hln ⊢; omega) BB5.out.size ?hnext5)
        case hnext5 =>
        intro v5 w5 ho5 hg5
        have HO5 := hid ho5
        have B5 := hid (BB5.out.grown hg5 BB5.out.size (fun j hj => HW5.out.block_ge j hj))
        clear ho5 hg5 HW5 R5 BB5 hW5
        clear x0 x1
        go_wp2
        go_ret
        exact ⟨_, rfl, by rw [HQ.out]; exact HO5.out.lower hLB, BW.out.trans (B5.out.mono hLB)⟩
end Go.Proofs.YtebkagmlhmdckaaGreat
