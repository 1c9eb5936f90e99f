/-
  CodecReplies: the law's own walk. Laid by mkcrp.py.
-/
import Derived.Test.YtfhicemfhkhjaaaRy4
import Derived.Test.YtfhicemfhkhjaaaRy1
import Derived.Test.YtfhicemfhkhjaaaLawCRq
namespace Go.Proofs.Ytfhicemfhkhjaaa
open Go.RowKit
set_option maxRecDepth 100000

/-- each level may be -/
def LvOk (L : List Lv) : Prop := ∀ i (h : i < L.length), L[i].1.size ≤ 1000000000000 ∧ (-9223372036854775808 ≤ L[i].2.1 ∧ L[i].2.1 ≤ 9223372036854775807) ∧ -9223372036854775808 ≤ L[i].2.2 ∧ L[i].2.2 ≤ 9223372036854775807
/-- what levels weigh -/
def wv (L : List Lv) : Nat := (L.map fun x => 3 + x.1.size).sum
theorem wv_take (L : List Lv) (k : Nat) (h : k < L.length) : wv (L.take (k + 1)) = wv (L.take k) + (3 + L[k].1.size) := by
  unfold wv
  rw [List.take_succ_eq_append_getElem h, List.map_append, List.sum_append]
  simp
theorem wv_le (L : List Lv) (k : Nat) : wv (L.take k) ≤ wv L := by
  have e : wv L = wv (L.take k) + wv (L.drop k) := by
    unfold wv
    rw [← List.sum_append, ← List.map_append, List.take_append_drop]
  omega
theorem wv_len (L : List Lv) : 3 * L.length ≤ wv L := by
  induction L with
  | nil => simp [wv]
  | cons x t ih =>
    have e : wv (x :: t) = 3 + x.1.size + wv t := by simp [wv]
    rw [e, List.length_cons]
    omega
theorem RLv.lv {w : World} {ao : Option Addr} {n cap : Nat} {L : List Lv} (h : RLv w (.slice ao n cap) L) (hk : LvOk L) : LV w w.heap.size ao L := by
  intro i hi
  rcases h with ⟨rfl, _⟩ | ⟨b, off, cp, hv, hl, hc⟩
  · simp at hi
  · cases hv
    exact ⟨hk i hi, b, off, rfl, World.block_lt_of_cell? _ _ (hc i hi).1, (hc i hi).1, (hc i hi).2.1, (hc i hi).2.2⟩
theorem lvB_len (L : List Lv) (hk : LvOk L) : (lvB L).length ≤ wv L + 30 * L.length := by
  induction L with
  | nil => simp [lvB]
  | cons x t ih =>
    have h0 := hk 0 (by simp)
    have hk' : LvOk t := fun i hi => by
      have := hk (i + 1) (by simpa using hi)
      simpa using this
    have h1 := ih hk'
    have e1 : lvB (x :: t) = lv1 x ++ lvB t := rfl
    have e2 : wv (x :: t) = 3 + x.1.size + wv t := by simp [wv]
    have g1 := grp_le x.1.size (by simp at h0; omega)
    have g2 := grp_le (foldI x.2.1) (foldI_lt x.2.1 (by simp at h0; omega) (by simp at h0; omega))
    have g3 := grp_le (foldI x.2.2) (foldI_lt x.2.2 (by simp at h0; omega) (by simp at h0; omega))
    have e3 : (lv1 x).length = (grp x.1.size).length + x.1.size + (grp (foldI x.2.1)).length + (grp (foldI x.2.2)).length := by
      unfold lv1
      simp only [List.length_append]
      rfl
    rw [e1, List.length_append, e2, List.length_cons, e3]
    omega
theorem rpB_len (r : Ry) (ho : RpOk r) (hk : LvOk r.levels) : (rpB r).length ≤ r.id.size + wv r.levels + 30 * r.levels.length + 100 := by
  have g1 := grp_le r.id.size (by have := ho.b0; omega)
  have g3 := grp_le r.levels.length (by have := ho.b0; omega)
  have g4 := grp_le (foldI r.err) (foldI_lt _ ho.b1.1 ho.b1.2)
  have g5 := grp_le (foldI r.line) (foldI_lt _ ho.b2.1 ho.b2.2)
  have g6 := grp_le (foldI r.now) (foldI_lt _ ho.b3.1 ho.b3.2)
  have g7 := lvB_len r.levels hk
  have e1 : r.id.data.toList.length = r.id.size := rfl
  unfold rpB txB
  simp only [List.length_append]
  omega
set_option maxHeartbeats 4000000 in
theorem codecReplies_any (r : Ry) (ao : Option Addr) (cap : Nat) (vb : Value) (l : List UInt8) (w : World) (hR : RLv w (.slice ao r.levels.length cap) r.levels) (ho : RpOk r) (hk : LvOk r.levels) (hB : Reads w vb l)
    (hs : r.id.size + wv r.levels ≤ 1000000000) (hl : l.length ≤ 1000000000) :
    Calls Try.prog 6 #[rpV r ao cap, vb] w fun e w' => e = .returned (.bool true) ∧ Below w.heap.size w w' := by
  obtain ⟨bo, bc, rfl⟩ := hB.form
  obtain ⟨W, hW⟩ : ∃ W, w.alloc (.cells #[.string r.id, .int .i64 r.err, .int .i64 r.line, .slice ao r.levels.length cap, .int .i64 r.now] 32) = W := ⟨_, rfl⟩
  have HRW := hid (show W.heap[w.heap.size]? = some (.cells #[.string r.id, .int .i64 r.err, .int .i64 r.line, .slice ao r.levels.length cap, .int .i64 r.now] 32 (0, 0)) by rw [← hW]; exact heap_alloc_new w _)
  have BW := hid (show Below w.heap.size w W by rw [← hW]; exact (Below.refl _ _).alloc (Nat.le_refl _) _)
  have zW : W.heap.size = w.heap.size + 1 := by rw [← hW, World.size_alloc]
  have hn : r.levels.length ≤ 1000000000 := by have := wv_len r.levels; omega
  have c0 : W.cell? ⟨w.heap.size, 0, none⟩ = some (.string r.id) := by rw [Lib.cell_of_heap HRW.out]; rfl
  have HR := hid hR
  have HRw := hid (hR.below BW.out)
  have HBs := hid hB
  have HOk := hid ho
  have HLk := hid hk
  have HBl := hid (show (rpB r).length ≤ 10000000000000 by have := rpB_len r ho hk; omega)
  unfold rpV
  clear hR hB ho hk
  go_enter Try.func6, Try.ntmps6
  go_wp2_with fail
  try rw [hW]
  clear hW c0
  go_loopw [5, 6, 7] (fun n vs i wx => ∃ k : Nat, k ≤ r.levels.length ∧ i = .int .i64 (k : Int) ∧ n = .int .i64 ((r.id.size + wv (r.levels.take k) : Nat) : Int) ∧ OLv wx W.heap.size vs (r.levels.take k) ∧ Below W.heap.size W wx) (fun _ _ i _ => r.levels.length - (intOf i).toNat)
  case atStart => exact ⟨0, by omega, rfl, by simp [wv], World.ownsRow_nil _ _ _ _, Below.refl _ _⟩
  case round =>
    obtain ⟨k, hk, rfl, rfl, ho, hb⟩ := hrel
    have HO := hid ho
    have HB := hid hb
    have hz := hb.size
    have RR := hid ((hb.block w.heap.size (by omega)).trans HRW.out)
    have c3 : wr.cell? ⟨w.heap.size, 3, none⟩ = some (.slice ao r.levels.length cap) := by rw [Lib.cell_of_heap RR.out]; rfl
    clear ho hb
    by_cases h : k < r.levels.length
    · have hI : (k : Int) < (r.levels.length : Int) := by omega
      rcases HRw.out with ⟨h0, _⟩ | ⟨b, off, cp, hv, hcp, hcell⟩
      · rw [h0] at h; simp at h
      cases hv
      have d0 := below_cells HB.out _ _ (hcell k h).1
      have d1 := below_cells HB.out _ _ (hcell k h).2.1
      have d2 := below_cells HB.out _ _ (hcell k h).2.2
      have HT := hid (wv_take r.levels k h)
      have HA := hid (show r.levels.take (k + 1) = r.levels.take k ++ [r.levels[k]] from List.take_succ_eq_append_getElem h)
      have hle := wv_le r.levels (k + 1)
      rw [HT.out] at hle
      clear hcell
      obtain ⟨⟨x, y, z⟩, hx⟩ : ∃ q, r.levels[k]'h = q := ⟨_, rfl⟩
      rw [hx] at d0 d1 d2 HT HA hle
      have hlen : (r.levels.take k).length ≤ 1000000000000 := by rw [List.length_take]; omega
      generalize r.levels.take k = J at *
      generalize wv J = m at *
      obtain ⟨W6, hW6⟩ : ∃ W6, wr.alloc (.cells #[.string x, .int .i64 y, .int .i64 z] 64) = W6 := ⟨_, rfl⟩
      have R6 := hid (show W6.heap[wr.heap.size]? = some (.cells #[.string x, .int .i64 y, .int .i64 z] 64 (0, 0)) by rw [← hW6]; exact heap_alloc_new wr _)
      have B6 := hid (show Below wr.heap.size wr W6 by rw [← hW6]; exact (Below.refl _ _).alloc (Nat.le_refl _) _)
      have z6 : W6.heap.size = wr.heap.size + 1 := by rw [← hW6, World.size_alloc]
      have HO6 := hid (show OLv W6 W.heap.size u6 J from HO.out.old (fun k _ hk => B6.out.block k hk))
      have hbz : W.heap.size ≤ W6.heap.size := by omega
      clear hx
      go_wp2_with (at_builtin; go_loud (refine wpList_appV rfl _ _ rfl W.heap.size _ J rfl HO6.out wr.heap.size (x, y, z) rfl R6.out hlen hbz ?hnext))
      case hnext =>
      intro v7 w7 ho7 hg7
      have HO7 := hid ho7
      have B7 := hid (show Below W.heap.size W w7 from HB.out.trans ((B6.out.mono hz).trans ⟨hg7.os, hg7.tape, hg7.output, hg7.size, fun j hj => hg7.block j (by omega) (fun e => by have := HO6.out.block_ge j e.symm; omega)⟩))
      clear ho7 hg7 HO6 R6 B6 d0 d1 d2 c3
      go_wp2_with fail
      go_roundw
      case rel => exact ⟨k + 1, by omega, by go_num, by rw [HT.out]; refine congrArg _ ?_; unfold wrap64; omega, by rw [HA.out, zW]; exact HO7.out, B7.out⟩
      case measure => simp [intOf]; omega
    · have hI : ¬ (k : Int) < (r.levels.length : Int) := by omega
      obtain rfl : k = r.levels.length := by omega
      rw [List.take_length] at *
      have B1 := hid (BW.out.trans (HB.out.mono (by omega)))
      generalize hN : r.id.size + wv r.levels = N at *
      clear hN
      by_cases hbig : 1048576 < N
      · have hI : (1048576 : Int) < (N : Int) := by omega
        go_wp2
        go_ret
        exact ⟨rfl, B1.out⟩
      have hI : ¬ (1048576 : Int) < (N : Int) := by omega
      clear c3
      obtain ⟨so, sn, sp, hvs⟩ := HO.out.form
      subst hvs
      have RS := hid HO.out.reads
      have c0 : wr.cell? ⟨w.heap.size, 0, none⟩ = some (.string r.id) := by rw [Lib.cell_of_heap RR.out]; rfl
      have c1 : wr.cell? ⟨w.heap.size, 1, none⟩ = some (.int .i64 r.err) := by rw [Lib.cell_of_heap RR.out]; rfl
      have c2 : wr.cell? ⟨w.heap.size, 2, none⟩ = some (.int .i64 r.line) := by rw [Lib.cell_of_heap RR.out]; rfl
      have c3 : wr.cell? ⟨w.heap.size, 3, none⟩ = some (.slice ao r.levels.length cap) := by rw [Lib.cell_of_heap RR.out]; rfl
      have c4 : wr.cell? ⟨w.heap.size, 4, none⟩ = some (.int .i64 r.now) := by rw [Lib.cell_of_heap RR.out]; rfl
      have HP := hid (putReply_any r ao cap wr HOk.out ((HR.out.below B1.out).lv HLk.out))
      unfold rpV at HP
      go_wp2_with fail
      refine Calls.mono HP.out ?_
      intro e w4 hw4
      obtain ⟨v4, rfl, ho4, hb4⟩ := hw4
      have R4 := hid ((hb4.block w.heap.size (by omega)).trans RR.out)
      have B4 := hid (B1.out.trans (hb4.mono (by omega)))
      have S4 := hid (RS.out.below hb4)
      have z4 := hb4.size
      clear c0 c1 c2 c3 c4
      have c0 : w4.cell? ⟨w.heap.size, 0, none⟩ = some (.string r.id) := by rw [Lib.cell_of_heap R4.out]; rfl
      have c1 : w4.cell? ⟨w.heap.size, 1, none⟩ = some (.int .i64 r.err) := by rw [Lib.cell_of_heap R4.out]; rfl
      have c2 : w4.cell? ⟨w.heap.size, 2, none⟩ = some (.int .i64 r.line) := by rw [Lib.cell_of_heap R4.out]; rfl
      have c3 : w4.cell? ⟨w.heap.size, 3, none⟩ = some (.slice ao r.levels.length cap) := by rw [Lib.cell_of_heap R4.out]; rfl
      have c4 : w4.cell? ⟨w.heap.size, 4, none⟩ = some (.int .i64 r.now) := by rw [Lib.cell_of_heap R4.out]; rfl
      have HQ := hid (rputReply_any r ao cap w4.heap.size w4 HOk.out ((HR.out.below B4.out).lv HLk.out) HBl.out)
      unfold rpV at HQ
      unfold Wrt at HQ
      have HO4 := hid ho4
      clear ho4 hb4 HP RR RS B1 HO HB
      generalize (if (82 :: rpB r).length ≤ 4096 then (0 : Int) else 1) = er at *
      generalize (if (82 :: rpB r).length ≤ 4096 then 82 :: rpB r else []) = M at *
      go_wp2_with fail
      refine Calls.mono HQ.out ?_
      rintro e w5 ⟨v5, rfl, ho5, hb5⟩
      have R5 := hid ((hb5.block w.heap.size (by omega)).trans R4.out)
      have B5 := hid (B4.out.trans (hb5.mono (by omega)))
      have z5 := hb5.size
      have t4 := text_run (HO4.out.reads.below hb5)
      have t5 := text_run ho5.reads
      have HK := hid (sameLevels_any (.slice ao r.levels.length cap) (.slice so sn sp) r.levels w5 (HR.out.below B5.out) (S4.out.below hb5) (by omega))
      clear c0 c1 c2 c3 c4
      have c3 : w5.cell? ⟨w.heap.size, 3, none⟩ = some (.slice ao r.levels.length cap) := by rw [Lib.cell_of_heap R5.out]; rfl
      clear ho5 hb5 HQ R4 B4 S4 HO4
      go_wp2_with fail
      refine Calls.mono HK.out ?_
      rintro e w6 ⟨rfl, hb6⟩
      have B6 := hid (B5.out.trans (hb6.mono (by omega)))
      have z6 := hb6.size
      have HLb := hid (lent_any _ l w6 (HBs.out.below B6.out) (by omega))
      clear hb6 HK B5 R5 t4 t5 c3
      go_wp2_with fail
      refine Calls.mono HLb.out ?_
      rintro e w7 ⟨v7, rfl, hL7, hb7⟩
      have B7 := hid (B6.out.trans (hb7.mono B6.out.size))
      have z7 := hb7.size
      have HRq := hid (reply_any l v7 w7 hL7.reads)
      have L7 := hid hL7
      unfold Rdp at HRq
      have HRr := hid (fun (wx : World) (h : Reads wx (.slice bo l.length bc) l) => rreply_any _ l wx h)
      unfold Rdp at HRr
      generalize (rps l).1 = qe at *
      generalize (rps l).2.1 = qp at *
      have hq9 : (rps l).2.2.levels.length ≤ 1000000000000 := Nat.le_trans (rps_levels l) (by omega)
      generalize (rps l).2.2 = q at *
      clear hb7 hL7 HLb B6
      go_wp2_with fail
      refine Calls.mono HRq.out ?_
      rintro e w8 ⟨v8, rfl, ho8, hb8⟩
      obtain ⟨xo, xn, xp, hv8⟩ := ho8.form
      have HO8 := hid ho8
      subst hv8
      obtain ⟨W9, hW9⟩ : ∃ W9, w8.alloc (.cells #[.string q.id, .int .i64 q.err, .int .i64 q.line, .slice xo xn xp, .int .i64 q.now] 32) = W9 := ⟨_, rfl⟩
      have RX9 := hid (show W9.heap[w8.heap.size]? = some (.cells #[.string q.id, .int .i64 q.err, .int .i64 q.line, .slice xo xn xp, .int .i64 q.now] 32 (0, 0)) by rw [← hW9]; exact heap_alloc_new w8 _)
      have b9 : Below w8.heap.size w8 W9 := by rw [← hW9]; exact (Below.refl _ _).alloc (Nat.le_refl _) _
      have z9 : W9.heap.size = w8.heap.size + 1 := by rw [← hW9, World.size_alloc]
      have B8 := hid (B7.out.trans (hb8.mono B7.out.size))
      have z8 := hb8.size
      have B9 := hid (B8.out.trans (b9.mono B8.out.size))
      have L9 := hid ((L7.out.below hb8).below b9)
      have X9 := hid (HO8.out.reads.below b9)
      have HR2 := hid (HRr.out W9 (HBs.out.below B9.out))
      unfold rpC
      clear ho8 hb8 b9 HRq HRr HO8 B8 B7 L7
      go_wp2_with fail
      try rw [hW9]
      refine Calls.mono HR2.out ?_
      rintro e wa ⟨va, rfl, hoa, hba⟩
      obtain ⟨yo, yn, yp, hva⟩ := hoa.form
      have HOa := hid hoa
      subst hva
      obtain ⟨Wb, hWb⟩ : ∃ Wb, wa.alloc (.cells #[.string q.id, .int .i64 q.err, .int .i64 q.line, .slice yo yn yp, .int .i64 q.now] 32) = Wb := ⟨_, rfl⟩
      have RYb := hid (show Wb.heap[wa.heap.size]? = some (.cells #[.string q.id, .int .i64 q.err, .int .i64 q.line, .slice yo yn yp, .int .i64 q.now] 32 (0, 0)) by rw [← hWb]; exact heap_alloc_new wa _)
      have bb : Below wa.heap.size wa Wb := by rw [← hWb]; exact (Below.refl _ _).alloc (Nat.le_refl _) _
      have zb : Wb.heap.size = wa.heap.size + 1 := by rw [← hWb, World.size_alloc]
      have Ba := hid (B9.out.trans (hba.mono B9.out.size))
      have za := hba.size
      have Bb := hid (Ba.out.trans (bb.mono Ba.out.size))
      have Lb := hid ((L9.out.below hba).below bb)
      have Xb := hid ((X9.out.below hba).below bb)
      have Yb := hid (HOa.out.reads.below bb)
      have RXb := hid ((bb.block w8.heap.size (by omega)).trans ((hba.block w8.heap.size (by omega)).trans RX9.out))
      have HSm := hid (sameReply_any q _ _ Wb Xb.out Yb.out hq9)
      have c0 : Wb.cell? ⟨w8.heap.size, 0, none⟩ = some (.string q.id) := by rw [Lib.cell_of_heap RXb.out]; rfl
      have c1 : Wb.cell? ⟨w8.heap.size, 1, none⟩ = some (.int .i64 q.err) := by rw [Lib.cell_of_heap RXb.out]; rfl
      have c2 : Wb.cell? ⟨w8.heap.size, 2, none⟩ = some (.int .i64 q.line) := by rw [Lib.cell_of_heap RXb.out]; rfl
      have c3 : Wb.cell? ⟨w8.heap.size, 3, none⟩ = some (.slice xo xn xp) := by rw [Lib.cell_of_heap RXb.out]; rfl
      have c4 : Wb.cell? ⟨w8.heap.size, 4, none⟩ = some (.int .i64 q.now) := by rw [Lib.cell_of_heap RXb.out]; rfl
      have d0 : Wb.cell? ⟨wa.heap.size, 0, none⟩ = some (.string q.id) := by rw [Lib.cell_of_heap RYb.out]; rfl
      have d1 : Wb.cell? ⟨wa.heap.size, 1, none⟩ = some (.int .i64 q.err) := by rw [Lib.cell_of_heap RYb.out]; rfl
      have d2 : Wb.cell? ⟨wa.heap.size, 2, none⟩ = some (.int .i64 q.line) := by rw [Lib.cell_of_heap RYb.out]; rfl
      have d3 : Wb.cell? ⟨wa.heap.size, 3, none⟩ = some (.slice yo yn yp) := by rw [Lib.cell_of_heap RYb.out]; rfl
      have d4 : Wb.cell? ⟨wa.heap.size, 4, none⟩ = some (.int .i64 q.now) := by rw [Lib.cell_of_heap RYb.out]; rfl
      unfold rpC at HSm ⊢
      clear hoa hba bb HR2 HOa B9 L9 X9 Ba hW9
      go_wp2_with fail
      try rw [hWb]
      refine Calls.mono HSm.out ?_
      rintro e wc ⟨rfl, hbc⟩
      have Bc := hid (Bb.out.trans (hbc.mono Bb.out.size))
      have HKb := hid (kept_any v7 _ l wc (Lb.out.below hbc) (HBs.out.below Bc.out) (by omega))
      clear hbc HSm c0 c1 c2 c3 c4 d0 d1 d2 d3 d4 hWb
      go_wp2_with fail
      refine Calls.mono HKb.out ?_
      rintro e wd ⟨rfl, rfl⟩
      go_wp2
      go_ret
      exact ⟨rfl, Bc.out⟩
end Go.Proofs.Ytfhicemfhkhjaaa
