/-
  CodecRequests: the law's own walk. Laid by mkcrq.py.
-/
import Derived.Test.YtfhicemfhkhjaaaKx3
namespace Go.Proofs.Ytfhicemfhkhjaaa
open Go.RowKit
set_option maxRecDepth 100000

/-- each line may be -/
def LnOk (L : List Ln) : Prop := ∀ i (h : i < L.length), L[i].1.size ≤ 1000000000000 ∧ -9223372036854775808 ≤ L[i].2 ∧ L[i].2 ≤ 9223372036854775807
theorem RLn.ll {w : World} {ao : Option Addr} {n cap : Nat} {L : List Ln} (h : RLn w (.slice ao n cap) L) (hk : LnOk L) : LL w w.heap.size ao L := by
  intro i hi
  rcases h with ⟨rfl, _⟩ | ⟨b, off, cp, hv, hl, hc⟩
  · simp at hi
  · cases hv
    exact ⟨hk i hi, b, off, rfl, World.block_lt_of_cell? _ _ (hc i hi).1, (hc i hi).1, (hc i hi).2⟩
theorem lnB_len (L : List Ln) (hk : LnOk L) : (lnB L).length ≤ wl L + 20 * L.length := by
  induction L with
  | nil => simp [lnB]
  | cons x t ih =>
    have h0 := hk 0 (by simp)
    have hk' : LnOk t := fun i hi => by
      have := hk (i + 1) (by simpa using hi)
      simpa using this
    have h1 := ih hk'
    have e1 : lnB (x :: t) = ln1 x ++ lnB t := rfl
    have e2 : wl (x :: t) = 2 + x.1.size + wl t := by simp [wl]
    have g1 := grp_le x.1.size (by simp at h0; omega)
    have g2 := grp_le (foldI x.2) (foldI_lt x.2 (by simp at h0; omega) (by simp at h0; omega))
    have e3 : (ln1 x).length = (grp x.1.size).length + x.1.size + (grp (foldI x.2)).length := by
      unfold ln1
      simp only [List.length_append]
      rfl
    rw [e1, List.length_append, e2, List.length_cons, e3]
    omega
theorem rqB_len (r : Rq) (ho : RqOk r) (hk : LnOk r.lines) : (rqB r).length ≤ r.id.size + r.hold.size + wl r.lines + 20 * r.lines.length + 100 := by
  have g1 := grp_le r.id.size (by have := ho.b0; omega)
  have g2 := grp_le r.hold.size (by have := ho.b0; omega)
  have g3 := grp_le r.lines.length (by have := ho.b0; omega)
  have g4 := grp_le (foldI r.kind) (foldI_lt _ ho.b1.1 ho.b1.2)
  have g5 := grp_le (foldI r.ttl) (foldI_lt _ ho.b2.1 ho.b2.2)
  have g6 := grp_le (foldI r.now) (foldI_lt _ ho.b3.1 ho.b3.2)
  have g7 := lnB_len r.lines hk
  have e1 : r.id.data.toList.length = r.id.size := rfl
  have e2 : r.hold.data.toList.length = r.hold.size := rfl
  unfold rqB txB
  simp only [List.length_append]
  omega
theorem text_run {w : World} {v : Value} {l : List UInt8} (h : Reads w v l) : (convert 22 9 v).run Try.prog w = .ok (.string ⟨l.toArray⟩) w :=
  run_text 22 9 Try.underlying22 Try.underlying5 Try.underlying9 h
theorem fLi_len {l : List UInt8} {most i : Nat} (h : (fLi l most i).1 = 0) : (fLi l most i).2.2.length ≤ most := by
  unfold fLi at h ⊢
  split
  · rename_i h1
    rw [if_pos h1] at h
    exact (h1 h).elim
  · rename_i h1
    rw [if_neg h1] at h
    rw [fLs_len _ _ _ _ h]
    exact ct_most (Classical.byContradiction h1)
theorem rqs_lines (l : List UInt8) : (rqs l).2.2.lines.length ≤ 4096 := by
  obtain ⟨m1, m2⟩ := rqs_state l
  by_cases h : eE l (sQ l 4096 (bS 81 l 4096)) = 0
  · obtain ⟨e1, _, e3⟩ := m2 h
    rw [e1]
    show ((fRq l 4096 (bS 81 l 4096).2).2.2).lines.length ≤ 4096
    rw [fRq_val l 4096 _ e3]
    unfold sQ at e3
    exact fLi_len (sL_val (sT_up (sI_up (sI_up e3)))).1
  · rw [m1 h]
    exact Nat.zero_le _
set_option maxHeartbeats 4000000 in
theorem codecRequests_any (r : Rq) (ao : Option Addr) (cap : Nat) (vb : Value) (l : List UInt8) (w : World) (hR : RLn w (.slice ao r.lines.length cap) r.lines) (ho : RqOk r) (hk : LnOk r.lines) (hB : Reads w vb l)
    (hs : r.id.size + r.hold.size + wl r.lines ≤ 1000000000) (hn : r.lines.length ≤ 1000000000) (hl : l.length ≤ 1000000000) :
    Calls Try.prog 7 #[rqV r ao cap, vb] w fun e w' => e = .returned (.bool true) ∧ Below w.heap.size w w' := by
  obtain ⟨bo, bc, rfl⟩ := hB.form
  obtain ⟨W, hW⟩ : ∃ W, w.alloc (.cells #[.string r.id, .int .i64 r.kind, .slice ao r.lines.length cap, .string r.hold, .int .i64 r.ttl, .int .i64 r.now] 28) = W := ⟨_, rfl⟩
  have HRW := hid (show W.heap[w.heap.size]? = some (.cells #[.string r.id, .int .i64 r.kind, .slice ao r.lines.length cap, .string r.hold, .int .i64 r.ttl, .int .i64 r.now] 28 (0, 0)) by rw [← hW]; exact heap_alloc_new w _)
  have BW := hid (show Below w.heap.size w W by rw [← hW]; exact (Below.refl _ _).alloc (Nat.le_refl _) _)
  have zW : W.heap.size = w.heap.size + 1 := by rw [← hW, World.size_alloc]
  have c0 : W.cell? ⟨w.heap.size, 0, none⟩ = some (.string r.id) := by rw [Lib.cell_of_heap HRW.out]; rfl
  have c1 : W.cell? ⟨w.heap.size, 1, none⟩ = some (.int .i64 r.kind) := by rw [Lib.cell_of_heap HRW.out]; rfl
  have c2 : W.cell? ⟨w.heap.size, 2, none⟩ = some (.slice ao r.lines.length cap) := by rw [Lib.cell_of_heap HRW.out]; rfl
  have c3 : W.cell? ⟨w.heap.size, 3, none⟩ = some (.string r.hold) := by rw [Lib.cell_of_heap HRW.out]; rfl
  have c4 : W.cell? ⟨w.heap.size, 4, none⟩ = some (.int .i64 r.ttl) := by rw [Lib.cell_of_heap HRW.out]; rfl
  have c5 : W.cell? ⟨w.heap.size, 5, none⟩ = some (.int .i64 r.now) := by rw [Lib.cell_of_heap HRW.out]; rfl
  have HWt := hid (weight_any r ao cap W (hR.below BW.out) (by omega) hn)
  have HR := hid hR
  have HBs := hid hB
  have HOk := hid ho
  have HLk := hid hk
  have HBl := hid (show (rqB r).length ≤ 10000000000000 by have := rqB_len r ho hk; omega)
  unfold rqV at HWt ⊢
  clear hR hB ho hk
  go_enter Try.func7, Try.ntmps7
  go_wp2_with fail
  try rw [hW]
  refine Calls.mono HWt.out ?_
  rintro e w1 ⟨rfl, hb1⟩
  have R1 := hid ((hb1.block w.heap.size (by omega)).trans HRW.out)
  have B1 := hid (BW.out.trans (hb1.mono (by omega)))
  have z1 := hb1.size
  clear hb1 HWt HRW BW c0 c1 c2 c3 c4 c5 hW
  generalize hN : r.id.size + r.hold.size + wl r.lines = N at *
  clear hN
  by_cases hbig : 1048576 < N
  · have hI : (1048576 : Int) < (N : Int) := by omega
    go_wp2
    go_ret
    exact ⟨rfl, B1.out⟩
  have hI : ¬ (1048576 : Int) < (N : Int) := by omega
  have c0 : w1.cell? ⟨w.heap.size, 0, none⟩ = some (.string r.id) := by rw [Lib.cell_of_heap R1.out]; rfl
  have c1 : w1.cell? ⟨w.heap.size, 1, none⟩ = some (.int .i64 r.kind) := by rw [Lib.cell_of_heap R1.out]; rfl
  have c2 : w1.cell? ⟨w.heap.size, 2, none⟩ = some (.slice ao r.lines.length cap) := by rw [Lib.cell_of_heap R1.out]; rfl
  have c3 : w1.cell? ⟨w.heap.size, 3, none⟩ = some (.string r.hold) := by rw [Lib.cell_of_heap R1.out]; rfl
  have c4 : w1.cell? ⟨w.heap.size, 4, none⟩ = some (.int .i64 r.ttl) := by rw [Lib.cell_of_heap R1.out]; rfl
  have c5 : w1.cell? ⟨w.heap.size, 5, none⟩ = some (.int .i64 r.now) := by rw [Lib.cell_of_heap R1.out]; rfl
  have HLe := hid (rlent_any r ao cap w1 (HR.out.below B1.out) hn)
  unfold rqV at HLe
  go_wp2_with fail
  refine Calls.mono HLe.out ?_
  rintro e w2 ⟨v2, rfl, hL2, hb2⟩
  have R2 := hid ((hb2.block w.heap.size (by omega)).trans R1.out)
  have B2 := hid (B1.out.trans (hb2.mono (by omega)))
  have z2 := hb2.size
  obtain ⟨lo, lp, hv2⟩ := hL2.reads.form
  subst hv2
  obtain ⟨W3, hW3⟩ : ∃ W3, w2.alloc (.cells #[.string r.id, .int .i64 r.kind, .slice lo r.lines.length lp, .string r.hold, .int .i64 r.ttl, .int .i64 r.now] 28) = W3 := ⟨_, rfl⟩
  have RO3 := hid (show W3.heap[w2.heap.size]? = some (.cells #[.string r.id, .int .i64 r.kind, .slice lo r.lines.length lp, .string r.hold, .int .i64 r.ttl, .int .i64 r.now] 28 (0, 0)) by rw [← hW3]; exact heap_alloc_new w2 _)
  have b3 : Below w2.heap.size w2 W3 := by rw [← hW3]; exact (Below.refl _ _).alloc (Nat.le_refl _) _
  have z3 : W3.heap.size = w2.heap.size + 1 := by rw [← hW3, World.size_alloc]
  have R3 := hid ((b3.block w.heap.size (by omega)).trans R2.out)
  have B3 := hid (B2.out.trans (b3.mono (by omega)))
  have L3 := hid (hL2.below b3)
  have d0 : W3.cell? ⟨w2.heap.size, 0, none⟩ = some (.string r.id) := by rw [Lib.cell_of_heap RO3.out]; rfl
  have d1 : W3.cell? ⟨w2.heap.size, 1, none⟩ = some (.int .i64 r.kind) := by rw [Lib.cell_of_heap RO3.out]; rfl
  have d2 : W3.cell? ⟨w2.heap.size, 2, none⟩ = some (.slice lo r.lines.length lp) := by rw [Lib.cell_of_heap RO3.out]; rfl
  have d3 : W3.cell? ⟨w2.heap.size, 3, none⟩ = some (.string r.hold) := by rw [Lib.cell_of_heap RO3.out]; rfl
  have d4 : W3.cell? ⟨w2.heap.size, 4, none⟩ = some (.int .i64 r.ttl) := by rw [Lib.cell_of_heap RO3.out]; rfl
  have d5 : W3.cell? ⟨w2.heap.size, 5, none⟩ = some (.int .i64 r.now) := by rw [Lib.cell_of_heap RO3.out]; rfl
  have HP := hid (putRequest_any r lo lp W3 HOk.out (L3.out.reads.ll HLk.out))
  unfold rqV at HP
  unfold rqC
  clear hL2 hb2 b3 HLe R1 R2 B1 B2 c0 c1 c2 c3 c4 c5
  go_wp2_with fail
  try rw [hW3]
  refine Calls.mono HP.out ?_
  intro e w4 hw4
  obtain ⟨v4, rfl, ho4, hb4⟩ := hw4
  have R4 := hid ((hb4.block w.heap.size (by omega)).trans R3.out)
  have RO4 := hid ((hb4.block w2.heap.size (by omega)).trans RO3.out)
  have B4 := hid (B3.out.trans (hb4.mono (by omega)))
  have L4 := hid (L3.out.below hb4)
  have z4 := hb4.size
  have c0 : w4.cell? ⟨w.heap.size, 0, none⟩ = some (.string r.id) := by rw [Lib.cell_of_heap R4.out]; rfl
  have c1 : w4.cell? ⟨w.heap.size, 1, none⟩ = some (.int .i64 r.kind) := by rw [Lib.cell_of_heap R4.out]; rfl
  have c2 : w4.cell? ⟨w.heap.size, 2, none⟩ = some (.slice ao r.lines.length cap) := by rw [Lib.cell_of_heap R4.out]; rfl
  have c3 : w4.cell? ⟨w.heap.size, 3, none⟩ = some (.string r.hold) := by rw [Lib.cell_of_heap R4.out]; rfl
  have c4 : w4.cell? ⟨w.heap.size, 4, none⟩ = some (.int .i64 r.ttl) := by rw [Lib.cell_of_heap R4.out]; rfl
  have c5 : w4.cell? ⟨w.heap.size, 5, none⟩ = some (.int .i64 r.now) := by rw [Lib.cell_of_heap R4.out]; rfl
  have HQ := hid (rputRequest_any r ao cap w4.heap.size w4 HOk.out ((HR.out.below B4.out).ll HLk.out) HBl.out)
  unfold rqV at HQ
  unfold Wrt at HQ
  have HO4 := hid ho4
  clear ho4 hb4 HP R3 RO3 B3 L3 d0 d1 d2 d3 d4 d5 hW3
  generalize (if (81 :: rqB r).length ≤ 4096 then (0 : Int) else 1) = er at *
  generalize (if (81 :: rqB r).length ≤ 4096 then 81 :: rqB r else []) = M at *
  go_wp2_with fail
  refine Calls.mono HQ.out ?_
  rintro e w5 ⟨v5, rfl, ho5, hb5⟩
  have R5 := hid ((hb5.block w.heap.size (by omega)).trans R4.out)
  have RO5 := hid ((hb5.block w2.heap.size (by omega)).trans RO4.out)
  have B5 := hid (B4.out.trans (hb5.mono (by omega)))
  have L5 := hid (L4.out.below hb5)
  have z5 := hb5.size
  have t4 := text_run (HO4.out.reads.below hb5)
  have t5 := text_run ho5.reads
  have HK := hid (rkept_any r (.slice lo r.lines.length lp) (.slice ao r.lines.length cap) w5 L5.out (HR.out.below B5.out) hn)
  unfold rqC at HK
  clear c0 c1 c2 c3 c4 c5
  have c0 : w5.cell? ⟨w.heap.size, 0, none⟩ = some (.string r.id) := by rw [Lib.cell_of_heap R5.out]; rfl
  have c1 : w5.cell? ⟨w.heap.size, 1, none⟩ = some (.int .i64 r.kind) := by rw [Lib.cell_of_heap R5.out]; rfl
  have c2 : w5.cell? ⟨w.heap.size, 2, none⟩ = some (.slice ao r.lines.length cap) := by rw [Lib.cell_of_heap R5.out]; rfl
  have c3 : w5.cell? ⟨w.heap.size, 3, none⟩ = some (.string r.hold) := by rw [Lib.cell_of_heap R5.out]; rfl
  have c4 : w5.cell? ⟨w.heap.size, 4, none⟩ = some (.int .i64 r.ttl) := by rw [Lib.cell_of_heap R5.out]; rfl
  have c5 : w5.cell? ⟨w.heap.size, 5, none⟩ = some (.int .i64 r.now) := by rw [Lib.cell_of_heap R5.out]; rfl
  have d0 : w5.cell? ⟨w2.heap.size, 0, none⟩ = some (.string r.id) := by rw [Lib.cell_of_heap RO5.out]; rfl
  have d1 : w5.cell? ⟨w2.heap.size, 1, none⟩ = some (.int .i64 r.kind) := by rw [Lib.cell_of_heap RO5.out]; rfl
  have d2 : w5.cell? ⟨w2.heap.size, 2, none⟩ = some (.slice lo r.lines.length lp) := by rw [Lib.cell_of_heap RO5.out]; rfl
  have d3 : w5.cell? ⟨w2.heap.size, 3, none⟩ = some (.string r.hold) := by rw [Lib.cell_of_heap RO5.out]; rfl
  have d4 : w5.cell? ⟨w2.heap.size, 4, none⟩ = some (.int .i64 r.ttl) := by rw [Lib.cell_of_heap RO5.out]; rfl
  have d5 : w5.cell? ⟨w2.heap.size, 5, none⟩ = some (.int .i64 r.now) := by rw [Lib.cell_of_heap RO5.out]; rfl
  clear ho5 hb5 HQ R4 RO4 B4 L4 HO4
  go_wp2_with fail
  refine Calls.mono HK.out ?_
  rintro e w6 ⟨rfl, hb6⟩
  have B6 := hid (B5.out.trans (hb6.mono (by omega)))
  have z6 := hb6.size
  have HLb := hid (lent_any _ l w6 (HBs.out.below B6.out) (by omega))
  clear hb6 HK B5 L5 R5 RO5 t4 t5 c0 c1 c2 c3 c4 c5 d0 d1 d2 d3 d4 d5
  go_wp2_with fail
  refine Calls.mono HLb.out ?_
  rintro e w7 ⟨v7, rfl, hL7, hb7⟩
  have B7 := hid (B6.out.trans (hb7.mono B6.out.size))
  have z7 := hb7.size
  have HRq := hid (request_any l v7 w7 hL7.reads)
  have L7 := hid hL7
  unfold Rdq at HRq
  have HRr := hid (fun (wx : World) (h : Reads wx (.slice bo l.length bc) l) => rrequest_any _ l wx h)
  unfold Rdq at HRr
  generalize (rqs l).1 = qe at *
  generalize (rqs l).2.1 = qp at *
  have hq9 : (rqs l).2.2.lines.length ≤ 1000000000000 := Nat.le_trans (rqs_lines l) (by omega)
  generalize (rqs l).2.2 = q at *
  clear hb7 hL7 HLb B6
  go_wp2_with fail
  refine Calls.mono HRq.out ?_
  rintro e w8 ⟨v8, rfl, ho8, hb8⟩
  obtain ⟨xo, xn, xp, hv8⟩ := ho8.form
  have HO8 := hid ho8
  subst hv8
  obtain ⟨W9, hW9⟩ : ∃ W9, w8.alloc (.cells #[.string q.id, .int .i64 q.kind, .slice xo xn xp, .string q.hold, .int .i64 q.ttl, .int .i64 q.now] 28) = W9 := ⟨_, rfl⟩
  have RX9 := hid (show W9.heap[w8.heap.size]? = some (.cells #[.string q.id, .int .i64 q.kind, .slice xo xn xp, .string q.hold, .int .i64 q.ttl, .int .i64 q.now] 28 (0, 0)) by rw [← hW9]; exact heap_alloc_new w8 _)
  have b9 : Below w8.heap.size w8 W9 := by rw [← hW9]; exact (Below.refl _ _).alloc (Nat.le_refl _) _
  have z9 : W9.heap.size = w8.heap.size + 1 := by rw [← hW9, World.size_alloc]
  have B8 := hid (B7.out.trans (hb8.mono B7.out.size))
  have z8 := hb8.size
  have B9 := hid (B8.out.trans (b9.mono B8.out.size))
  have L9 := hid ((L7.out.below hb8).below b9)
  have X9 := hid (HO8.out.reads.below b9)
  have HR2 := hid (HRr.out W9 (HBs.out.below B9.out))
  unfold rqC
  clear ho8 hb8 b9 HRq HRr HO8 B8 B7 L7
  go_wp2_with fail
  try rw [hW9]
  refine Calls.mono HR2.out ?_
  rintro e wa ⟨va, rfl, hoa, hba⟩
  obtain ⟨yo, yn, yp, hva⟩ := hoa.form
  have HOa := hid hoa
  subst hva
  obtain ⟨Wb, hWb⟩ : ∃ Wb, wa.alloc (.cells #[.string q.id, .int .i64 q.kind, .slice yo yn yp, .string q.hold, .int .i64 q.ttl, .int .i64 q.now] 28) = Wb := ⟨_, rfl⟩
  have RYb := hid (show Wb.heap[wa.heap.size]? = some (.cells #[.string q.id, .int .i64 q.kind, .slice yo yn yp, .string q.hold, .int .i64 q.ttl, .int .i64 q.now] 28 (0, 0)) by rw [← hWb]; exact heap_alloc_new wa _)
  have bb : Below wa.heap.size wa Wb := by rw [← hWb]; exact (Below.refl _ _).alloc (Nat.le_refl _) _
  have zb : Wb.heap.size = wa.heap.size + 1 := by rw [← hWb, World.size_alloc]
  have Ba := hid (B9.out.trans (hba.mono B9.out.size))
  have za := hba.size
  have Bb := hid (Ba.out.trans (bb.mono Ba.out.size))
  have Lb := hid ((L9.out.below hba).below bb)
  have Xb := hid ((X9.out.below hba).below bb)
  have Yb := hid (HOa.out.reads.below bb)
  have RXb := hid ((bb.block w8.heap.size (by omega)).trans ((hba.block w8.heap.size (by omega)).trans RX9.out))
  have HSm := hid (sameRequest_any q _ _ Wb Xb.out Yb.out hq9)
  have c0 : Wb.cell? ⟨w8.heap.size, 0, none⟩ = some (.string q.id) := by rw [Lib.cell_of_heap RXb.out]; rfl
  have c1 : Wb.cell? ⟨w8.heap.size, 1, none⟩ = some (.int .i64 q.kind) := by rw [Lib.cell_of_heap RXb.out]; rfl
  have c2 : Wb.cell? ⟨w8.heap.size, 2, none⟩ = some (.slice xo xn xp) := by rw [Lib.cell_of_heap RXb.out]; rfl
  have c3 : Wb.cell? ⟨w8.heap.size, 3, none⟩ = some (.string q.hold) := by rw [Lib.cell_of_heap RXb.out]; rfl
  have c4 : Wb.cell? ⟨w8.heap.size, 4, none⟩ = some (.int .i64 q.ttl) := by rw [Lib.cell_of_heap RXb.out]; rfl
  have c5 : Wb.cell? ⟨w8.heap.size, 5, none⟩ = some (.int .i64 q.now) := by rw [Lib.cell_of_heap RXb.out]; rfl
  have d0 : Wb.cell? ⟨wa.heap.size, 0, none⟩ = some (.string q.id) := by rw [Lib.cell_of_heap RYb.out]; rfl
  have d1 : Wb.cell? ⟨wa.heap.size, 1, none⟩ = some (.int .i64 q.kind) := by rw [Lib.cell_of_heap RYb.out]; rfl
  have d2 : Wb.cell? ⟨wa.heap.size, 2, none⟩ = some (.slice yo yn yp) := by rw [Lib.cell_of_heap RYb.out]; rfl
  have d3 : Wb.cell? ⟨wa.heap.size, 3, none⟩ = some (.string q.hold) := by rw [Lib.cell_of_heap RYb.out]; rfl
  have d4 : Wb.cell? ⟨wa.heap.size, 4, none⟩ = some (.int .i64 q.ttl) := by rw [Lib.cell_of_heap RYb.out]; rfl
  have d5 : Wb.cell? ⟨wa.heap.size, 5, none⟩ = some (.int .i64 q.now) := by rw [Lib.cell_of_heap RYb.out]; rfl
  unfold rqC at HSm ⊢
  clear hoa hba bb HR2 HOa B9 L9 X9 Ba hW9
  go_wp2_with fail
  try rw [hWb]
  refine Calls.mono HSm.out ?_
  rintro e wc ⟨rfl, hbc⟩
  have Bc := hid (Bb.out.trans (hbc.mono Bb.out.size))
  have HKb := hid (kept_any v7 _ l wc (Lb.out.below hbc) (HBs.out.below Bc.out) (by omega))
  clear hbc HSm c0 c1 c2 c3 c4 c5 d0 d1 d2 d3 d4 d5 hWb
  go_wp2_with fail
  refine Calls.mono HKb.out ?_
  rintro e wd ⟨rfl, rfl⟩
  go_wp2
  go_ret
  exact ⟨rfl, Bc.out⟩
end Go.Proofs.Ytfhicemfhkhjaaa
