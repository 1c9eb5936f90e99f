/-
  CodecRecords: the law's own walk. Laid by mkcrc.py.
-/
import Derived.Test.YtagjjcifpdgniaaRd2
namespace Go.Proofs.Ytagjjcifpdgniaa
open Go.RowKit
set_option maxRecDepth 100000

set_option maxHeartbeats 4000000 in
theorem codecRecords_any (x : Int) (r : Rq) (ao : Option Addr) (cap : Nat) (vb : Value) (l : List UInt8) (w : World) (hR : RLn w (.slice ao r.lines.length cap) r.lines) (ho : RqOk r) (hk : LnOk r.lines) (hB : Reads w vb l)
    (hs : r.id.size + r.hold.size + wl r.lines ≤ 1000000000) (hn : r.lines.length ≤ 1000000000) (hl : l.length ≤ 1000000000) (x0 : -9223372036854775808 ≤ x) (x1 : x ≤ 9223372036854775807) :
    Calls Try.prog 8 #[.int .i64 x, rqV r ao cap, vb] w fun e w' => e = .returned (.bool true) ∧ Below w.heap.size w w' := by
  obtain ⟨bo, bc, rfl⟩ := hB.form
  obtain ⟨W, hW⟩ : ∃ W, w.alloc (.cells #[.string r.id, .int .i64 r.kind, .slice ao r.lines.length cap, .string r.hold, .int .i64 r.ttl, .int .i64 r.now] 28) = W := ⟨_, rfl⟩
  have HRW := hid (show W.heap[w.heap.size]? = some (.cells #[.string r.id, .int .i64 r.kind, .slice ao r.lines.length cap, .string r.hold, .int .i64 r.ttl, .int .i64 r.now] 28 (0, 0)) by rw [← hW]; exact heap_alloc_new w _)
  have BW := hid (show Below w.heap.size w W by rw [← hW]; exact (Below.refl _ _).alloc (Nat.le_refl _) _)
  have zW : W.heap.size = w.heap.size + 1 := by rw [← hW, World.size_alloc]
  have c0 : W.cell? ⟨w.heap.size, 0, none⟩ = some (.string r.id) := by rw [Lib.cell_of_heap HRW.out]; rfl
  have c1 : W.cell? ⟨w.heap.size, 1, none⟩ = some (.int .i64 r.kind) := by rw [Lib.cell_of_heap HRW.out]; rfl
  have c2 : W.cell? ⟨w.heap.size, 2, none⟩ = some (.slice ao r.lines.length cap) := by rw [Lib.cell_of_heap HRW.out]; rfl
  have c3 : W.cell? ⟨w.heap.size, 3, none⟩ = some (.string r.hold) := by rw [Lib.cell_of_heap HRW.out]; rfl
  have c4 : W.cell? ⟨w.heap.size, 4, none⟩ = some (.int .i64 r.ttl) := by rw [Lib.cell_of_heap HRW.out]; rfl
  have c5 : W.cell? ⟨w.heap.size, 5, none⟩ = some (.int .i64 r.now) := by rw [Lib.cell_of_heap HRW.out]; rfl
  have HWt := hid (weight_any r ao cap W (hR.below BW.out) (by omega) hn)
  have HR := hid hR
  have HBs := hid hB
  have HOk := hid ho
  have HLk := hid hk
  have HBl := hid (show (rqB r).length ≤ 10000000000000 by have := rqB_len r ho hk; omega)
  unfold rqV at HWt ⊢
  clear hR hB ho hk
  go_enter Try.func8, Try.ntmps8
  go_wp2_with fail
  try rw [hW]
  refine Calls.mono HWt.out ?_
  rintro e w1 ⟨rfl, hb1⟩
  have R1 := hid ((hb1.block w.heap.size (by omega)).trans HRW.out)
  have B1 := hid (BW.out.trans (hb1.mono (by omega)))
  have z1 := hb1.size
  clear hb1 HWt HRW BW c0 c1 c2 c3 c4 c5 hW
  generalize hN : r.id.size + r.hold.size + wl r.lines = N at *
  clear hN
  by_cases hbig : 1048576 < N
  · have hI : (1048576 : Int) < (N : Int) := by omega
    go_wp2
    go_ret
    exact ⟨rfl, B1.out⟩
  have hI : ¬ (1048576 : Int) < (N : Int) := by omega
  have c0 : w1.cell? ⟨w.heap.size, 0, none⟩ = some (.string r.id) := by rw [Lib.cell_of_heap R1.out]; rfl
  have c1 : w1.cell? ⟨w.heap.size, 1, none⟩ = some (.int .i64 r.kind) := by rw [Lib.cell_of_heap R1.out]; rfl
  have c2 : w1.cell? ⟨w.heap.size, 2, none⟩ = some (.slice ao r.lines.length cap) := by rw [Lib.cell_of_heap R1.out]; rfl
  have c3 : w1.cell? ⟨w.heap.size, 3, none⟩ = some (.string r.hold) := by rw [Lib.cell_of_heap R1.out]; rfl
  have c4 : w1.cell? ⟨w.heap.size, 4, none⟩ = some (.int .i64 r.ttl) := by rw [Lib.cell_of_heap R1.out]; rfl
  have c5 : w1.cell? ⟨w.heap.size, 5, none⟩ = some (.int .i64 r.now) := by rw [Lib.cell_of_heap R1.out]; rfl
  have HLe := hid (rlent_any r ao cap w1 (HR.out.below B1.out) hn)
  unfold rqV at HLe
  go_wp2_with fail
  refine Calls.mono HLe.out ?_
  rintro e w2 ⟨v2, rfl, hL2, hb2⟩
  have R2 := hid ((hb2.block w.heap.size (by omega)).trans R1.out)
  have B2 := hid (B1.out.trans (hb2.mono (by omega)))
  have z2 := hb2.size
  obtain ⟨lo, lp, hv2⟩ := hL2.reads.form
  subst hv2
  obtain ⟨W3, hW3⟩ : ∃ W3, w2.alloc (.cells #[.int .i64 x, .string r.id, .int .i64 r.kind, .slice lo r.lines.length lp, .string r.hold, .int .i64 r.ttl, .int .i64 r.now] 53) = W3 := ⟨_, rfl⟩
  have RO3 := hid (show W3.heap[w2.heap.size]? = some (.cells #[.int .i64 x, .string r.id, .int .i64 r.kind, .slice lo r.lines.length lp, .string r.hold, .int .i64 r.ttl, .int .i64 r.now] 53 (0, 0)) by rw [← hW3]; exact heap_alloc_new w2 _)
  have b3 : Below w2.heap.size w2 W3 := by rw [← hW3]; exact (Below.refl _ _).alloc (Nat.le_refl _) _
  have z3 : W3.heap.size = w2.heap.size + 1 := by rw [← hW3, World.size_alloc]
  have R3 := hid ((b3.block w.heap.size (by omega)).trans R2.out)
  have B3 := hid (B2.out.trans (b3.mono (by omega)))
  have L3 := hid (hL2.below b3)
  have d0 : W3.cell? ⟨w2.heap.size, 0, none⟩ = some (.int .i64 x) := by rw [Lib.cell_of_heap RO3.out]; rfl
  have d1 : W3.cell? ⟨w2.heap.size, 1, none⟩ = some (.string r.id) := by rw [Lib.cell_of_heap RO3.out]; rfl
  have d2 : W3.cell? ⟨w2.heap.size, 2, none⟩ = some (.int .i64 r.kind) := by rw [Lib.cell_of_heap RO3.out]; rfl
  have d3 : W3.cell? ⟨w2.heap.size, 3, none⟩ = some (.slice lo r.lines.length lp) := by rw [Lib.cell_of_heap RO3.out]; rfl
  have d4 : W3.cell? ⟨w2.heap.size, 4, none⟩ = some (.string r.hold) := by rw [Lib.cell_of_heap RO3.out]; rfl
  have d5 : W3.cell? ⟨w2.heap.size, 5, none⟩ = some (.int .i64 r.ttl) := by rw [Lib.cell_of_heap RO3.out]; rfl
  have d6 : W3.cell? ⟨w2.heap.size, 6, none⟩ = some (.int .i64 r.now) := by rw [Lib.cell_of_heap RO3.out]; rfl
  have HP := hid (putRecord_any x r lo lp W3 x0 x1 HOk.out (L3.out.reads.ll HLk.out))
  unfold rcV at HP
  unfold rqC
  clear hL2 hb2 b3 HLe R1 R2 B1 B2 c0 c1 c2 c3 c4 c5
  go_wp2_with fail
  try rw [hW3]
  refine Calls.mono HP.out ?_
  intro e w4 hw4
  obtain ⟨v4, rfl, ho4, hb4⟩ := hw4
  have R4 := hid ((hb4.block w.heap.size (by omega)).trans R3.out)
  have RO4 := hid ((hb4.block w2.heap.size (by omega)).trans RO3.out)
  have B4 := hid (B3.out.trans (hb4.mono (by omega)))
  have L4 := hid (L3.out.below hb4)
  have z4 := hb4.size
  have c0 : w4.cell? ⟨w.heap.size, 0, none⟩ = some (.string r.id) := by rw [Lib.cell_of_heap R4.out]; rfl
  have c1 : w4.cell? ⟨w.heap.size, 1, none⟩ = some (.int .i64 r.kind) := by rw [Lib.cell_of_heap R4.out]; rfl
  have c2 : w4.cell? ⟨w.heap.size, 2, none⟩ = some (.slice ao r.lines.length cap) := by rw [Lib.cell_of_heap R4.out]; rfl
  have c3 : w4.cell? ⟨w.heap.size, 3, none⟩ = some (.string r.hold) := by rw [Lib.cell_of_heap R4.out]; rfl
  have c4 : w4.cell? ⟨w.heap.size, 4, none⟩ = some (.int .i64 r.ttl) := by rw [Lib.cell_of_heap R4.out]; rfl
  have c5 : w4.cell? ⟨w.heap.size, 5, none⟩ = some (.int .i64 r.now) := by rw [Lib.cell_of_heap R4.out]; rfl
  have HQ := hid (rputRecord_any x r ao cap w4.heap.size w4 x0 x1 HOk.out ((HR.out.below B4.out).ll HLk.out) HBl.out)
  unfold rcV at HQ
  unfold Wrt at HQ
  have HO4 := hid ho4
  clear ho4 hb4 HP R3 RO3 B3 L3 d0 d1 d2 d3 d4 d5 d6 hW3
  generalize (if (83 :: (grp (foldI x) ++ rqB r)).length ≤ 4096 then (0 : Int) else 1) = er at *
  generalize (if (83 :: (grp (foldI x) ++ rqB r)).length ≤ 4096 then 83 :: (grp (foldI x) ++ rqB r) else []) = M at *
  go_wp2_with fail
  refine Calls.mono HQ.out ?_
  rintro e w5 ⟨v5, rfl, ho5, hb5⟩
  have R5 := hid ((hb5.block w.heap.size (by omega)).trans R4.out)
  have RO5 := hid ((hb5.block w2.heap.size (by omega)).trans RO4.out)
  have B5 := hid (B4.out.trans (hb5.mono (by omega)))
  have L5 := hid (L4.out.below hb5)
  have z5 := hb5.size
  have t4 := text_run (HO4.out.reads.below hb5)
  have t5 := text_run ho5.reads
  have HK := hid (rkept_any r (.slice lo r.lines.length lp) (.slice ao r.lines.length cap) w5 L5.out (HR.out.below B5.out) hn)
  unfold rqC at HK
  clear c0 c1 c2 c3 c4 c5
  have c0 : w5.cell? ⟨w.heap.size, 0, none⟩ = some (.string r.id) := by rw [Lib.cell_of_heap R5.out]; rfl
  have c1 : w5.cell? ⟨w.heap.size, 1, none⟩ = some (.int .i64 r.kind) := by rw [Lib.cell_of_heap R5.out]; rfl
  have c2 : w5.cell? ⟨w.heap.size, 2, none⟩ = some (.slice ao r.lines.length cap) := by rw [Lib.cell_of_heap R5.out]; rfl
  have c3 : w5.cell? ⟨w.heap.size, 3, none⟩ = some (.string r.hold) := by rw [Lib.cell_of_heap R5.out]; rfl
  have c4 : w5.cell? ⟨w.heap.size, 4, none⟩ = some (.int .i64 r.ttl) := by rw [Lib.cell_of_heap R5.out]; rfl
  have c5 : w5.cell? ⟨w.heap.size, 5, none⟩ = some (.int .i64 r.now) := by rw [Lib.cell_of_heap R5.out]; rfl
  have d0 : w5.cell? ⟨w2.heap.size, 0, none⟩ = some (.int .i64 x) := by rw [Lib.cell_of_heap RO5.out]; rfl
  have d1 : w5.cell? ⟨w2.heap.size, 1, none⟩ = some (.string r.id) := by rw [Lib.cell_of_heap RO5.out]; rfl
  have d2 : w5.cell? ⟨w2.heap.size, 2, none⟩ = some (.int .i64 r.kind) := by rw [Lib.cell_of_heap RO5.out]; rfl
  have d3 : w5.cell? ⟨w2.heap.size, 3, none⟩ = some (.slice lo r.lines.length lp) := by rw [Lib.cell_of_heap RO5.out]; rfl
  have d4 : w5.cell? ⟨w2.heap.size, 4, none⟩ = some (.string r.hold) := by rw [Lib.cell_of_heap RO5.out]; rfl
  have d5 : w5.cell? ⟨w2.heap.size, 5, none⟩ = some (.int .i64 r.ttl) := by rw [Lib.cell_of_heap RO5.out]; rfl
  have d6 : w5.cell? ⟨w2.heap.size, 6, none⟩ = some (.int .i64 r.now) := by rw [Lib.cell_of_heap RO5.out]; rfl
  clear ho5 hb5 HQ R4 RO4 B4 L4 HO4
  go_wp2_with fail
  refine Calls.mono HK.out ?_
  rintro e w6 ⟨rfl, hb6⟩
  have B6 := hid (B5.out.trans (hb6.mono (by omega)))
  have z6 := hb6.size
  have dn := below_cells hb6 _ _ d0
  have HLb := hid (lent_any _ l w6 (HBs.out.below B6.out) (by omega))
  clear hb6 HK B5 L5 R5 RO5 t4 t5 c0 c1 c2 c3 c4 c5 d0 d1 d2 d3 d4 d5 d6
  go_wp2_with fail
  refine Calls.mono HLb.out ?_
  rintro e w7 ⟨v7, rfl, hL7, hb7⟩
  have B7 := hid (B6.out.trans (hb7.mono B6.out.size))
  have z7 := hb7.size
  have HRq := hid (record_any l v7 w7 hL7.reads)
  have L7 := hid hL7
  unfold Rdr at HRq
  have HRr := hid (fun (wx : World) (h : Reads wx (.slice bo l.length bc) l) => rrecord_any _ l wx h)
  unfold Rdr at HRr
  generalize (rcs l).1 = qe at *
  generalize (rcs l).2.1 = qp at *
  have hq9 : (rcs l).2.2.2.lines.length ≤ 1000000000000 := Nat.le_trans (rcs_lines l) (by omega)
  generalize (rcs l).2.2.2 = q at *
  generalize (rcs l).2.2.1 = qx at *
  clear hb7 hL7 HLb B6
  go_wp2_with fail
  refine Calls.mono HRq.out ?_
  rintro e w8 ⟨v8, rfl, ho8, hb8⟩
  obtain ⟨xo, xn, xp, hv8⟩ := ho8.form
  have HO8 := hid ho8
  subst hv8
  obtain ⟨W9, hW9⟩ : ∃ W9, w8.alloc (.cells #[.int .i64 qx, .string q.id, .int .i64 q.kind, .slice xo xn xp, .string q.hold, .int .i64 q.ttl, .int .i64 q.now] 53) = W9 := ⟨_, rfl⟩
  have RX9 := hid (show W9.heap[w8.heap.size]? = some (.cells #[.int .i64 qx, .string q.id, .int .i64 q.kind, .slice xo xn xp, .string q.hold, .int .i64 q.ttl, .int .i64 q.now] 53 (0, 0)) by rw [← hW9]; exact heap_alloc_new w8 _)
  have b9 : Below w8.heap.size w8 W9 := by rw [← hW9]; exact (Below.refl _ _).alloc (Nat.le_refl _) _
  have z9 : W9.heap.size = w8.heap.size + 1 := by rw [← hW9, World.size_alloc]
  have B8 := hid (B7.out.trans (hb8.mono B7.out.size))
  have z8 := hb8.size
  have B9 := hid (B8.out.trans (b9.mono B8.out.size))
  have L9 := hid ((L7.out.below hb8).below b9)
  have X9 := hid (HO8.out.reads.below b9)
  have HR2 := hid (HRr.out W9 (HBs.out.below B9.out))
  unfold rcC
  clear ho8 hb8 b9 HRq HRr HO8 B8 B7 L7
  go_wp2_with fail
  try rw [hW9]
  refine Calls.mono HR2.out ?_
  rintro e wa ⟨va, rfl, hoa, hba⟩
  obtain ⟨yo, yn, yp, hva⟩ := hoa.form
  have HOa := hid hoa
  subst hva
  obtain ⟨Wb, hWb⟩ : ∃ Wb, wa.alloc (.cells #[.int .i64 qx, .string q.id, .int .i64 q.kind, .slice yo yn yp, .string q.hold, .int .i64 q.ttl, .int .i64 q.now] 53) = Wb := ⟨_, rfl⟩
  have RYb := hid (show Wb.heap[wa.heap.size]? = some (.cells #[.int .i64 qx, .string q.id, .int .i64 q.kind, .slice yo yn yp, .string q.hold, .int .i64 q.ttl, .int .i64 q.now] 53 (0, 0)) by rw [← hWb]; exact heap_alloc_new wa _)
  have bb : Below wa.heap.size wa Wb := by rw [← hWb]; exact (Below.refl _ _).alloc (Nat.le_refl _) _
  have zb : Wb.heap.size = wa.heap.size + 1 := by rw [← hWb, World.size_alloc]
  have Ba := hid (B9.out.trans (hba.mono B9.out.size))
  have za := hba.size
  have Bb := hid (Ba.out.trans (bb.mono Ba.out.size))
  have Lb := hid ((L9.out.below hba).below bb)
  have Xb := hid ((X9.out.below hba).below bb)
  have Yb := hid (HOa.out.reads.below bb)
  have RXb := hid ((bb.block w8.heap.size (by omega)).trans ((hba.block w8.heap.size (by omega)).trans RX9.out))
  have HSm := hid (sameRecord_any qx q _ _ Wb Xb.out Yb.out hq9)
  have c0 : Wb.cell? ⟨w8.heap.size, 0, none⟩ = some (.int .i64 qx) := by rw [Lib.cell_of_heap RXb.out]; rfl
  have c1 : Wb.cell? ⟨w8.heap.size, 1, none⟩ = some (.string q.id) := by rw [Lib.cell_of_heap RXb.out]; rfl
  have c2 : Wb.cell? ⟨w8.heap.size, 2, none⟩ = some (.int .i64 q.kind) := by rw [Lib.cell_of_heap RXb.out]; rfl
  have c3 : Wb.cell? ⟨w8.heap.size, 3, none⟩ = some (.slice xo xn xp) := by rw [Lib.cell_of_heap RXb.out]; rfl
  have c4 : Wb.cell? ⟨w8.heap.size, 4, none⟩ = some (.string q.hold) := by rw [Lib.cell_of_heap RXb.out]; rfl
  have c5 : Wb.cell? ⟨w8.heap.size, 5, none⟩ = some (.int .i64 q.ttl) := by rw [Lib.cell_of_heap RXb.out]; rfl
  have c6 : Wb.cell? ⟨w8.heap.size, 6, none⟩ = some (.int .i64 q.now) := by rw [Lib.cell_of_heap RXb.out]; rfl
  have d0 : Wb.cell? ⟨wa.heap.size, 0, none⟩ = some (.int .i64 qx) := by rw [Lib.cell_of_heap RYb.out]; rfl
  have d1 : Wb.cell? ⟨wa.heap.size, 1, none⟩ = some (.string q.id) := by rw [Lib.cell_of_heap RYb.out]; rfl
  have d2 : Wb.cell? ⟨wa.heap.size, 2, none⟩ = some (.int .i64 q.kind) := by rw [Lib.cell_of_heap RYb.out]; rfl
  have d3 : Wb.cell? ⟨wa.heap.size, 3, none⟩ = some (.slice yo yn yp) := by rw [Lib.cell_of_heap RYb.out]; rfl
  have d4 : Wb.cell? ⟨wa.heap.size, 4, none⟩ = some (.string q.hold) := by rw [Lib.cell_of_heap RYb.out]; rfl
  have d5 : Wb.cell? ⟨wa.heap.size, 5, none⟩ = some (.int .i64 q.ttl) := by rw [Lib.cell_of_heap RYb.out]; rfl
  have d6 : Wb.cell? ⟨wa.heap.size, 6, none⟩ = some (.int .i64 q.now) := by rw [Lib.cell_of_heap RYb.out]; rfl
  unfold rcC at HSm ⊢
  clear hoa hba bb HR2 HOa B9 L9 X9 Ba hW9
  go_wp2_with fail
  try rw [hWb]
  refine Calls.mono HSm.out ?_
  rintro e wc ⟨rfl, hbc⟩
  have Bc := hid (Bb.out.trans (hbc.mono Bb.out.size))
  have HKb := hid (kept_any v7 _ l wc (Lb.out.below hbc) (HBs.out.below Bc.out) (by omega))
  clear hbc HSm c0 c1 c2 c3 c4 c5 c6 d0 d1 d2 d3 d4 d5 d6 hWb
  go_wp2_with fail
  refine Calls.mono HKb.out ?_
  rintro e wd ⟨rfl, rfl⟩
  go_wp2
  go_ret
  exact ⟨rfl, Bc.out⟩
end Go.Proofs.Ytagjjcifpdgniaa
