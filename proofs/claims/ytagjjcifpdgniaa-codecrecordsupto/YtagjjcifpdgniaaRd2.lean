/-
  codec, the document's Record. Laid by mkrd2.py.
-/
import Derived.Test.YtagjjcifpdgniaaRd1
namespace Go.Proofs.Ytagjjcifpdgniaa
open Go.RowKit
set_option maxRecDepth 100000

set_option maxHeartbeats 4000000 in
theorem rrecord_any (v : Value) (l : List UInt8) (w : World) (hr : Reads w v l) :
    Calls Try.prog 37 #[v] w fun e w' => Rdr l w e w' := by
  obtain ⟨W, hW⟩ : ∃ W, w.alloc (.cells #[.int .i64 0, .string ⟨#[]⟩, .int .i64 0, .slice none 0 0, .string ⟨#[]⟩, .int .i64 0, .int .i64 0] 53) = W := ⟨_, rfl⟩
  have A0 := hid (show W.heap[w.heap.size]? = some (.cells #[.int .i64 0, .string ⟨#[]⟩, .int .i64 0, .slice none 0 0, .string ⟨#[]⟩, .int .i64 0, .int .i64 0] 53 (0, 0)) by rw [← hW]; exact heap_alloc_new w _)
  have B0 := hid (show Below w.heap.size w W by rw [← hW]; exact (Below.refl _ _).alloc (Nat.le_refl _) _)
  have zW : W.heap.size = w.heap.size + 1 := by rw [← hW, World.size_alloc]
  have HB := hid (xbegin_any 83 4096 v l W (hr.below B0.out) (by omega))
  obtain ⟨m1, m2⟩ := rcs_state l
  have HNo := hid (fun (k p : Nat) (w' : World) (h : rcs l = (k, p, (0, rq0))) (hb : Below w.heap.size w w') => Rdr.no h hb)
  have HYes := hid (fun (x : Int) (r : Rq) (v' : Value) (w' : World) (h : rcs l = (0, 0, (x, r))) (ho : OLn w' w.heap.size v' r.lines) (hb : Below w.heap.size w w') => Rdr.yes h ho hb)
  have HXw := hid (fun (wx : World) (sx : Nat × Nat) (hx : XS wx W.heap.size v l 4096 sx) => xwhole_any wx hx)
  have HXq := hid (fun (wx : World) (sx : Nat × Nat) (hx : XS wx W.heap.size v l 4096 sx) => xrequest_any wx hx (by omega))
  have M1 := hid m1
  have M2 := hid m2
  have HWh := hid hW
  clear hr m1 m2 hW
  rw [zW] at HB HXq HXw
  go_enter Try.func37, Try.ntmps37
  go_wp2_with fail
  rw [HWh.out]
  refine Calls.mono HB.out ?_
  rintro e w1 ⟨rfl, hS1, hb1⟩
  have A1 := hid ((hb1.block w.heap.size (by omega)).trans A0.out)
  have B1 := hid (B0.out.trans (hb1.mono (by omega)))
  have hz1 := hb1.size
  have hl1 : w.heap.size + 2 ≤ w1.heap.size := by have := hS1.lt; omega
  obtain ⟨W2, hW2⟩ : ∃ W2, w1.alloc (.cells #[.int .i64 0, .string ⟨#[]⟩, .int .i64 0, .slice none 0 0, .string ⟨#[]⟩, .int .i64 0, .int .i64 0] 53) = W2 := ⟨_, rfl⟩
  have b2 : Below w1.heap.size w1 W2 := by rw [← hW2]; exact (Below.refl _ _).alloc (Nat.le_refl _) _
  have z2 : W2.heap.size = w1.heap.size + 1 := by rw [← hW2, World.size_alloc]
  have X2 := hid (show W2.heap[w1.heap.size]? = some (.cells #[.int .i64 0, .string ⟨#[]⟩, .int .i64 0, .slice none 0 0, .string ⟨#[]⟩, .int .i64 0, .int .i64 0] 53 (0, 0)) by rw [← hW2]; exact heap_alloc_new w1 _)
  have A2 := hid ((b2.block w.heap.size (by omega)).trans A1.out)
  have B2 := hid (B1.out.trans (b2.mono (by omega)))
  have HC := hid (HXw.out W2 _ (hS1.below b2))
  have HW2 := hid hW2
  clear hS1 hb1 b2 HB A0 B0 A1 B1 hW2
  generalize bS 83 l 4096 = s0 at *
  go_wp2_with fail
  rw [HW2.out]
  refine Calls.mono HC.out ?_
  rintro e w3 ⟨rfl, hS3, hT3⟩
  have A3 := hid ((hT3.block w.heap.size (by omega) (by omega) (by omega)).trans A2.out)
  have X3 := hid ((hT3.block w1.heap.size (by omega) (by omega) (by omega)).trans X2.out)
  have B3 := hid (B2.out.trans (hT3.lows (B := w.heap.size) (by omega) (by omega)))
  have z3 := hT3.size
  obtain ⟨xa, ea⟩ : ∃ xa, vI l s0 = xa := ⟨_, rfl⟩
  rw [ea]
  have EA := hid ea
  have q0 : w3.cell? ⟨w1.heap.size, 0, none⟩ = some (.int .i64 0) := by rw [Lib.cell_of_heap X3.out]; rfl
  have f0 : w3.frozen? ⟨w1.heap.size, 0, none⟩ = false := Lib.frozen_of_heap X3.out 0
  obtain ⟨W4, hW4⟩ : ∃ W4, w3.setCell ⟨w1.heap.size, 0, none⟩ (.int .i64 xa) = W4 := ⟨_, rfl⟩
  have K4 := hid (show Tb w1.heap.size w1.heap.size w3 W4 by rw [← hW4]; exact Tb.set w3 ⟨w1.heap.size, 0, none⟩ _ (.inl rfl))
  have X4 := hid (show W4.heap[w1.heap.size]? = some (.cells #[.int .i64 xa, .string ⟨#[]⟩, .int .i64 0, .slice none 0 0, .string ⟨#[]⟩, .int .i64 0, .int .i64 0] 53 (0, 0)) by rw [← hW4]; exact heap_setCell_same w3 _ 0 _ _ _ X3.out)
  have z4 : W4.heap.size = w3.heap.size := by rw [← hW4]; simp
  have A4 := hid ((K4.out.block w.heap.size (by omega) (by omega) (by omega)).trans A3.out)
  have B4 := hid (B3.out.trans (K4.out.lows (B := w.heap.size) (by omega) (by omega)))
  have HQ := hid (HXq.out W4 _ (show XS W4 (w.heap.size + 1) v l 4096 (sI l s0) by rw [← hW4]; exact hS3.set (by omega)))
  clear hS3 hT3 HC A2 X2 B2 A3 X3 B3 ea HXq HXw
  generalize sI l s0 = s1 at *
  go_wp2_with fail
  refine Calls.mono HQ.out ?_
  intro e w5 hq
  obtain ⟨v5, r, rfl, hO5, hS5, hT5, hV5⟩ := hq
  obtain ⟨lo, ln, lp, rfl⟩ := hO5.form
  have A5 := hid ((hT5.block w.heap.size (by omega) (by omega) (by omega)).trans A4.out)
  have X5 := hid ((hT5.block w1.heap.size (by omega) (by omega) (by omega)).trans X4.out)
  have B5 := hid (B4.out.trans (hT5.lows (B := w.heap.size) (by omega) (by omega)))
  have O5 := hid (hO5.lower (show w1.heap.size + 1 ≤ W4.heap.size by omega))
  have HV5 := hid hV5
  have z5 := hT5.size
  unfold rqC
  have q1 : w5.cell? ⟨w1.heap.size, 1, none⟩ = some (.string ⟨#[]⟩) := by rw [Lib.cell_of_heap X5.out]; rfl
  have f1 : w5.frozen? ⟨w1.heap.size, 1, none⟩ = false := Lib.frozen_of_heap X5.out 1
  have q2 : w5.cell? ⟨w1.heap.size, 2, none⟩ = some (.int .i64 0) := by rw [Lib.cell_of_heap X5.out]; rfl
  have f2 : w5.frozen? ⟨w1.heap.size, 2, none⟩ = false := Lib.frozen_of_heap X5.out 2
  have q3 : w5.cell? ⟨w1.heap.size, 3, none⟩ = some (.slice none 0 0) := by rw [Lib.cell_of_heap X5.out]; rfl
  have f3 : w5.frozen? ⟨w1.heap.size, 3, none⟩ = false := Lib.frozen_of_heap X5.out 3
  have q4 : w5.cell? ⟨w1.heap.size, 4, none⟩ = some (.string ⟨#[]⟩) := by rw [Lib.cell_of_heap X5.out]; rfl
  have f4 : w5.frozen? ⟨w1.heap.size, 4, none⟩ = false := Lib.frozen_of_heap X5.out 4
  have q5 : w5.cell? ⟨w1.heap.size, 5, none⟩ = some (.int .i64 0) := by rw [Lib.cell_of_heap X5.out]; rfl
  have f5 : w5.frozen? ⟨w1.heap.size, 5, none⟩ = false := Lib.frozen_of_heap X5.out 5
  have q6 : w5.cell? ⟨w1.heap.size, 6, none⟩ = some (.int .i64 0) := by rw [Lib.cell_of_heap X5.out]; rfl
  have f6 : w5.frozen? ⟨w1.heap.size, 6, none⟩ = false := Lib.frozen_of_heap X5.out 6
  obtain ⟨W6, hW6⟩ : ∃ W6, ((((((w5.setCell ⟨w1.heap.size, 1, none⟩ (.string r.id)).setCell ⟨w1.heap.size, 2, none⟩ (.int .i64 r.kind)).setCell ⟨w1.heap.size, 3, none⟩ (.slice lo ln lp)).setCell ⟨w1.heap.size, 4, none⟩ (.string r.hold)).setCell ⟨w1.heap.size, 5, none⟩ (.int .i64 r.ttl)).setCell ⟨w1.heap.size, 6, none⟩ (.int .i64 r.now)) = W6 := ⟨_, rfl⟩
  have K6 := hid (show Tb w1.heap.size w1.heap.size w5 W6 by rw [← hW6]; exact (((((Tb.set w5 ⟨w1.heap.size, 1, none⟩ _ (.inl rfl)).trans (Tb.set _ ⟨w1.heap.size, 2, none⟩ _ (.inl rfl))).trans (Tb.set _ ⟨w1.heap.size, 3, none⟩ _ (.inl rfl))).trans (Tb.set _ ⟨w1.heap.size, 4, none⟩ _ (.inl rfl))).trans (Tb.set _ ⟨w1.heap.size, 5, none⟩ _ (.inl rfl))).trans (Tb.set _ ⟨w1.heap.size, 6, none⟩ _ (.inl rfl)))
  have X6 := hid (show W6.heap[w1.heap.size]? = some (.cells #[.int .i64 xa, .string r.id, .int .i64 r.kind, .slice lo ln lp, .string r.hold, .int .i64 r.ttl, .int .i64 r.now] 53 (0, 0)) by rw [← hW6]; exact (heap_setCell_same _ _ 6 _ _ _ (heap_setCell_same _ _ 5 _ _ _ (heap_setCell_same _ _ 4 _ _ _ (heap_setCell_same _ _ 3 _ _ _ (heap_setCell_same _ _ 2 _ _ _ (heap_setCell_same _ _ 1 _ _ _ X5.out)))))))
  have z6 : W6.heap.size = w5.heap.size := by rw [← hW6]; simp
  have A6 := hid ((K6.out.block w.heap.size (by omega) (by omega) (by omega)).trans A5.out)
  have B6 := hid (B5.out.trans (K6.out.lows (B := w.heap.size) (by omega) (by omega)))
  have O6 := hid (O5.out.old (fun k hk hk2 => K6.out.block k hk2 (by omega) (by omega)))
  have HE := hid (xend_any W6 (hS5.keep (fun k hk => K6.out.block k (by omega) (by omega) (by omega))))
  clear hO5 hS5 hT5 hV5 A4 X4 B4 A5 X5 B5 O5 HQ K4 K6 hW4 q0 f0
  generalize sQ l 4096 s1 = s7 at *
  go_wp2_with fail
  try rw [hW6]
  refine Calls.mono HE.out ?_
  rintro e w7 ⟨rfl, hT7⟩
  have A7 := hid ((hT7.block w.heap.size (by omega) (by omega) (by omega)).trans A6.out)
  have X7 := hid ((hT7.block w1.heap.size (by omega) (by omega) (by omega)).trans X6.out)
  have B7 := hid (B6.out.trans (hT7.lows (B := w.heap.size) (by omega) (by omega)))
  have O7 := hid (O6.out.tbb hT7 (by omega))
  have z7 := hT7.size
  have p0 : w7.cell? ⟨w1.heap.size, 0, none⟩ = some (.int .i64 xa) := by rw [Lib.cell_of_heap X7.out]; rfl
  have p1 : w7.cell? ⟨w1.heap.size, 1, none⟩ = some (.string r.id) := by rw [Lib.cell_of_heap X7.out]; rfl
  have p2 : w7.cell? ⟨w1.heap.size, 2, none⟩ = some (.int .i64 r.kind) := by rw [Lib.cell_of_heap X7.out]; rfl
  have p3 : w7.cell? ⟨w1.heap.size, 3, none⟩ = some (.slice lo ln lp) := by rw [Lib.cell_of_heap X7.out]; rfl
  have p4 : w7.cell? ⟨w1.heap.size, 4, none⟩ = some (.string r.hold) := by rw [Lib.cell_of_heap X7.out]; rfl
  have p5 : w7.cell? ⟨w1.heap.size, 5, none⟩ = some (.int .i64 r.ttl) := by rw [Lib.cell_of_heap X7.out]; rfl
  have p6 : w7.cell? ⟨w1.heap.size, 6, none⟩ = some (.int .i64 r.now) := by rw [Lib.cell_of_heap X7.out]; rfl
  have r0 : w7.cell? ⟨w.heap.size, 0, none⟩ = some (.int .i64 0) := by rw [Lib.cell_of_heap A7.out]; rfl
  have g0 : w7.frozen? ⟨w.heap.size, 0, none⟩ = false := Lib.frozen_of_heap A7.out 0
  have r1 : w7.cell? ⟨w.heap.size, 1, none⟩ = some (.string ⟨#[]⟩) := by rw [Lib.cell_of_heap A7.out]; rfl
  have g1 : w7.frozen? ⟨w.heap.size, 1, none⟩ = false := Lib.frozen_of_heap A7.out 1
  have r2 : w7.cell? ⟨w.heap.size, 2, none⟩ = some (.int .i64 0) := by rw [Lib.cell_of_heap A7.out]; rfl
  have g2 : w7.frozen? ⟨w.heap.size, 2, none⟩ = false := Lib.frozen_of_heap A7.out 2
  have r3 : w7.cell? ⟨w.heap.size, 3, none⟩ = some (.slice none 0 0) := by rw [Lib.cell_of_heap A7.out]; rfl
  have g3 : w7.frozen? ⟨w.heap.size, 3, none⟩ = false := Lib.frozen_of_heap A7.out 3
  have r4 : w7.cell? ⟨w.heap.size, 4, none⟩ = some (.string ⟨#[]⟩) := by rw [Lib.cell_of_heap A7.out]; rfl
  have g4 : w7.frozen? ⟨w.heap.size, 4, none⟩ = false := Lib.frozen_of_heap A7.out 4
  have r5 : w7.cell? ⟨w.heap.size, 5, none⟩ = some (.int .i64 0) := by rw [Lib.cell_of_heap A7.out]; rfl
  have g5 : w7.frozen? ⟨w.heap.size, 5, none⟩ = false := Lib.frozen_of_heap A7.out 5
  have r6 : w7.cell? ⟨w.heap.size, 6, none⟩ = some (.int .i64 0) := by rw [Lib.cell_of_heap A7.out]; rfl
  have g6 : w7.frozen? ⟨w.heap.size, 6, none⟩ = false := Lib.frozen_of_heap A7.out 6
  clear hT7 HE A6 X6 B6 O6 hW6 q1 f1 q2 f2 q3 f3 q4 f4 q5 f5 q6 f6
  generalize eE l s7 = er at *
  generalize eP l s7 = pl at *
  by_cases he : er = 0
  · obtain ⟨y1, y2, y3⟩ := M2.out he
    subst he
    subst y2
    have Y1 := hid (show rcs l = (0, 0, (xa, r)) by rw [y1, ← HV5.out y3, EA.out])
    clear y1 y3
    go_wp2_with fail
    obtain ⟨W8, hW8⟩ : ∃ W8, (((((((w7.setCell ⟨w.heap.size, 0, none⟩ (.int .i64 xa)).setCell ⟨w.heap.size, 1, none⟩ (.string r.id)).setCell ⟨w.heap.size, 2, none⟩ (.int .i64 r.kind)).setCell ⟨w.heap.size, 3, none⟩ (.slice lo ln lp)).setCell ⟨w.heap.size, 4, none⟩ (.string r.hold)).setCell ⟨w.heap.size, 5, none⟩ (.int .i64 r.ttl)).setCell ⟨w.heap.size, 6, none⟩ (.int .i64 r.now)) = W8 := ⟨_, rfl⟩
    have E8 : W8.heap[w.heap.size]? = some (.cells #[.int .i64 xa, .string r.id, .int .i64 r.kind, .slice lo ln lp, .string r.hold, .int .i64 r.ttl, .int .i64 r.now] 53 (0, 0)) := by rw [← hW8]; exact (heap_setCell_same _ _ 6 _ _ _ (heap_setCell_same _ _ 5 _ _ _ (heap_setCell_same _ _ 4 _ _ _ (heap_setCell_same _ _ 3 _ _ _ (heap_setCell_same _ _ 2 _ _ _ (heap_setCell_same _ _ 1 _ _ _ (heap_setCell_same _ _ 0 _ _ _ A7.out)))))))
    have K8 : Tb w.heap.size w.heap.size w7 W8 := by rw [← hW8]; exact ((((((Tb.set w7 ⟨w.heap.size, 0, none⟩ _ (.inl rfl)).trans (Tb.set _ ⟨w.heap.size, 1, none⟩ _ (.inl rfl))).trans (Tb.set _ ⟨w.heap.size, 2, none⟩ _ (.inl rfl))).trans (Tb.set _ ⟨w.heap.size, 3, none⟩ _ (.inl rfl))).trans (Tb.set _ ⟨w.heap.size, 4, none⟩ _ (.inl rfl))).trans (Tb.set _ ⟨w.heap.size, 5, none⟩ _ (.inl rfl))).trans (Tb.set _ ⟨w.heap.size, 6, none⟩ _ (.inl rfl))
    have d0 : W8.cell? ⟨w.heap.size, 0, none⟩ = some (.int .i64 xa) := by rw [Lib.cell_of_heap E8]; rfl
    have d1 : W8.cell? ⟨w.heap.size, 1, none⟩ = some (.string r.id) := by rw [Lib.cell_of_heap E8]; rfl
    have d2 : W8.cell? ⟨w.heap.size, 2, none⟩ = some (.int .i64 r.kind) := by rw [Lib.cell_of_heap E8]; rfl
    have d3 : W8.cell? ⟨w.heap.size, 3, none⟩ = some (.slice lo ln lp) := by rw [Lib.cell_of_heap E8]; rfl
    have d4 : W8.cell? ⟨w.heap.size, 4, none⟩ = some (.string r.hold) := by rw [Lib.cell_of_heap E8]; rfl
    have d5 : W8.cell? ⟨w.heap.size, 5, none⟩ = some (.int .i64 r.ttl) := by rw [Lib.cell_of_heap E8]; rfl
    have d6 : W8.cell? ⟨w.heap.size, 6, none⟩ = some (.int .i64 r.now) := by rw [Lib.cell_of_heap E8]; rfl
    rw [hW8]
    refine bodyPost_ret (by simp [results, Try.results37, go_sem, d0, d1, d2, d3, d4, d5, d6]; try rfl) rfl ?_
    have B8 := B7.out.trans (K8.lows (B := w.heap.size) (Nat.le_refl _) (by omega))
    exact HYes.out xa r (.slice lo ln lp) W8 Y1.out ((O7.out.old (fun k hk hk2 => K8.block k hk2 (by omega) (by omega))).lower (by omega)) B8
  · have Y1 := hid (M1.out he)
    have hb : ((er : Int) == 0) = false := by rw [beq_eq_false_iff_ne]; omega
    clear he
    go_wp2_with fail
    obtain ⟨W8, hW8⟩ : ∃ W8, (((((((w7.setCell ⟨w.heap.size, 0, none⟩ (.int .i64 0)).setCell ⟨w.heap.size, 1, none⟩ (.string ⟨#[]⟩)).setCell ⟨w.heap.size, 2, none⟩ (.int .i64 0)).setCell ⟨w.heap.size, 3, none⟩ (.slice none 0 0)).setCell ⟨w.heap.size, 4, none⟩ (.string ⟨#[]⟩)).setCell ⟨w.heap.size, 5, none⟩ (.int .i64 0)).setCell ⟨w.heap.size, 6, none⟩ (.int .i64 0)) = W8 := ⟨_, rfl⟩
    have E8 : W8.heap[w.heap.size]? = some (.cells #[.int .i64 0, .string ⟨#[]⟩, .int .i64 0, .slice none 0 0, .string ⟨#[]⟩, .int .i64 0, .int .i64 0] 53 (0, 0)) := by rw [← hW8]; exact (heap_setCell_same _ _ 6 _ _ _ (heap_setCell_same _ _ 5 _ _ _ (heap_setCell_same _ _ 4 _ _ _ (heap_setCell_same _ _ 3 _ _ _ (heap_setCell_same _ _ 2 _ _ _ (heap_setCell_same _ _ 1 _ _ _ (heap_setCell_same _ _ 0 _ _ _ A7.out)))))))
    have K8 : Tb w.heap.size w.heap.size w7 W8 := by rw [← hW8]; exact ((((((Tb.set w7 ⟨w.heap.size, 0, none⟩ _ (.inl rfl)).trans (Tb.set _ ⟨w.heap.size, 1, none⟩ _ (.inl rfl))).trans (Tb.set _ ⟨w.heap.size, 2, none⟩ _ (.inl rfl))).trans (Tb.set _ ⟨w.heap.size, 3, none⟩ _ (.inl rfl))).trans (Tb.set _ ⟨w.heap.size, 4, none⟩ _ (.inl rfl))).trans (Tb.set _ ⟨w.heap.size, 5, none⟩ _ (.inl rfl))).trans (Tb.set _ ⟨w.heap.size, 6, none⟩ _ (.inl rfl))
    have d0 : W8.cell? ⟨w.heap.size, 0, none⟩ = some (.int .i64 0) := by rw [Lib.cell_of_heap E8]; rfl
    have d1 : W8.cell? ⟨w.heap.size, 1, none⟩ = some (.string ⟨#[]⟩) := by rw [Lib.cell_of_heap E8]; rfl
    have d2 : W8.cell? ⟨w.heap.size, 2, none⟩ = some (.int .i64 0) := by rw [Lib.cell_of_heap E8]; rfl
    have d3 : W8.cell? ⟨w.heap.size, 3, none⟩ = some (.slice none 0 0) := by rw [Lib.cell_of_heap E8]; rfl
    have d4 : W8.cell? ⟨w.heap.size, 4, none⟩ = some (.string ⟨#[]⟩) := by rw [Lib.cell_of_heap E8]; rfl
    have d5 : W8.cell? ⟨w.heap.size, 5, none⟩ = some (.int .i64 0) := by rw [Lib.cell_of_heap E8]; rfl
    have d6 : W8.cell? ⟨w.heap.size, 6, none⟩ = some (.int .i64 0) := by rw [Lib.cell_of_heap E8]; rfl
    rw [hW8]
    refine bodyPost_ret (by simp [results, Try.results37, go_sem, d0, d1, d2, d3, d4, d5, d6]; try rfl) rfl ?_
    have B8 := B7.out.trans (K8.lows (B := w.heap.size) (Nat.le_refl _) (by omega))
    exact HNo.out er pl W8 Y1.out B8
end Go.Proofs.Ytagjjcifpdgniaa
