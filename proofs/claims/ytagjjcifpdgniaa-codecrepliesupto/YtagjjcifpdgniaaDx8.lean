/-
  codec, the document's Request. Laid by mkdx8.py.
-/
import Derived.Test.YtagjjcifpdgniaaDx7
namespace Go.Proofs.Ytagjjcifpdgniaa
open Go.RowKit
set_option maxRecDepth 100000

theorem Tb.flat {rb : Nat} {w w' : World} (h : Tb rb rb w w') (hb : w.heap.size ≤ rb) : Below w.heap.size w w' := ⟨h.os, h.tape, h.output, h.size, fun k hk => h.block k hk (by omega) (by omega)⟩
theorem Tb.lows {rb B : Nat} {w w' : World} (h : Tb rb rb w w') (hb : B ≤ rb) (hs : B ≤ w.heap.size) : Below B w w' := ⟨h.os, h.tape, h.output, h.size, fun k hk => h.block k (by omega) (by omega) (by omega)⟩
set_option maxHeartbeats 4000000 in
theorem rrequest_any (v : Value) (l : List UInt8) (w : World) (hr : Reads w v l) :
    Calls Try.prog 35 #[v] w fun e w' => Rdq l w e w' := by
  obtain ⟨W, hW⟩ : ∃ W, w.alloc (.cells #[.string ⟨#[]⟩, .int .i64 0, .slice none 0 0, .string ⟨#[]⟩, .int .i64 0, .int .i64 0] 28) = W := ⟨_, rfl⟩
  have A0 := hid (show W.heap[w.heap.size]? = some (.cells #[.string ⟨#[]⟩, .int .i64 0, .slice none 0 0, .string ⟨#[]⟩, .int .i64 0, .int .i64 0] 28 (0, 0)) by rw [← hW]; exact heap_alloc_new w _)
  have B0 := hid (show Below w.heap.size w W by rw [← hW]; exact (Below.refl _ _).alloc (Nat.le_refl _) _)
  have zW : W.heap.size = w.heap.size + 1 := by rw [← hW, World.size_alloc]
  have HB := hid (xbegin_any 81 4096 v l W (hr.below B0.out) (by omega))
  obtain ⟨m1, m2⟩ := rqs_state l
  have HNo := hid (fun (k p : Nat) (w' : World) (h : rqs l = (k, p, rq0)) (hb : Below w.heap.size w w') => Rdq.no h hb)
  have HYes := hid (fun (r : Rq) (v' : Value) (w' : World) (h : rqs l = (0, 0, r)) (ho : OLn w' w.heap.size v' r.lines) (hb : Below w.heap.size w w') => Rdq.yes h ho hb)
  have HXq := hid (fun (wx : World) (hx : XS wx W.heap.size v l 4096 (bS 81 l 4096)) => xrequest_any wx hx (by omega))
  have M1 := hid m1
  have M2 := hid m2
  have HWh := hid hW
  clear hr m1 m2 hW
  rw [zW] at HB HXq
  go_enter Try.func35, Try.ntmps35
  go_wp2_with fail
  rw [HWh.out]
  refine Calls.mono HB.out ?_
  rintro e w1 ⟨rfl, hS1, hb1⟩
  have A1 := hid ((hb1.block w.heap.size (by omega)).trans A0.out)
  have B1 := hid (B0.out.trans (hb1.mono (by omega)))
  have HQ := hid (HXq.out w1 hS1)
  have hz1 := hb1.size
  have hl1 : w.heap.size + 2 ≤ w1.heap.size := by have := hS1.lt; omega
  clear hS1 hb1 HB A0 B0 HXq
  generalize bS 81 l 4096 = s0 at *
  go_wp2_with fail
  refine Calls.mono HQ.out ?_
  intro e w2 hq
  obtain ⟨v2, r, rfl, hO2, hS2, hT2, hV2⟩ := hq
  obtain ⟨lo, ln, lp, rfl⟩ := hO2.form
  have A2 := hid ((hT2.block w.heap.size (by omega) (by omega) (by omega)).trans A1.out)
  have B2 := hid (B1.out.trans (hT2.lows (B := w.heap.size) (by omega) (by omega)))
  have O2 := hid (hO2.lower hl1)
  have HV2 := hid hV2
  have hz2 := hT2.size
  unfold rqC
  obtain ⟨W3, hW3⟩ : ∃ W3, w2.alloc (.cells #[.string r.id, .int .i64 r.kind, .slice lo ln lp, .string r.hold, .int .i64 r.ttl, .int .i64 r.now] 28) = W3 := ⟨_, rfl⟩
  have R3 := hid (show W3.heap[w2.heap.size]? = some (.cells #[.string r.id, .int .i64 r.kind, .slice lo ln lp, .string r.hold, .int .i64 r.ttl, .int .i64 r.now] 28 (0, 0)) by rw [← hW3]; exact heap_alloc_new w2 _)
  have b3 : Below w2.heap.size w2 W3 := by rw [← hW3]; exact (Below.refl _ _).alloc (Nat.le_refl _) _
  have z3 : W3.heap.size = w2.heap.size + 1 := by rw [← hW3, World.size_alloc]
  have HE := hid (xend_any W3 (hS2.below b3))
  have A3 := hid ((b3.block w.heap.size (by omega)).trans A2.out)
  have B3 := hid (B2.out.trans (b3.mono (by omega)))
  have O3 := hid (O2.out.old (fun k _ hk => b3.block k hk))
  clear hO2 hS2 hT2 hV2 b3 A1 B1 A2 B2 O2 HQ
  generalize sQ l 4096 s0 = s6 at *
  go_wp2_with fail
  refine Calls.mono HE.out ?_
  rintro e w4 ⟨rfl, hT4⟩
  have A4 := hid ((hT4.block w.heap.size (by omega) (by omega) (by omega)).trans A3.out)
  have R4 := hid ((hT4.block w2.heap.size (by omega) (by omega) (by omega)).trans R3.out)
  have B4 := hid (B3.out.trans (hT4.lows (B := w.heap.size) (by omega) (by omega)))
  have O4 := hid (O3.out.tbb hT4 (by omega))
  have z4 := hT4.size
  have p0 : w4.cell? ⟨w2.heap.size, 0, none⟩ = some (.string r.id) := by rw [Lib.cell_of_heap R4.out]; rfl
  have p1 : w4.cell? ⟨w2.heap.size, 1, none⟩ = some (.int .i64 r.kind) := by rw [Lib.cell_of_heap R4.out]; rfl
  have p2 : w4.cell? ⟨w2.heap.size, 2, none⟩ = some (.slice lo ln lp) := by rw [Lib.cell_of_heap R4.out]; rfl
  have p3 : w4.cell? ⟨w2.heap.size, 3, none⟩ = some (.string r.hold) := by rw [Lib.cell_of_heap R4.out]; rfl
  have p4 : w4.cell? ⟨w2.heap.size, 4, none⟩ = some (.int .i64 r.ttl) := by rw [Lib.cell_of_heap R4.out]; rfl
  have p5 : w4.cell? ⟨w2.heap.size, 5, none⟩ = some (.int .i64 r.now) := by rw [Lib.cell_of_heap R4.out]; rfl
  have r0 : w4.cell? ⟨w.heap.size, 0, none⟩ = some (.string ⟨#[]⟩) := by rw [Lib.cell_of_heap A4.out]; rfl
  have g0 : w4.frozen? ⟨w.heap.size, 0, none⟩ = false := Lib.frozen_of_heap A4.out 0
  have r1 : w4.cell? ⟨w.heap.size, 1, none⟩ = some (.int .i64 0) := by rw [Lib.cell_of_heap A4.out]; rfl
  have g1 : w4.frozen? ⟨w.heap.size, 1, none⟩ = false := Lib.frozen_of_heap A4.out 1
  have r2 : w4.cell? ⟨w.heap.size, 2, none⟩ = some (.slice none 0 0) := by rw [Lib.cell_of_heap A4.out]; rfl
  have g2 : w4.frozen? ⟨w.heap.size, 2, none⟩ = false := Lib.frozen_of_heap A4.out 2
  have r3 : w4.cell? ⟨w.heap.size, 3, none⟩ = some (.string ⟨#[]⟩) := by rw [Lib.cell_of_heap A4.out]; rfl
  have g3 : w4.frozen? ⟨w.heap.size, 3, none⟩ = false := Lib.frozen_of_heap A4.out 3
  have r4 : w4.cell? ⟨w.heap.size, 4, none⟩ = some (.int .i64 0) := by rw [Lib.cell_of_heap A4.out]; rfl
  have g4 : w4.frozen? ⟨w.heap.size, 4, none⟩ = false := Lib.frozen_of_heap A4.out 4
  have r5 : w4.cell? ⟨w.heap.size, 5, none⟩ = some (.int .i64 0) := by rw [Lib.cell_of_heap A4.out]; rfl
  have g5 : w4.frozen? ⟨w.heap.size, 5, none⟩ = false := Lib.frozen_of_heap A4.out 5
  clear hT4 HE A3 B3 O3 R3 hW3
  generalize eE l s6 = er at *
  generalize eP l s6 = pl at *
  by_cases he : er = 0
  · obtain ⟨y1, y2, y3⟩ := M2.out he
    subst he
    subst y2
    have Y1 := hid (show rqs l = (0, 0, r) by rw [y1, ← HV2.out y3])
    clear y1 y3
    go_wp2_with fail
    obtain ⟨W7, hW7⟩ : ∃ W7, ((((((w4.setCell ⟨w.heap.size, 0, none⟩ (.string r.id)).setCell ⟨w.heap.size, 1, none⟩ (.int .i64 r.kind)).setCell ⟨w.heap.size, 2, none⟩ (.slice lo ln lp)).setCell ⟨w.heap.size, 3, none⟩ (.string r.hold)).setCell ⟨w.heap.size, 4, none⟩ (.int .i64 r.ttl)).setCell ⟨w.heap.size, 5, none⟩ (.int .i64 r.now)) = W7 := ⟨_, rfl⟩
    have E7 : W7.heap[w.heap.size]? = some (.cells #[.string r.id, .int .i64 r.kind, .slice lo ln lp, .string r.hold, .int .i64 r.ttl, .int .i64 r.now] 28 (0, 0)) := by rw [← hW7]; exact (heap_setCell_same _ _ 5 _ _ _ (heap_setCell_same _ _ 4 _ _ _ (heap_setCell_same _ _ 3 _ _ _ (heap_setCell_same _ _ 2 _ _ _ (heap_setCell_same _ _ 1 _ _ _ (heap_setCell_same _ _ 0 _ _ _ A4.out))))))
    have K7 : Tb w.heap.size w.heap.size w4 W7 := by rw [← hW7]; exact (((((Tb.set w4 ⟨w.heap.size, 0, none⟩ _ (.inl rfl)).trans (Tb.set _ ⟨w.heap.size, 1, none⟩ _ (.inl rfl))).trans (Tb.set _ ⟨w.heap.size, 2, none⟩ _ (.inl rfl))).trans (Tb.set _ ⟨w.heap.size, 3, none⟩ _ (.inl rfl))).trans (Tb.set _ ⟨w.heap.size, 4, none⟩ _ (.inl rfl))).trans (Tb.set _ ⟨w.heap.size, 5, none⟩ _ (.inl rfl))
    have d0 : W7.cell? ⟨w.heap.size, 0, none⟩ = some (.string r.id) := by rw [Lib.cell_of_heap E7]; rfl
    have d1 : W7.cell? ⟨w.heap.size, 1, none⟩ = some (.int .i64 r.kind) := by rw [Lib.cell_of_heap E7]; rfl
    have d2 : W7.cell? ⟨w.heap.size, 2, none⟩ = some (.slice lo ln lp) := by rw [Lib.cell_of_heap E7]; rfl
    have d3 : W7.cell? ⟨w.heap.size, 3, none⟩ = some (.string r.hold) := by rw [Lib.cell_of_heap E7]; rfl
    have d4 : W7.cell? ⟨w.heap.size, 4, none⟩ = some (.int .i64 r.ttl) := by rw [Lib.cell_of_heap E7]; rfl
    have d5 : W7.cell? ⟨w.heap.size, 5, none⟩ = some (.int .i64 r.now) := by rw [Lib.cell_of_heap E7]; rfl
    rw [hW7]
    refine bodyPost_ret (by simp [results, Try.results35, go_sem, d0, d1, d2, d3, d4, d5]; try rfl) rfl ?_
    have B7 := B4.out.trans (K7.lows (B := w.heap.size) (Nat.le_refl _) (by omega))
    exact HYes.out r (.slice lo ln lp) W7 Y1.out ((O4.out.old (fun k hk hk2 => K7.block k hk2 (by omega) (by omega))).lower (by omega)) B7
  · have Y1 := hid (M1.out he)
    have hb : ((er : Int) == 0) = false := by rw [beq_eq_false_iff_ne]; omega
    clear he
    go_wp2_with fail
    obtain ⟨W7, hW7⟩ : ∃ W7, ((((((w4.setCell ⟨w.heap.size, 0, none⟩ (.string ⟨#[]⟩)).setCell ⟨w.heap.size, 1, none⟩ (.int .i64 0)).setCell ⟨w.heap.size, 2, none⟩ (.slice none 0 0)).setCell ⟨w.heap.size, 3, none⟩ (.string ⟨#[]⟩)).setCell ⟨w.heap.size, 4, none⟩ (.int .i64 0)).setCell ⟨w.heap.size, 5, none⟩ (.int .i64 0)) = W7 := ⟨_, rfl⟩
    have E7 : W7.heap[w.heap.size]? = some (.cells #[.string ⟨#[]⟩, .int .i64 0, .slice none 0 0, .string ⟨#[]⟩, .int .i64 0, .int .i64 0] 28 (0, 0)) := by rw [← hW7]; exact (heap_setCell_same _ _ 5 _ _ _ (heap_setCell_same _ _ 4 _ _ _ (heap_setCell_same _ _ 3 _ _ _ (heap_setCell_same _ _ 2 _ _ _ (heap_setCell_same _ _ 1 _ _ _ (heap_setCell_same _ _ 0 _ _ _ A4.out))))))
    have K7 : Tb w.heap.size w.heap.size w4 W7 := by rw [← hW7]; exact (((((Tb.set w4 ⟨w.heap.size, 0, none⟩ _ (.inl rfl)).trans (Tb.set _ ⟨w.heap.size, 1, none⟩ _ (.inl rfl))).trans (Tb.set _ ⟨w.heap.size, 2, none⟩ _ (.inl rfl))).trans (Tb.set _ ⟨w.heap.size, 3, none⟩ _ (.inl rfl))).trans (Tb.set _ ⟨w.heap.size, 4, none⟩ _ (.inl rfl))).trans (Tb.set _ ⟨w.heap.size, 5, none⟩ _ (.inl rfl))
    have d0 : W7.cell? ⟨w.heap.size, 0, none⟩ = some (.string ⟨#[]⟩) := by rw [Lib.cell_of_heap E7]; rfl
    have d1 : W7.cell? ⟨w.heap.size, 1, none⟩ = some (.int .i64 0) := by rw [Lib.cell_of_heap E7]; rfl
    have d2 : W7.cell? ⟨w.heap.size, 2, none⟩ = some (.slice none 0 0) := by rw [Lib.cell_of_heap E7]; rfl
    have d3 : W7.cell? ⟨w.heap.size, 3, none⟩ = some (.string ⟨#[]⟩) := by rw [Lib.cell_of_heap E7]; rfl
    have d4 : W7.cell? ⟨w.heap.size, 4, none⟩ = some (.int .i64 0) := by rw [Lib.cell_of_heap E7]; rfl
    have d5 : W7.cell? ⟨w.heap.size, 5, none⟩ = some (.int .i64 0) := by rw [Lib.cell_of_heap E7]; rfl
    rw [hW7]
    refine bodyPost_ret (by simp [results, Try.results35, go_sem, d0, d1, d2, d3, d4, d5]; try rfl) rfl ?_
    have B7 := B4.out.trans (K7.lows (B := w.heap.size) (Nat.le_refl _) (by omega))
    exact HNo.out er pl W7 Y1.out B7
end Go.Proofs.Ytagjjcifpdgniaa
