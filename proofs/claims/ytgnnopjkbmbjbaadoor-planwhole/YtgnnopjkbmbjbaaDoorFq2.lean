/-
  plan: Quarters.
-/
import Derived.Test.YtgnnopjkbmbjbaaDoorFq1
namespace Go.Proofs.YtgnnopjkbmbjbaaDoor
open Go.RowKit
set_option maxRecDepth 100000
set_option linter.unusedSimpArgs false

/-- the first k laid -/
def pA (f : Nat → Nat × Nat) (k : Nat) : Array Value := #[if 0 < k then .complex .f64 (f 0).1 (f 0).2 else .complex .f64 0 0, if 1 < k then .complex .f64 (f 1).1 (f 1).2 else .complex .f64 0 0, if 2 < k then .complex .f64 (f 2).1 (f 2).2 else .complex .f64 0 0, if 3 < k then .complex .f64 (f 3).1 (f 3).2 else .complex .f64 0 0]
theorem pA_set (f : Nat → Nat × Nat) (k : Nat) (hk : k < 4) : (pA f k).setIfInBounds k (.complex .f64 (f k).1 (f k).2) = pA f (k + 1) := by
  rcases (show k = 0 ∨ k = 1 ∨ k = 2 ∨ k = 3 by omega) with rfl | rfl | rfl | rfl <;> rfl
theorem pA_size (f : Nat → Nat × Nat) (k : Nat) : (pA f k).size = 4 := rfl
theorem cell_some {w : World} {b j : Nat} {cur : Array Value} {t : TypeId} (h : w.heap[b]? = some (.cells cur t (0, 0))) (hj : j < cur.size) : w.cell? ⟨b, j, none⟩ = some cur[j] := by
  rw [Lib.cell_of_heap h]; exact Array.getElem?_eq_getElem hj
theorem run_store_cpx (P : Program) (w : World) (a : Addr) (m : Mode) (k : FloatKind) (x y : Nat) : (store a (.complex k x y) m).run P w = stored P w a (.complex k x y) m := run_store P w a _ m rfl
attribute [local go_sem] run_store_cpx
/-- what Quarters answers -/
def qfE (L : List Int) (k : Nat) : Nat × Nat := if hE L = 0 then qf L k else (0, 0)
def cp4 (f : Nat → Nat × Nat) : Value := .agg #[.complex .f64 (f 0).1 (f 0).2, .complex .f64 (f 1).1 (f 1).2, .complex .f64 (f 2).1 (f 2).2, .complex .f64 (f 3).1 (f 3).2]
set_option maxHeartbeats 4000000 in
theorem quarters_any (v : Value) (L : List Int) (w : World) (h : RL eI 1 w v L) (hT : HasTu w) (hl : (L.length : Int) ≤ 9223372036854775807) : Calls Tryd.prog 5 #[v] w fun e w' => e = .returned (.tuple #[cp4 (qfE L), .int .i64 (hE L)]) ∧ Below w.heap.size w w' := by
  have H := hid h
  have HT := hid hT
  obtain ⟨ao, cp, rfl⟩ := h.len0
  have CK := hid (fun (wx : World) (hx : RL eI 1 wx (.slice ao L.length cp) L) => checked_any _ L wx hx hl)
  clear h hT
  have B0 := hid (alloc_below w (.cells (pA (qf L) 0) 30))
  have X0 := hid (show (w.alloc (.cells (pA (qf L) 0) 30)).heap[w.heap.size]? = some (.cells (pA (qf L) 0) 30 (0, 0)) from heap_alloc_new w _)
  go_enter Tryd.func5, Tryd.ntmps5
  go_wp2_with fail
  refine Calls.mono (CK.out _ (H.out.below B0.out)) ?_
  rintro e w1 ⟨rfl, rfl⟩
  by_cases hz : hE L = 0
  · obtain ⟨z1, z2⟩ := hE_zero hz
    have EQ := hid (show qfE L = qf L from funext fun k => if_pos hz)
    have QU := hid (fun (k : Nat) (hk : k < 4) (wx : World) (hx : Below w.heap.size w wx) => quarter_any _ L k hk wx (H.out.below hx) (HT.out.below hx) z2 z1)
    have HZ := hid hz
    rw [hz]
    obtain ⟨W1, hW1⟩ : ∃ W, w.alloc (.cells #[.complex .f64 0 0, .complex .f64 0 0, .complex .f64 0 0, .complex .f64 0 0] 30) = W := ⟨_, rfl⟩
    obtain ⟨W2, hW2⟩ : ∃ W, W1.alloc (.cells #[.complex .f64 0 0, .complex .f64 0 0, .complex .f64 0 0, .complex .f64 0 0] 30) = W := ⟨_, rfl⟩
    have zz : W1.heap.size = w.heap.size + 1 := by rw [← hW1, World.size_alloc]
    have B1 : Below w.heap.size w W1 := by rw [← hW1]; exact B0.out
    have B2 : Below W1.heap.size W1 W2 := by rw [← hW2]; exact alloc_below _ _
    have r1 : W1.heap[w.heap.size]? = some (.cells (pA (qf L) 0) 30 (0, 0)) := by rw [← hW1]; exact X0.out
    have r2 : W2.heap[w.heap.size]? = some (.cells (pA (qf L) 0) 30 (0, 0)) := (B2.block _ (by omega)).trans r1
    have q2 : W2.heap[w.heap.size + 1]? = some (.cells (pA (qf L) 0) 30 (0, 0)) := by rw [← hW2, ← zz]; exact heap_alloc_new W1 _
    have RR := hid (And.intro r2 (And.intro q2 (bel_step B1 B2)))
    have HW := hid (And.intro hW1 hW2)
    clear hz z1 z2 hW1 hW2 zz B1 B2 r1 r2 q2 B0 X0
    go_wp2_with fail
    rw [HW.out.1, HW.out.2]
    clear HW
    generalize qf L = f at *
    generalize hqb : w.heap.size + 1 = qb at *
    generalize hrb : w.heap.size = rb at *
    have HE := hid (And.intro hqb hrb)
    clear hqb hrb
    go_loopw [13] (fun i wr => ∃ k : Nat, k ≤ 4 ∧ i = .int .i64 (k : Int) ∧ (wr.heap[rb]? = some (.cells (pA f 0) 30 (0, 0)) ∧ wr.heap[qb]? = some (.cells (pA f k) 30 (0, 0))) ∧ Below rb w wr) (fun i _ => 4 - (intOf i).toNat)
    case atStart => exact ⟨0, by omega, rfl, ⟨RR.out.1, RR.out.2.1⟩, RR.out.2.2⟩
    case round =>
      obtain ⟨k, hk, rfl, ⟨hr, hq⟩, hb⟩ := hrel
      have HR := hid hr
      have HQ := hid hq
      have HB := hid hb
      by_cases hlt : k < 4
      · have hI : (k : Int) < 4 := by omega
        have HP := hid (pA_set f k hlt)
        have QK := hid (QU.out k hlt wr hb)
        clear hr hq hb
        generalize f k = fk at *
        go_wp2_with fail
        refine Calls.mono QK.out ?_
        rintro e w2 ⟨rfl, s2⟩
        have hq2 : w2.heap[qb]? = some (.cells (pA f k) 30 (0, 0)) := (s2.block _ (Array.getElem?_eq_some_iff.1 HQ.out).1).trans HQ.out
        have hr2 : w2.heap[rb]? = some (.cells (pA f 0) 30 (0, 0)) := (s2.block _ (Array.getElem?_eq_some_iff.1 HR.out).1).trans HR.out
        have c3 : w2.cell? ⟨qb, k, none⟩ = some _ := cell_some hq2 (by rw [pA_size]; exact hlt)
        have c4 : w2.frozen? ⟨qb, k, none⟩ = false := Lib.frozen_of_heap hq2 k
        have N1 := Lib.heap_setCell_same (i := k) hq2 (.complex .f64 fk.1 fk.2)
        rw [HP.out] at N1
        have N2 : (w2.setCell ⟨qb, k, none⟩ (.complex .f64 fk.1 fk.2)).heap[rb]? = some (.cells (pA f 0) 30 (0, 0)) := (Below.heap_setCell _ _ _ _ (by show rb ≠ qb; have := HE.out; omega)).trans hr2
        have N3 : Below rb w (w2.setCell ⟨qb, k, none⟩ (.complex .f64 fk.1 fk.2)) := Below.setCell (HB.out.trans (s2.mono (by have := HE.out; have := HB.out.size; omega))) (p := ⟨qb, k, none⟩) (by show rb ≤ qb; have := HE.out; omega) _
        have NN4 := hid (And.intro N2 (And.intro N1 N3))
        clear hq2 hr2 s2 N1 N2 N3
        generalize (pA f k)[k]'(by rw [pA_size]; exact hlt) = u0 at *
        go_wp2_with fail
        go_roundw
        case rel => exact ⟨k + 1, by omega, by go_num, ⟨NN4.out.1, NN4.out.2.1⟩, NN4.out.2.2⟩
        case measure => simp [intOf]; omega
      · obtain rfl : k = 4 := by omega
        have p0 : wr.cell? ⟨qb, 0, none⟩ = some (.complex .f64 (f 0).1 (f 0).2) := by rw [Lib.cell_of_heap hq]; rfl
        have p1 : wr.cell? ⟨qb, 1, none⟩ = some (.complex .f64 (f 1).1 (f 1).2) := by rw [Lib.cell_of_heap hq]; rfl
        have p2 : wr.cell? ⟨qb, 2, none⟩ = some (.complex .f64 (f 2).1 (f 2).2) := by rw [Lib.cell_of_heap hq]; rfl
        have p3 : wr.cell? ⟨qb, 3, none⟩ = some (.complex .f64 (f 3).1 (f 3).2) := by rw [Lib.cell_of_heap hq]; rfl
        have i1 := Lib.heap_setCell_same (i := 0) hr (.complex .f64 (f 0).1 (f 0).2)
        have i2 := Lib.heap_setCell_same (i := 1) i1 (.complex .f64 (f 1).1 (f 1).2)
        have i3 := Lib.heap_setCell_same (i := 2) i2 (.complex .f64 (f 2).1 (f 2).2)
        have i4 := Lib.heap_setCell_same (i := 3) i3 (.complex .f64 (f 3).1 (f 3).2)
        have j1 := Below.setCell hb (p := ⟨rb, 0, none⟩) (Nat.le_refl _) (.complex .f64 (f 0).1 (f 0).2)
        have j2 := Below.setCell j1 (p := ⟨rb, 1, none⟩) (Nat.le_refl _) (.complex .f64 (f 1).1 (f 1).2)
        have j3 := Below.setCell j2 (p := ⟨rb, 2, none⟩) (Nat.le_refl _) (.complex .f64 (f 2).1 (f 2).2)
        have j4 := Below.setCell j3 (p := ⟨rb, 3, none⟩) (Nat.le_refl _) (.complex .f64 (f 3).1 (f 3).2)
        have k0 : wr.cell? ⟨rb, 0, none⟩ = some (.complex .f64 0 0) := by rw [Lib.cell_of_heap hr]; rfl
        have k1 := cell_some (j := 1) i1 (by simp [pA])
        have k2 := cell_some (j := 2) i2 (by simp [pA])
        have k3 := cell_some (j := 3) i3 (by simp [pA])
        have f0 := Lib.frozen_of_heap hr
        have f1 := Lib.frozen_of_heap i1
        have f2 := Lib.frozen_of_heap i2
        have f3 := Lib.frozen_of_heap i3
        have II := hid (And.intro i4 j4)
        clear hr hq hb i1 i2 i3 i4 j1 j2 j3 j4
        go_wp2_with fail
        obtain ⟨W4, hW4⟩ : ∃ W, ((((wr.setCell ⟨rb, 0, none⟩ (.complex .f64 (f 0).1 (f 0).2)).setCell ⟨rb, 1, none⟩ (.complex .f64 (f 1).1 (f 1).2)).setCell ⟨rb, 2, none⟩ (.complex .f64 (f 2).1 (f 2).2)).setCell ⟨rb, 3, none⟩ (.complex .f64 (f 3).1 (f 3).2)) = W := ⟨_, rfl⟩
        rw [hW4]
        rw [hW4] at II
        have d0 : W4.cell? ⟨rb, 0, none⟩ = some (.complex .f64 (f 0).1 (f 0).2) := by rw [Lib.cell_of_heap II.out.1]; rfl
        have d1 : W4.cell? ⟨rb, 1, none⟩ = some (.complex .f64 (f 1).1 (f 1).2) := by rw [Lib.cell_of_heap II.out.1]; rfl
        have d2 : W4.cell? ⟨rb, 2, none⟩ = some (.complex .f64 (f 2).1 (f 2).2) := by rw [Lib.cell_of_heap II.out.1]; rfl
        have d3 : W4.cell? ⟨rb, 3, none⟩ = some (.complex .f64 (f 3).1 (f 3).2) := by rw [Lib.cell_of_heap II.out.1]; rfl
        have BF := hid II.out.2
        clear k0 k1 k2 k3 f0 f1 f2 f3 II hW4 p0 p1 p2 p3
        refine bodyPost_ret (by simp [results, Tryd.results5, go_sem, d0, d1, d2, d3]; try rfl) rfl ?_
        exact ⟨by rw [EQ.out, HZ.out]; rfl, by rw [HE.out.2]; exact BF.out⟩
  · have EQ := hid (show qfE L = fun _ => (0, 0) from funext fun k => if_neg hz)
    have nw := heap_alloc_new w (.cells #[.complex .f64 0 0, .complex .f64 0 0, .complex .f64 0 0, .complex .f64 0 0] 30)
    have d0 : (w.alloc (.cells #[.complex .f64 0 0, .complex .f64 0 0, .complex .f64 0 0, .complex .f64 0 0] 30)).cell? ⟨w.heap.size, 0, none⟩ = some (.complex .f64 0 0) := by rw [Lib.cell_of_heap nw]; rfl
    have d1 : (w.alloc (.cells #[.complex .f64 0 0, .complex .f64 0 0, .complex .f64 0 0, .complex .f64 0 0] 30)).cell? ⟨w.heap.size, 1, none⟩ = some (.complex .f64 0 0) := by rw [Lib.cell_of_heap nw]; rfl
    have d2 : (w.alloc (.cells #[.complex .f64 0 0, .complex .f64 0 0, .complex .f64 0 0, .complex .f64 0 0] 30)).cell? ⟨w.heap.size, 2, none⟩ = some (.complex .f64 0 0) := by rw [Lib.cell_of_heap nw]; rfl
    have d3 : (w.alloc (.cells #[.complex .f64 0 0, .complex .f64 0 0, .complex .f64 0 0, .complex .f64 0 0] 30)).cell? ⟨w.heap.size, 3, none⟩ = some (.complex .f64 0 0) := by rw [Lib.cell_of_heap nw]; rfl
    clear nw
    generalize hqe : hE L = er at *
    have HQE := hid hqe
    clear hqe
    go_wp2_with fail
    refine bodyPost_ret (by simp [results, Tryd.results5, go_sem, d0, d1, d2, d3]; try rfl) rfl ?_
    exact ⟨by rw [EQ.out, HQE.out]; rfl, B0.out⟩
end Go.Proofs.YtgnnopjkbmbjbaaDoor
