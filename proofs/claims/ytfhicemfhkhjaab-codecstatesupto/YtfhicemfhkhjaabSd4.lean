/-
  The document's State. Laid by mksd4.py.
-/
import Derived.Test.YtfhicemfhkhjaabSd3
import Derived.Deep.CutRange
namespace Go.Proofs.Ytfhicemfhkhjaab
open Go.RowKit
set_option maxRecDepth 100000

theorem Tb.wide {rb sb : Nat} {w w' : World} (h : Tb rb rb w w') : Tb rb sb w w' := ⟨h.os, h.tape, h.output, h.size, fun k hk h1 _ => h.block k hk h1 h1⟩
theorem Tb.grow2 {rb sb : Nat} {w W w' : World} {o : Option Nat} (h : Tb rb sb w W) (k : W.grownBy w' o) (hg : ∀ j, o = some j → w.heap.size ≤ j) : Tb rb sb w w' :=
  ⟨k.os.trans h.os, k.tape.trans h.tape, k.output.trans h.output, Nat.le_trans h.size k.size, fun j hj h1 h2 => (k.block j (by have := h.size; omega) (fun e => by have := hg j e.symm; omega)).trans (h.block j hj h1 h2)⟩
theorem Tb.over {rb sb : Nat} {w0 w W : World} (h : Tb rb sb w0 w) (k : Tb rb rb w W) : Tb rb sb w0 W := h.trans k.wide
theorem Tb.six (w : World) (g : Nat) (a0 a1 a2 a3 a4 a5 : Value) : Tb g g w ((((((w.setCell ⟨g, 0, none⟩ a0).setCell ⟨g, 1, none⟩ a1).setCell ⟨g, 2, none⟩ a2).setCell ⟨g, 3, none⟩ a3).setCell ⟨g, 4, none⟩ a4).setCell ⟨g, 5, none⟩ a5) :=
  (((((Tb.set w ⟨g, 0, none⟩ a0 (.inl rfl)).trans (Tb.set _ ⟨g, 1, none⟩ a1 (.inl rfl))).trans (Tb.set _ ⟨g, 2, none⟩ a2 (.inl rfl))).trans (Tb.set _ ⟨g, 3, none⟩ a3 (.inl rfl))).trans (Tb.set _ ⟨g, 4, none⟩ a4 (.inl rfl))).trans (Tb.set _ ⟨g, 5, none⟩ a5 (.inl rfl))
theorem six_same {w : World} {g : Nat} {b0 b1 b2 b3 b4 b5 : Value} {rest : List Value} {T : TypeId} (h : w.heap[g]? = some (.cells (b0 :: b1 :: b2 :: b3 :: b4 :: b5 :: rest).toArray T (0, 0))) (a0 a1 a2 a3 a4 a5 : Value) : ((((((w.setCell ⟨g, 0, none⟩ a0).setCell ⟨g, 1, none⟩ a1).setCell ⟨g, 2, none⟩ a2).setCell ⟨g, 3, none⟩ a3).setCell ⟨g, 4, none⟩ a4).setCell ⟨g, 5, none⟩ a5).heap[g]? = some (.cells (a0 :: a1 :: a2 :: a3 :: a4 :: a5 :: rest).toArray T (0, 0)) := by
  have g0 := heap_setCell_same w g 0 _ _ a0 h
  have g1 := heap_setCell_same _ g 1 _ _ a1 g0
  have g2 := heap_setCell_same _ g 2 _ _ a2 g1
  have g3 := heap_setCell_same _ g 3 _ _ a3 g2
  have g4 := heap_setCell_same _ g 4 _ _ a4 g3
  have g5 := heap_setCell_same _ g 5 _ _ a5 g4
  simpa using g5
theorem six_size (w : World) (g : Nat) (a0 a1 a2 a3 a4 a5 : Value) : ((((((w.setCell ⟨g, 0, none⟩ a0).setCell ⟨g, 1, none⟩ a1).setCell ⟨g, 2, none⟩ a2).setCell ⟨g, 3, none⟩ a3).setCell ⟨g, 4, none⟩ a4).setCell ⟨g, 5, none⟩ a5).heap.size = w.heap.size := by simp
set_option maxHeartbeats 16000000 in
theorem rstate_any (v : Value) (l : List UInt8) (w : World) (hr : Reads w v l) :
    Calls Try.prog 28 #[v] w fun e w' => Rds l w e w' := by
  obtain ⟨W, hW⟩ : ∃ W, w.alloc (.cells #[.int .i64 0, .int .i64 0, .int .i64 0, .slice none 0 0, .slice none 0 0, .slice none 0 0] 32) = W := ⟨_, rfl⟩
  have A := hid (show W.heap[w.heap.size]? = some (.cells #[.int .i64 0, .int .i64 0, .int .i64 0, .slice none 0 0, .slice none 0 0, .slice none 0 0] 32 (0, 0)) by rw [← hW]; exact heap_alloc_new w _)
  have B := hid (show Below w.heap.size w W by rw [← hW]; exact (Below.refl _ _).alloc (Nat.le_refl _) _)
  have zW : W.heap.size = w.heap.size + 1 := by rw [← hW, World.size_alloc]
  have HB := hid (xbegin_any 84 131072 v l W (hr.below B.out) (by omega))
  obtain ⟨m1, m2⟩ := rss_state l
  have HNo := hid (fun (k p : Nat) (w' : World) (h : rss l = (k, p, sx0)) (hb : Below w.heap.size w w') => Rds.no h hb)
  have HYes := hid (fun (r : Sx) (v1 v2 v3 : Value) (w' : World) (h : rss l = (0, 0, r)) (ho : OS w' w.heap.size v1 v2 v3 r) (hb : Below w.heap.size w w') => Rds.yes h ho hb)
  have HXT := hid (fun (wx : World) (sx : Nat × Nat) (hx : XS wx (w.heap.size + 1) v l 131072 sx) => xtext_any wx hx (by omega))
  have HXW := hid (fun (wx : World) (sx : Nat × Nat) (hx : XS wx (w.heap.size + 1) v l 131072 sx) => xwhole_any wx hx)
  have HXL := hid (fun (wx : World) (sx : Nat × Nat) (hx : XS wx (w.heap.size + 1) v l 131072 sx) => xlevels_any wx hx (by omega))
  have HXI := hid (fun (wx : World) (sx : Nat × Nat) (hx : XS wx (w.heap.size + 1) v l 131072 sx) => xlines_any wx hx (by omega))
  have HXQ := hid (fun (wx : World) (sx : Nat × Nat) (hx : XS wx (w.heap.size + 1) v l 131072 sx) => xrequest_any wx hx (by omega))
  have HXM := hid (fun (wx : World) (sx : Nat × Nat) (hx : XS wx (w.heap.size + 1) v l 131072 sx) => xmany_any wx hx (by omega))
  have M1 := hid m1
  have M2 := hid m2
  have HFv := hid (fSt_val l 131072 (bS 84 l 131072))
  have HWh := hid hW
  clear hr m1 m2 hW
  unfold sS at M1 M2 HFv
  rw [zW] at HB
  go_enter Try.func28, Try.ntmps28
  go_wp2_with fail
  rw [HWh.out]
  refine Calls.mono HB.out ?_
  rintro e w1 ⟨rfl, hS1, hb1⟩
  generalize bS 84 l 131072 = s0 at *
  have A1 := hid ((hb1.block w.heap.size (by omega)).trans A.out)
  have B1 := hid (B.out.trans (hb1.mono (by omega)))
  have hz1 := hb1.size
  have hl1 : w.heap.size + 2 ≤ w1.heap.size := by have := hS1.lt; omega
  obtain ⟨W0, hW0⟩ : ∃ W0, w1.alloc (.cells #[.int .i64 0, .int .i64 0, .int .i64 0, .slice none 0 0, .slice none 0 0, .slice none 0 0] 32) = W0 := ⟨_, rfl⟩
  have b2 : Below w1.heap.size w1 W0 := by rw [← hW0]; exact (Below.refl _ _).alloc (Nat.le_refl _) _
  have z0w : W0.heap.size = w1.heap.size + 1 := by rw [← hW0, World.size_alloc]
  have R0 := hid (show W0.heap[w1.heap.size]? = some (.cells #[.int .i64 0, .int .i64 0, .int .i64 0, .slice none 0 0, .slice none 0 0, .slice none 0 0] 32 (0, 0)) by rw [← hW0]; exact heap_alloc_new w1 _)
  have A0 := hid (show W0.heap[w.heap.size]? = some (.cells #[.int .i64 0, .int .i64 0, .int .i64 0, .slice none 0 0, .slice none 0 0, .slice none 0 0] 32 (0, 0)) from (b2.block w.heap.size (by omega)).trans A1.out)
  have B0 := hid (B1.out.trans (b2.mono (by omega)))
  have S0 := hid (hS1.below b2)
  have HW0 := hid hW0
  have n1 : w.heap.size ≠ w.heap.size + 1 := by omega
  have n2 : w1.heap.size ≠ w.heap.size + 1 := by omega
  clear hS1 hb1 b2 HB A B A1 B1 hW0
  have HC0 := hid (HXW.out W0 _ S0.out)
  go_wp2_with fail
  rw [HW0.out]
  refine Calls.mono HC0.out ?_
  rintro e w0a ⟨rfl, hS, hT⟩
  have Ra0 := hid (show w0a.heap[w1.heap.size]? = some (.cells #[.int .i64 0, .int .i64 0, .int .i64 0, .slice none 0 0, .slice none 0 0, .slice none 0 0] 32 (0, 0)) from (hT.block _ (by omega) n2 n2).trans R0.out)
  have Aa0 := hid (show w0a.heap[w.heap.size]? = some (.cells #[.int .i64 0, .int .i64 0, .int .i64 0, .slice none 0 0, .slice none 0 0, .slice none 0 0] 32 (0, 0)) from (hT.block _ (by omega) n1 n1).trans A0.out)
  have z0a := hT.size
  have q0 : w0a.cell? ⟨w1.heap.size, 0, none⟩ = some (.int .i64 0) := by rw [Lib.cell_of_heap Ra0.out]; rfl
  have f0 : w0a.frozen? ⟨w1.heap.size, 0, none⟩ = false := Lib.frozen_of_heap Ra0.out 0
  obtain ⟨a0, ea0⟩ : ∃ a0, vI l (s0) = a0 := ⟨_, rfl⟩
  rw [ea0]
  have EA0 := hid ea0
  clear ea0
  obtain ⟨W1, hW1⟩ : ∃ W1, w0a.setCell ⟨w1.heap.size, 0, none⟩ (.int .i64 a0) = W1 := ⟨_, rfl⟩
  have R1 := hid (show W1.heap[w1.heap.size]? = some (.cells #[.int .i64 a0, .int .i64 0, .int .i64 0, .slice none 0 0, .slice none 0 0, .slice none 0 0] 32 (0, 0)) by rw [← hW1]; exact heap_setCell_same w0a _ 0 _ _ _ Ra0.out)
  have A1 := hid (show W1.heap[w.heap.size]? = some (.cells #[.int .i64 0, .int .i64 0, .int .i64 0, .slice none 0 0, .slice none 0 0, .slice none 0 0] 32 (0, 0)) by rw [← hW1]; exact (heap_setCell_other w0a ⟨w1.heap.size, 0, none⟩ _ _ (by show w.heap.size ≠ w1.heap.size; omega)).trans Aa0.out)
  have z1w : W1.heap.size = w0a.heap.size := by rw [← hW1]; simp
  have S1 := hid (show XS W1 (w.heap.size + 1) v l 131072 (sI l (s0)) by rw [← hW1]; exact hS.set (by omega))
  have B1 := hid ((B0.out.trans (hT.lows (B := w.heap.size) (by omega) (by omega))).trans (show Below w.heap.size w0a W1 by rw [← hW1]; exact (Tb.set w0a ⟨w1.heap.size, 0, none⟩ _ (.inl rfl) : Tb w1.heap.size w1.heap.size _ _).lows (by omega) (by omega)))
  clear hS hT HC0 S0 B0 R0 A0 Ra0 Aa0
  have HC1 := hid (HXW.out W1 _ S1.out)
  go_wp2_with fail
  refine Calls.mono HC1.out ?_
  rintro e w1a ⟨rfl, hS, hT⟩
  have Ra1 := hid (show w1a.heap[w1.heap.size]? = some (.cells #[.int .i64 a0, .int .i64 0, .int .i64 0, .slice none 0 0, .slice none 0 0, .slice none 0 0] 32 (0, 0)) from (hT.block _ (by omega) n2 n2).trans R1.out)
  have Aa1 := hid (show w1a.heap[w.heap.size]? = some (.cells #[.int .i64 0, .int .i64 0, .int .i64 0, .slice none 0 0, .slice none 0 0, .slice none 0 0] 32 (0, 0)) from (hT.block _ (by omega) n1 n1).trans A1.out)
  have z1a := hT.size
  have q1 : w1a.cell? ⟨w1.heap.size, 1, none⟩ = some (.int .i64 0) := by rw [Lib.cell_of_heap Ra1.out]; rfl
  have f1 : w1a.frozen? ⟨w1.heap.size, 1, none⟩ = false := Lib.frozen_of_heap Ra1.out 1
  obtain ⟨a1, ea1⟩ : ∃ a1, vI l (sI l (s0)) = a1 := ⟨_, rfl⟩
  rw [ea1]
  have EA1 := hid ea1
  clear ea1
  obtain ⟨W2, hW2⟩ : ∃ W2, w1a.setCell ⟨w1.heap.size, 1, none⟩ (.int .i64 a1) = W2 := ⟨_, rfl⟩
  have R2 := hid (show W2.heap[w1.heap.size]? = some (.cells #[.int .i64 a0, .int .i64 a1, .int .i64 0, .slice none 0 0, .slice none 0 0, .slice none 0 0] 32 (0, 0)) by rw [← hW2]; exact heap_setCell_same w1a _ 1 _ _ _ Ra1.out)
  have A2 := hid (show W2.heap[w.heap.size]? = some (.cells #[.int .i64 0, .int .i64 0, .int .i64 0, .slice none 0 0, .slice none 0 0, .slice none 0 0] 32 (0, 0)) by rw [← hW2]; exact (heap_setCell_other w1a ⟨w1.heap.size, 1, none⟩ _ _ (by show w.heap.size ≠ w1.heap.size; omega)).trans Aa1.out)
  have z2w : W2.heap.size = w1a.heap.size := by rw [← hW2]; simp
  have S2 := hid (show XS W2 (w.heap.size + 1) v l 131072 (sI l (sI l (s0))) by rw [← hW2]; exact hS.set (by omega))
  have B2 := hid ((B1.out.trans (hT.lows (B := w.heap.size) (by omega) (by omega))).trans (show Below w.heap.size w1a W2 by rw [← hW2]; exact (Tb.set w1a ⟨w1.heap.size, 1, none⟩ _ (.inl rfl) : Tb w1.heap.size w1.heap.size _ _).lows (by omega) (by omega)))
  clear hS hT HC1 S1 B1 R1 A1 Ra1 Aa1
  have HC2 := hid (HXW.out W2 _ S2.out)
  go_wp2_with fail
  refine Calls.mono HC2.out ?_
  rintro e w2a ⟨rfl, hS, hT⟩
  have Ra2 := hid (show w2a.heap[w1.heap.size]? = some (.cells #[.int .i64 a0, .int .i64 a1, .int .i64 0, .slice none 0 0, .slice none 0 0, .slice none 0 0] 32 (0, 0)) from (hT.block _ (by omega) n2 n2).trans R2.out)
  have Aa2 := hid (show w2a.heap[w.heap.size]? = some (.cells #[.int .i64 0, .int .i64 0, .int .i64 0, .slice none 0 0, .slice none 0 0, .slice none 0 0] 32 (0, 0)) from (hT.block _ (by omega) n1 n1).trans A2.out)
  have z2a := hT.size
  have q2 : w2a.cell? ⟨w1.heap.size, 2, none⟩ = some (.int .i64 0) := by rw [Lib.cell_of_heap Ra2.out]; rfl
  have f2 : w2a.frozen? ⟨w1.heap.size, 2, none⟩ = false := Lib.frozen_of_heap Ra2.out 2
  obtain ⟨a2, ea2⟩ : ∃ a2, vI l (sI l (sI l (s0))) = a2 := ⟨_, rfl⟩
  rw [ea2]
  have EA2 := hid ea2
  clear ea2
  obtain ⟨W3, hW3⟩ : ∃ W3, w2a.setCell ⟨w1.heap.size, 2, none⟩ (.int .i64 a2) = W3 := ⟨_, rfl⟩
  have R3 := hid (show W3.heap[w1.heap.size]? = some (.cells #[.int .i64 a0, .int .i64 a1, .int .i64 a2, .slice none 0 0, .slice none 0 0, .slice none 0 0] 32 (0, 0)) by rw [← hW3]; exact heap_setCell_same w2a _ 2 _ _ _ Ra2.out)
  have A3 := hid (show W3.heap[w.heap.size]? = some (.cells #[.int .i64 0, .int .i64 0, .int .i64 0, .slice none 0 0, .slice none 0 0, .slice none 0 0] 32 (0, 0)) by rw [← hW3]; exact (heap_setCell_other w2a ⟨w1.heap.size, 2, none⟩ _ _ (by show w.heap.size ≠ w1.heap.size; omega)).trans Aa2.out)
  have z3w : W3.heap.size = w2a.heap.size := by rw [← hW3]; simp
  have S3 := hid (show XS W3 (w.heap.size + 1) v l 131072 (sI l (sI l (sI l (s0)))) by rw [← hW3]; exact hS.set (by omega))
  have B3 := hid ((B2.out.trans (hT.lows (B := w.heap.size) (by omega) (by omega))).trans (show Below w.heap.size w2a W3 by rw [← hW3]; exact (Tb.set w2a ⟨w1.heap.size, 2, none⟩ _ (.inl rfl) : Tb w1.heap.size w1.heap.size _ _).lows (by omega) (by omega)))
  clear hS hT HC2 S2 B2 R2 A2 Ra2 Aa2
  have HC3 := hid (HXL.out W3 _ S3.out)
  go_wp2_with fail
  refine Calls.mono HC3.out ?_
  intro e w3a hq
  obtain ⟨a3, J, rfl, hO, hS, hT, hV⟩ := hq
  have HV3 := hid hV
  have HO3 := hid (hO.lower2 (show w1.heap.size + 1 ≤ W3.heap.size by omega))
  clear hV hO
  have Ra3 := hid (show w3a.heap[w1.heap.size]? = some (.cells #[.int .i64 a0, .int .i64 a1, .int .i64 a2, .slice none 0 0, .slice none 0 0, .slice none 0 0] 32 (0, 0)) from (hT.block _ (by omega) n2 n2).trans R3.out)
  have Aa3 := hid (show w3a.heap[w.heap.size]? = some (.cells #[.int .i64 0, .int .i64 0, .int .i64 0, .slice none 0 0, .slice none 0 0, .slice none 0 0] 32 (0, 0)) from (hT.block _ (by omega) n1 n1).trans A3.out)
  have z3a := hT.size
  have q3 : w3a.cell? ⟨w1.heap.size, 3, none⟩ = some (.slice none 0 0) := by rw [Lib.cell_of_heap Ra3.out]; rfl
  have f3 : w3a.frozen? ⟨w1.heap.size, 3, none⟩ = false := Lib.frozen_of_heap Ra3.out 3
  obtain ⟨W4, hW4⟩ : ∃ W4, w3a.setCell ⟨w1.heap.size, 3, none⟩ (a3) = W4 := ⟨_, rfl⟩
  have R4 := hid (show W4.heap[w1.heap.size]? = some (.cells #[.int .i64 a0, .int .i64 a1, .int .i64 a2, a3, .slice none 0 0, .slice none 0 0] 32 (0, 0)) by rw [← hW4]; exact heap_setCell_same w3a _ 3 _ _ _ Ra3.out)
  have A4 := hid (show W4.heap[w.heap.size]? = some (.cells #[.int .i64 0, .int .i64 0, .int .i64 0, .slice none 0 0, .slice none 0 0, .slice none 0 0] 32 (0, 0)) by rw [← hW4]; exact (heap_setCell_other w3a ⟨w1.heap.size, 3, none⟩ _ _ (by show w.heap.size ≠ w1.heap.size; omega)).trans Aa3.out)
  have z4w : W4.heap.size = w3a.heap.size := by rw [← hW4]; simp
  have S4 := hid (show XS W4 (w.heap.size + 1) v l 131072 (sV l 131072 (sI l (sI l (sI l (s0))))) by rw [← hW4]; exact hS.set (by omega))
  have B4 := hid ((B3.out.trans (hT.lows (B := w.heap.size) (by omega) (by omega))).trans (show Below w.heap.size w3a W4 by rw [← hW4]; exact (Tb.set w3a ⟨w1.heap.size, 3, none⟩ _ (.inl rfl) : Tb w1.heap.size w1.heap.size _ _).lows (by omega) (by omega)))
  have O4 := hid (show OLv W4 (w1.heap.size + 1) a3 J from HO3.out.old (fun k hk _ => by rw [← hW4]; exact heap_setCell_other w3a ⟨w1.heap.size, 3, none⟩ k _ (by show k ≠ w1.heap.size; omega)))
  obtain ⟨lo, ln, lp, rfl⟩ := O4.out.form
  clear hS hT HC3 S3 B3 R3 A3 Ra3 Aa3 HO3
  obtain ⟨s4, es4⟩ : ∃ z, sV l 131072 (sI l (sI l (sI l (s0)))) = z := ⟨_, rfl⟩
  rw [es4] at S4 M1 M2 HFv HV3
  clear es4
  have HMn := hid (HXM.out W4 _ S4.out)
  obtain ⟨F, f1, f2, f3, f4, f5, f6, f7⟩ := list_model (fHl 131072) l 131072 s4
  obtain ⟨s5, es5⟩ : ∃ z, sG (fHl 131072) l 131072 s4 = z := ⟨_, rfl⟩
  have SUs5 := hid (show s5.1 = 0 → s4.1 = 0 from fun h => sG_up (by rw [es5]; exact h))
  rw [es5] at f5 f6 M1 M2 HFv
  generalize sC l 131072 s4 = s4c at *
  generalize vC l 131072 s4 = n at *
  have F1 := hid f1
  have F2 := hid f2
  have F3 := hid f3
  have F4 := hid f4
  have F5 := hid f5
  have F6 := hid f6
  clear f1 f2 f3 f4 f5 f6 es5
  have hn9 : (n : Int) ≤ 1000000000 := by omega
  go_wp2_with fail
  try rw [hW4]
  clear q0 f0 q1 q2 q3 hW1 hW2 hW3 hW4
  refine Calls.mono HMn.out ?_
  rintro e w5 ⟨rfl, hS, hT⟩
  have R5 := hid (show w5.heap[w1.heap.size]? = some (.cells #[.int .i64 a0, .int .i64 a1, .int .i64 a2, .slice lo ln lp, .slice none 0 0, .slice none 0 0] 32 (0, 0)) from (hT.block _ (by omega) n2 n2).trans R4.out)
  have A5 := hid (show w5.heap[w.heap.size]? = some (.cells #[.int .i64 0, .int .i64 0, .int .i64 0, .slice none 0 0, .slice none 0 0, .slice none 0 0] 32 (0, 0)) from (hT.block _ (by omega) n1 n1).trans A4.out)
  have O5 := hid (O4.out.tbb hT (by omega))
  have B5 := hid (B4.out.trans (hT.lows (B := w.heap.size) (by omega) (by omega)))
  have S5 := hid hS
  have z5 := hT.size
  clear hS hT HMn R4 A4 O4 B4 S4
  go_wp2_with fail
  go_loopw [8] (fun vi wx => ∃ (j : Nat) (H : List Hl) (ho : Option Addr) (hn hp : Nat), j ≤ n ∧ vi = .int .i64 (j : Int) ∧ wx.heap[w1.heap.size]? = some (.cells #[.int .i64 a0, .int .i64 a1, .int .i64 a2, .slice lo ln lp, .slice ho hn hp, .slice none 0 0] 32 (0, 0)) ∧ OHl wx w5.heap.size (.slice ho hn hp) H ∧ Hid (H.length = j) ∧ Tb (w.heap.size + 1) w1.heap.size w5 wx ∧ XS wx (w.heap.size + 1) v l 131072 ((F j).1, (F j).2.1) ∧ Hid ((F j).1 = 0 → H = (F j).2.2)) (fun vi _ => n - (intOf vi).toNat)
  case atStart => exact ⟨0, [], none, 0, 0, Nat.zero_le _, rfl, R5.out, OHl.nil _ _, rfl, ⟨rfl, rfl, rfl, Nat.le_refl _, fun _ _ _ _ => rfl⟩, by rw [F1.out]; exact S5.out, fun e => (F2.out e).symm⟩
  case round =>
    obtain ⟨j, H, ho, hn, hp, hj, rfl, hR, hO, HJ, ht, hx, HE⟩ := hrel
    have HR := hid hR
    have HO := hid hO
    have HTb := hid ht
    have HX := hid hx
    have ce := hx.e
    have hzw := ht.size
    clear hR hO ht hx
    by_cases hgo : j < n ∧ (F j).1 = 0
    · have hjn := hgo.1
      have he := hgo.2
      have hI : (j : Int) < (n : Int) := by omega
      rw [he] at ce
      obtain ⟨g1, g2⟩ := F3.out j hjn he
      have G1 := hid g1
      have G2 := hid g2
      have HP0 := hid (show XS wr (w.heap.size + 1) v l 131072 (0, (F j).2.1) by have := HX.out; rw [he] at this; exact this)
      have HJE := hid (HE.out he)
      clear g1 g2 HX HE he hgo
      generalize (F j).2.1 = p at *
      obtain ⟨Wt, hWt⟩ : ∃ W, wr.alloc (.cells #[.string ⟨#[]⟩, .slice none 0 0, .int .i64 0] 79) = W := ⟨_, rfl⟩
      have zt : Wt.heap.size = wr.heap.size + 1 := by rw [← hWt, World.size_alloc]
      have bt : Below wr.heap.size wr Wt := by rw [← hWt]; exact (Below.refl _ _).alloc (Nat.le_refl _) _
      have rt : Wt.heap[wr.heap.size]? = some (.cells #[.string ⟨#[]⟩, .slice none 0 0, .int .i64 0] 79 (0, 0)) := by rw [← hWt]; exact heap_alloc_new wr _
      have HSt := hid (HP0.out.below bt)
      have Tt := hid (Tb.of_below (rb := (w.heap.size + 1)) bt)
      have Rt := hid rt
      have HWt := hid hWt
      have hlg : (w.heap.size + 1) < wr.heap.size := HP0.out.lt
      have hne : wr.heap.size ≠ (w.heap.size + 1) := by omega
      clear bt rt hWt
      have TV0 := Tt
      have HTx := hid (HXT.out Wt _ HSt.out)
      go_wp2_with fail
      rw [HWt.out]
      refine Calls.mono HTx.out ?_
      rintro e y1 ⟨rfl, hS2, hT2⟩
      generalize eta : vT l 131072 (0, p) = ta at *
      have Ry := hid (show y1.heap[wr.heap.size]? = some (.cells #[.string ⟨#[]⟩, .slice none 0 0, .int .i64 0] 79 (0, 0)) from (hT2.block _ (by omega) hne hne).trans Rt.out)
      have zy1 := hT2.size
      have qa1 : y1.cell? ⟨wr.heap.size, 0, none⟩ = some (.string ⟨#[]⟩) := by rw [Lib.cell_of_heap Ry.out]; rfl
      have qf1 : y1.frozen? ⟨wr.heap.size, 0, none⟩ = false := Lib.frozen_of_heap Ry.out 0
      obtain ⟨V1, hV1⟩ : ∃ W3, y1.setCell ⟨wr.heap.size, 0, none⟩ (.string ta) = W3 := ⟨_, rfl⟩
      have RV1 := hid (show V1.heap[wr.heap.size]? = some (.cells #[.string ta, .slice none 0 0, .int .i64 0] 79 (0, 0)) by rw [← hV1]; exact heap_setCell_same y1 _ 0 _ _ _ Ry.out)
      have HSV1 := hid (show XS V1 (w.heap.size + 1) v l 131072 (sT l 131072 (0, p)) by rw [← hV1]; exact hS2.set hlg)
      have TV1 := hid (show Tb (w.heap.size + 1) (w.heap.size + 1) wr V1 from ((TV0.out.trans hT2).own (g := wr.heap.size) (by rw [← hV1]; exact Tb.set y1 ⟨wr.heap.size, 0, none⟩ _ (.inl rfl)) (Nat.le_refl _)))
      have zV1 : V1.heap.size = y1.heap.size := by rw [← hV1]; simp
      have ETA := hid eta
      have HLi := hid (HXI.out V1 _ HSV1.out)
      clear eta hS2 hT2 HTx HSt Ry Rt HWt
      go_wp2_with fail
      refine Calls.mono HLi.out ?_
      intro e y2 hq2
      obtain ⟨lv, Jl, rfl, hOl, hS2, hT2, hVl⟩ := hq2
      obtain ⟨xo, xn, xp, rfl⟩ := hOl.form
      have Ry := hid (show y2.heap[wr.heap.size]? = some (.cells #[.string ta, .slice none 0 0, .int .i64 0] 79 (0, 0)) from (hT2.block _ (by omega) hne hne).trans RV1.out)
      have zy2 := hT2.size
      have qa2 : y2.cell? ⟨wr.heap.size, 1, none⟩ = some (.slice none 0 0) := by rw [Lib.cell_of_heap Ry.out]; rfl
      have qf2 : y2.frozen? ⟨wr.heap.size, 1, none⟩ = false := Lib.frozen_of_heap Ry.out 1
      obtain ⟨V2, hV2⟩ : ∃ W3, y2.setCell ⟨wr.heap.size, 1, none⟩ (.slice xo xn xp) = W3 := ⟨_, rfl⟩
      have RV2 := hid (show V2.heap[wr.heap.size]? = some (.cells #[.string ta, .slice xo xn xp, .int .i64 0] 79 (0, 0)) by rw [← hV2]; exact heap_setCell_same y2 _ 1 _ _ _ Ry.out)
      have HSV2 := hid (show XS V2 (w.heap.size + 1) v l 131072 (sL l 131072 (sT l 131072 (0, p))) by rw [← hV2]; exact hS2.set hlg)
      have TV2 := hid (show Tb (w.heap.size + 1) (w.heap.size + 1) wr V2 from ((TV1.out.trans hT2).own (g := wr.heap.size) (by rw [← hV2]; exact Tb.set y2 ⟨wr.heap.size, 1, none⟩ _ (.inl rfl)) (Nat.le_refl _)))
      have zV2 : V2.heap.size = y2.heap.size := by rw [← hV2]; simp
      have OL2 := hid (show OLn V2 V1.heap.size (.slice xo xn xp) Jl from hOl.own (fun kk hk => by rw [← hV2]; exact heap_setCell_other y2 ⟨wr.heap.size, 1, none⟩ kk _ (by show kk ≠ wr.heap.size; have := (World.ownsRow.lt hOl kk hk).1; omega)))
      have HVl := hid hVl
      have HWi := hid (HXW.out V2 _ HSV2.out)
      clear hVl hOl hS2 hT2 HLi HSV1 RV1 Ry TV1
      go_wp2_with fail
      refine Calls.mono HWi.out ?_
      rintro e y3 ⟨rfl, hS2, hT2⟩
      generalize eda : vI l (sL l 131072 (sT l 131072 (0, p))) = da at *
      have Ry := hid (show y3.heap[wr.heap.size]? = some (.cells #[.string ta, .slice xo xn xp, .int .i64 0] 79 (0, 0)) from (hT2.block _ (by omega) hne hne).trans RV2.out)
      have zy3 := hT2.size
      have qa3 : y3.cell? ⟨wr.heap.size, 2, none⟩ = some (.int .i64 0) := by rw [Lib.cell_of_heap Ry.out]; rfl
      have qf3 : y3.frozen? ⟨wr.heap.size, 2, none⟩ = false := Lib.frozen_of_heap Ry.out 2
      obtain ⟨V3, hV3⟩ : ∃ W3, y3.setCell ⟨wr.heap.size, 2, none⟩ (.int .i64 da) = W3 := ⟨_, rfl⟩
      have RV3 := hid (show V3.heap[wr.heap.size]? = some (.cells #[.string ta, .slice xo xn xp, .int .i64 da] 79 (0, 0)) by rw [← hV3]; exact heap_setCell_same y3 _ 2 _ _ _ Ry.out)
      have HSV3 := hid (show XS V3 (w.heap.size + 1) v l 131072 (sI l (sL l 131072 (sT l 131072 (0, p)))) by rw [← hV3]; exact hS2.set hlg)
      have TV3 := hid (show Tb (w.heap.size + 1) (w.heap.size + 1) wr V3 from ((TV2.out.trans hT2).own (g := wr.heap.size) (by rw [← hV3]; exact Tb.set y3 ⟨wr.heap.size, 2, none⟩ _ (.inl rfl)) (Nat.le_refl _)))
      have zV3 : V3.heap.size = y3.heap.size := by rw [← hV3]; simp
      have EDA := hid eda
      have OL3 := hid (show OLn V3 V1.heap.size (.slice xo xn xp) Jl from (OL2.out.tbb hT2 (by omega)).own (fun kk hk => by rw [← hV3]; exact heap_setCell_other y3 ⟨wr.heap.size, 2, none⟩ kk _ (by show kk ≠ wr.heap.size; have := (World.ownsRow.lt OL2.out kk hk).1; omega)))
      clear eda hS2 hT2 HWi HSV2 RV2 Ry TV2 OL2
      have RS9 := hid (show V3.heap[w1.heap.size]? = some (.cells #[.int .i64 a0, .int .i64 a1, .int .i64 a2, .slice lo ln lp, .slice ho hn hp, .slice none 0 0] 32 (0, 0)) from (TV3.out.block _ (by have := (Array.getElem?_eq_some_iff.1 HR.out).1; omega) n2 n2).trans HR.out)
      have HO9 := hid (HO.out.tbb TV3.out (by omega))
      obtain ⟨W6, hW6⟩ : ∃ W6, V3.alloc (.cells #[.string ta, .slice xo xn xp, .int .i64 da] 79) = W6 := ⟨_, rfl⟩
      have R6 := hid (show W6.heap[y3.heap.size]? = some (.cells #[.string ta, .slice xo xn xp, .int .i64 da] 79 (0, 0)) by rw [← hW6, ← zV3]; exact heap_alloc_new V3 _)
      have B6 := hid (show Below V3.heap.size V3 W6 by rw [← hW6]; exact (Below.refl _ _).alloc (Nat.le_refl _) _)
      have z6 : W6.heap.size = V3.heap.size + 1 := by rw [← hW6, World.size_alloc]
      have HO6 := hid (show OHl W6 w5.heap.size (.slice ho hn hp) H from HO9.out.tbb (Tb.of_below (rb := (w.heap.size + 1)) B6.out) (by omega))
      have OL6 := hid (show OLn W6 w5.heap.size (.slice xo xn xp) Jl from (OL3.out.tbb (Tb.of_below (rb := (w.heap.size + 1)) B6.out) (by omega)).lower (by omega))
      have hnn : ∀ k, (Value.slice xo xn xp).ownBlock = some k → (Value.slice ho hn hp).ownBlock ≠ some k := fun k h1 h2 => by
        have a1 := (World.ownsRow.lt OL3.out k h1).1
        have a2 := (HO.out.block_ge k h2).2
        omega
      have qq0 : V3.cell? ⟨wr.heap.size, 0, none⟩ = some (.string ta) := by rw [Lib.cell_of_heap RV3.out]; rfl
      have qq1 : V3.cell? ⟨wr.heap.size, 1, none⟩ = some (.slice xo xn xp) := by rw [Lib.cell_of_heap RV3.out]; rfl
      have qq2 : V3.cell? ⟨wr.heap.size, 2, none⟩ = some (.int .i64 da) := by rw [Lib.cell_of_heap RV3.out]; rfl
      have qs : V3.cell? ⟨w1.heap.size, 4, none⟩ = some (.slice ho hn hp) := by rw [Lib.cell_of_heap RS9.out]; rfl
      have hbz : w5.heap.size ≤ W6.heap.size := by omega
      have hJl : H.length ≤ 1000000000000 := by have := HJ.out; omega
      have hxl : w1.heap.size < w5.heap.size := by have := (Array.getElem?_eq_some_iff.1 R5.out).1; omega
      clear HO9 OL3 HP0
      go_wp2_with (at_builtin; go_loud (refine wpList_appHl rfl _ _ rfl w5.heap.size _ H rfl HO6.out y3.heap.size ⟨ta, Jl, da⟩ (.slice xo xn xp) rfl R6.out OL6.out hnn hJl hbz ?hnext))
      case hnext =>
      intro v7 w7 ho7 hg7 _
      have T7 := hid (((HTb.out.over TV3.out).trans (Tb.of_below B6.out).wide).grow2 hg7 (fun k hk => (HO6.out.block_ge k hk).1))
      have R7 := hid (show w7.heap[w1.heap.size]? = some (.cells #[.int .i64 a0, .int .i64 a1, .int .i64 a2, .slice lo ln lp, .slice ho hn hp, .slice none 0 0] 32 (0, 0)) from (hg7.block _ (by omega) (fun e => by have := (HO6.out.block_ge _ e.symm).1; omega)).trans ((B6.out.block _ (by omega)).trans RS9.out))
      have S7 := hid (show XS w7 (w.heap.size + 1) v l 131072 (sI l (sL l 131072 (sT l 131072 (0, p)))) from (HSV3.out.below B6.out).keep (fun k hk => hg7.block k (by omega) (fun e => by have := (HO6.out.block_ge _ e.symm).1; omega)))
      obtain ⟨vo, vn, vp, rfl⟩ := ho7.form
      obtain ⟨W8, hW8⟩ : ∃ W8, w7.setCell ⟨w1.heap.size, 4, none⟩ (.slice vo vn vp) = W8 := ⟨_, rfl⟩
      have R8 := hid (show W8.heap[w1.heap.size]? = some (.cells #[.int .i64 a0, .int .i64 a1, .int .i64 a2, .slice lo ln lp, .slice vo vn vp, .slice none 0 0] 32 (0, 0)) by rw [← hW8]; exact heap_setCell_same w7 _ 4 _ _ _ R7.out)
      have T8 := hid (show Tb (w.heap.size + 1) w1.heap.size w5 W8 from T7.out.trans (by rw [← hW8]; exact Tb.set w7 ⟨w1.heap.size, 4, none⟩ _ (.inr rfl)))
      have O8 := hid (show OHl W8 w5.heap.size (.slice vo vn vp) (H ++ [⟨ta, Jl, da⟩]) from ho7.old (fun k hk _ => by rw [← hW8]; exact heap_setCell_other w7 ⟨w1.heap.size, 4, none⟩ k _ (by show k ≠ w1.heap.size; omega)))
      have S8 := hid (show XS W8 (w.heap.size + 1) v l 131072 ((F (j + 1)).1, (F (j + 1)).2.1) by
        rw [G1.out, fHl_state l 131072 (0, p) rfl, ← hW8]
        exact S7.out.set (by omega))
      have HJ8 := hid (show (H ++ [(⟨ta, Jl, da⟩ : Hl)]).length = j + 1 by rw [List.length_append, HJ.out]; rfl)
      have HE8 := hid (show (F (j + 1)).1 = 0 → H ++ [(⟨ta, Jl, da⟩ : Hl)] = (F (j + 1)).2.2 from fun e => by
        have e9 : (sI l (sL l 131072 (sT l 131072 (0, p)))).1 = 0 := by
          have h1 := G1.out
          rw [fHl_state l 131072 (0, p) rfl] at h1
          rw [← h1]
          exact e
        rw [G2.out e, HJE.out]
        exact congrArg (fun z => (F j).2.2 ++ [z]) ((fHl_val l 131072 (0, p) e9).trans (by rw [ETA.out, EDA.out, HVl.out (sI_up e9)])).symm)
      have qt : w7.cell? ⟨w1.heap.size, 4, none⟩ = some (.slice ho hn hp) := by rw [Lib.cell_of_heap R7.out]; rfl
      have qtf : w7.frozen? ⟨w1.heap.size, 4, none⟩ = false := Lib.frozen_of_heap R7.out 4
      clear ho7 hg7 HO6 R6 B6 S7 T7 R7 RS9 OL6 hnn
      go_wp2_with fail
      try rw [hW8]
      go_roundw
      case rel => exact ⟨j + 1, _, _, _, _, by omega, by go_num, R8.out, O8.out, HJ8, T8.out, S8.out, HE8⟩
      case measure => simp [intOf]; omega
    · have SE := hid (show XS wr (w.heap.size + 1) v l 131072 s5 ∧ (s5.1 = 0 → H = (gL (fHl 131072) 131072 l s4.2).2.2) by
        by_cases hjn : j < n
        · have he : (F j).1 ≠ 0 := fun h => hgo ⟨hjn, h⟩
          have e2 := F5.out
          rw [F4.out j hj he] at e2
          rw [← e2]
          exact ⟨HX.out, fun e => (he e).elim⟩
        · obtain rfl : j = n := by omega
          refine ⟨by rw [← F5.out]; exact HX.out, fun e => ?_⟩
          rw [← F6.out e]
          exact HE.out (by have := F5.out; rw [← this] at e; exact e))
      go_upto_region 9 with fail
      go_cut [40] from 31 to 40 (fun v9 wx => v9 = .bool false ∧ wx = wr)
      case first =>
        by_cases hjn : j < n
        · have hI : (j : Int) < (n : Int) := by omega
          have hbf : (((F j).1 : Int) == 0) = false := by
            rw [beq_eq_false_iff_ne]
            intro h
            exact hgo ⟨hjn, by omega⟩
          go_wp2_with fail
          go_meet
          exact ⟨rfl, rfl⟩
        · have hI : ¬ (j : Int) < (n : Int) := by omega
          go_wp2_with fail
          go_meet
          exact ⟨rfl, rfl⟩
      case rest =>
        obtain ⟨rfl, hwc⟩ := hcut
        have hwd := hwc.symm
        clear hwc
        subst hwd
        clear F1 F2 F3 F4 F5 F6 hgo HX HE ce HJ hj
        have HMn := hid (HXM.out wr _ SE.out.1)
        obtain ⟨F, f1, f2, f3, f4, f5, f6, f7⟩ := list_model (fDn 131072) l 131072 s5
        obtain ⟨s6, es6⟩ : ∃ z, sG (fDn 131072) l 131072 s5 = z := ⟨_, rfl⟩
        have SUs6 := hid (show s6.1 = 0 → s5.1 = 0 from fun h => sG_up (by rw [es6]; exact h))
        rw [es6] at f5 f6 M1 M2 HFv
        generalize sC l 131072 s5 = s4c at *
        generalize vC l 131072 s5 = n at *
        have F1 := hid f1
        have F2 := hid f2
        have F3 := hid f3
        have F4 := hid f4
        have F5 := hid f5
        have F6 := hid f6
        clear f1 f2 f3 f4 f5 f6 es6
        have hn9 : (n : Int) ≤ 1000000000 := by omega
        go_wp2_with fail
        refine Calls.mono HMn.out ?_
        rintro e w6 ⟨rfl, hS, hT⟩
        generalize ho = ko at *
        generalize hn = kn at *
        generalize hp = kp at *
        generalize H = KH at *
        have hx5 : w1.heap.size < w5.heap.size := (Array.getElem?_eq_some_iff.1 R5.out).1
        have R6 := hid (show w6.heap[w1.heap.size]? = some (.cells #[.int .i64 a0, .int .i64 a1, .int .i64 a2, .slice lo ln lp, .slice ko kn kp, .slice none 0 0] 32 (0, 0)) from (hT.block _ (by omega) n2 n2).trans HR.out)
        have A6 := hid (show w6.heap[w.heap.size]? = some (.cells #[.int .i64 0, .int .i64 0, .int .i64 0, .slice none 0 0, .slice none 0 0, .slice none 0 0] 32 (0, 0)) from (hT.block _ (by omega) n1 n1).trans ((HTb.out.block _ (by omega) n1 (by omega)).trans A5.out))
        have O6 := hid ((O5.out.keep (fun k h1 h2 => HTb.out.block k h2 (by omega) (by omega))).tbb hT (by omega))
        have OH6 := hid (HO.out.tbb hT (by omega))
        have EH := hid SE.out.2
        have B6' := hid ((B5.out.trans (HTb.out.lower (B := w.heap.size) (by omega) (by omega) (by omega))).trans (hT.lows (B := w.heap.size) (by omega) (by omega)))
        have S6 := hid hS
        have z6 := hT.size
        clear hS hT HMn HR HO HTb SE A5 O5 B5
        go_wp2_with fail
        go_loopw [10] (fun vi wx => ∃ (j : Nat) (H : List Dn) (ho : Option Addr) (hn hp : Nat), j ≤ n ∧ vi = .int .i64 (j : Int) ∧ wx.heap[w1.heap.size]? = some (.cells #[.int .i64 a0, .int .i64 a1, .int .i64 a2, .slice lo ln lp, .slice ko kn kp, .slice ho hn hp] 32 (0, 0)) ∧ ODn wx w6.heap.size (.slice ho hn hp) H ∧ Hid (H.length = j) ∧ Tb (w.heap.size + 1) w1.heap.size w6 wx ∧ XS wx (w.heap.size + 1) v l 131072 ((F j).1, (F j).2.1) ∧ Hid ((F j).1 = 0 → H = (F j).2.2)) (fun vi _ => n - (intOf vi).toNat)
        case atStart => exact ⟨0, [], none, 0, 0, Nat.zero_le _, rfl, R6.out, ODn.nil _ _, rfl, ⟨rfl, rfl, rfl, Nat.le_refl _, fun _ _ _ _ => rfl⟩, by rw [F1.out]; exact S6.out, fun e => (F2.out e).symm⟩
        case round =>
          obtain ⟨j, H, ho, hn, hp, hj, rfl, hR, hO, HJ, ht, hx, HE⟩ := hrel
          have HR := hid hR
          have HO := hid hO
          have HTb := hid ht
          have HX := hid hx
          have ce := hx.e
          have hzw := ht.size
          clear hR hO ht hx
          by_cases hgo : j < n ∧ (F j).1 = 0
          · have hjn := hgo.1
            have he := hgo.2
            have hI : (j : Int) < (n : Int) := by omega
            rw [he] at ce
            obtain ⟨g1, g2⟩ := F3.out j hjn he
            have G1 := hid g1
            have G2 := hid g2
            have HP0 := hid (show XS wr (w.heap.size + 1) v l 131072 (0, (F j).2.1) by have := HX.out; rw [he] at this; exact this)
            have HJE := hid (HE.out he)
            clear g1 g2 HX HE he hgo
            generalize (F j).2.1 = p at *
            obtain ⟨Wt, hWt⟩ : ∃ W, wr.alloc (.cells #[.string ⟨#[]⟩, .int .i64 0, .slice none 0 0, .string ⟨#[]⟩, .int .i64 0, .int .i64 0, .int .i64 0] 81) = W := ⟨_, rfl⟩
            have zt : Wt.heap.size = wr.heap.size + 1 := by rw [← hWt, World.size_alloc]
            have bt : Below wr.heap.size wr Wt := by rw [← hWt]; exact (Below.refl _ _).alloc (Nat.le_refl _) _
            have rt : Wt.heap[wr.heap.size]? = some (.cells #[.string ⟨#[]⟩, .int .i64 0, .slice none 0 0, .string ⟨#[]⟩, .int .i64 0, .int .i64 0, .int .i64 0] 81 (0, 0)) := by rw [← hWt]; exact heap_alloc_new wr _
            have HSt := hid (HP0.out.below bt)
            have Tt := hid (Tb.of_below (rb := (w.heap.size + 1)) bt)
            have Rt := hid rt
            have HWt := hid hWt
            have hlg : (w.heap.size + 1) < wr.heap.size := HP0.out.lt
            have hne : wr.heap.size ≠ (w.heap.size + 1) := by omega
            clear bt rt hWt
            have TV0 := Tt
            have HTx := hid (HXQ.out Wt _ HSt.out)
            go_wp2_with fail
            rw [HWt.out]
            refine Calls.mono HTx.out ?_
            intro e y1 hq2
            obtain ⟨lv, r, rfl, hOl, hS2, hT2, hVl⟩ := hq2
            obtain ⟨xo, xn, xp, rfl⟩ := hOl.form
            have Ry := hid (show y1.heap[wr.heap.size]? = some (.cells #[.string ⟨#[]⟩, .int .i64 0, .slice none 0 0, .string ⟨#[]⟩, .int .i64 0, .int .i64 0, .int .i64 0] 81 (0, 0)) from (hT2.block _ (by omega) hne hne).trans Rt.out)
            have zy1 := hT2.size
            have qa0 : y1.cell? ⟨wr.heap.size, 0, none⟩ = some (.string ⟨#[]⟩) := by rw [Lib.cell_of_heap Ry.out]; rfl
            have qf0 : y1.frozen? ⟨wr.heap.size, 0, none⟩ = false := Lib.frozen_of_heap Ry.out 0
            have qa1 : y1.cell? ⟨wr.heap.size, 1, none⟩ = some (.int .i64 0) := by rw [Lib.cell_of_heap Ry.out]; rfl
            have qf1 : y1.frozen? ⟨wr.heap.size, 1, none⟩ = false := Lib.frozen_of_heap Ry.out 1
            have qa2 : y1.cell? ⟨wr.heap.size, 2, none⟩ = some (.slice none 0 0) := by rw [Lib.cell_of_heap Ry.out]; rfl
            have qf2 : y1.frozen? ⟨wr.heap.size, 2, none⟩ = false := Lib.frozen_of_heap Ry.out 2
            have qa3 : y1.cell? ⟨wr.heap.size, 3, none⟩ = some (.string ⟨#[]⟩) := by rw [Lib.cell_of_heap Ry.out]; rfl
            have qf3 : y1.frozen? ⟨wr.heap.size, 3, none⟩ = false := Lib.frozen_of_heap Ry.out 3
            have qa4 : y1.cell? ⟨wr.heap.size, 4, none⟩ = some (.int .i64 0) := by rw [Lib.cell_of_heap Ry.out]; rfl
            have qf4 : y1.frozen? ⟨wr.heap.size, 4, none⟩ = false := Lib.frozen_of_heap Ry.out 4
            have qa5 : y1.cell? ⟨wr.heap.size, 5, none⟩ = some (.int .i64 0) := by rw [Lib.cell_of_heap Ry.out]; rfl
            have qf5 : y1.frozen? ⟨wr.heap.size, 5, none⟩ = false := Lib.frozen_of_heap Ry.out 5
            obtain ⟨V1, hV1⟩ : ∃ W3, (World.setCell (World.setCell (World.setCell (World.setCell (World.setCell (World.setCell y1 ⟨wr.heap.size, 0, none⟩ (.string r.id)) ⟨wr.heap.size, 1, none⟩ (.int .i64 r.kind)) ⟨wr.heap.size, 2, none⟩ (.slice xo xn xp)) ⟨wr.heap.size, 3, none⟩ (.string r.hold)) ⟨wr.heap.size, 4, none⟩ (.int .i64 r.ttl)) ⟨wr.heap.size, 5, none⟩ (.int .i64 r.now)) = W3 := ⟨_, rfl⟩
            have RV1 := hid (show V1.heap[wr.heap.size]? = some (.cells #[.string r.id, .int .i64 r.kind, .slice xo xn xp, .string r.hold, .int .i64 r.ttl, .int .i64 r.now, .int .i64 0] 81 (0, 0)) by rw [← hV1]; exact six_same (rest := [.int .i64 0]) Ry.out _ _ _ _ _ _)
            have K1 : Tb wr.heap.size wr.heap.size y1 V1 := by rw [← hV1]; exact Tb.six _ _ _ _ _ _ _ _
            have HSV1 := hid (show XS V1 (w.heap.size + 1) v l 131072 (sQ l 131072 (0, p)) from hS2.keep (fun k hk => K1.block k (by omega) (by omega) (by omega)))
            have TV1 := hid (show Tb (w.heap.size + 1) (w.heap.size + 1) wr V1 from ((TV0.out.trans hT2).own (g := wr.heap.size) K1 (Nat.le_refl _)))
            have zV1 : V1.heap.size = y1.heap.size := by rw [← hV1]; exact six_size _ _ _ _ _ _ _ _
            have OL2 := hid (show OLn V1 Wt.heap.size (.slice xo xn xp) r.lines from hOl.own (fun kk hk => K1.block kk (World.ownsRow.lt hOl kk hk).2 (by have := (World.ownsRow.lt hOl kk hk).1; omega) (by have := (World.ownsRow.lt hOl kk hk).1; omega)))
            have HVl := hid hVl
            have HWi := hid (HXW.out V1 _ HSV1.out)
            have HV1 := hid hV1
            unfold rqC
            clear hVl hOl hS2 hT2 HTx HSt Ry Rt HWt K1 hV1
            go_wp2_with fail
            rw [HV1.out]
            refine Calls.mono HWi.out ?_
            rintro e y3 ⟨rfl, hS2, hT2⟩
            generalize eda : vI l (sQ l 131072 (0, p)) = da at *
            have Ry := hid (show y3.heap[wr.heap.size]? = some (.cells #[.string r.id, .int .i64 r.kind, .slice xo xn xp, .string r.hold, .int .i64 r.ttl, .int .i64 r.now, .int .i64 0] 81 (0, 0)) from (hT2.block _ (by omega) hne hne).trans RV1.out)
            have zy2 := hT2.size
            have qa2 : y3.cell? ⟨wr.heap.size, 6, none⟩ = some (.int .i64 0) := by rw [Lib.cell_of_heap Ry.out]; rfl
            have qf2 : y3.frozen? ⟨wr.heap.size, 6, none⟩ = false := Lib.frozen_of_heap Ry.out 6
            obtain ⟨V2, hV2⟩ : ∃ W3, y3.setCell ⟨wr.heap.size, 6, none⟩ (.int .i64 da) = W3 := ⟨_, rfl⟩
            have RV2 := hid (show V2.heap[wr.heap.size]? = some (.cells #[.string r.id, .int .i64 r.kind, .slice xo xn xp, .string r.hold, .int .i64 r.ttl, .int .i64 r.now, .int .i64 da] 81 (0, 0)) by rw [← hV2]; exact heap_setCell_same y3 _ 6 _ _ _ Ry.out)
            have HSV2 := hid (show XS V2 (w.heap.size + 1) v l 131072 (sI l (sQ l 131072 (0, p))) by rw [← hV2]; exact hS2.set hlg)
            have TV2 := hid (show Tb (w.heap.size + 1) (w.heap.size + 1) wr V2 from ((TV1.out.trans hT2).own (g := wr.heap.size) (by rw [← hV2]; exact Tb.set y3 ⟨wr.heap.size, 6, none⟩ _ (.inl rfl)) (Nat.le_refl _)))
            have zV2 : V2.heap.size = y3.heap.size := by rw [← hV2]; simp
            have EDA := hid eda
            have OL3 := hid (show OLn V2 Wt.heap.size (.slice xo xn xp) r.lines from (OL2.out.tbb hT2 (by omega)).own (fun kk hk => by rw [← hV2]; exact heap_setCell_other y3 ⟨wr.heap.size, 6, none⟩ kk _ (by show kk ≠ wr.heap.size; have := (World.ownsRow.lt OL2.out kk hk).1; omega)))
            clear eda hS2 hT2 HWi HSV1 RV1 Ry TV1 OL2 qa0 qf0 qa1 qf1 qa3 qf3 qa4 qf4 qa5 qf5
            have RS9 := hid (show V2.heap[w1.heap.size]? = some (.cells #[.int .i64 a0, .int .i64 a1, .int .i64 a2, .slice lo ln lp, .slice ko kn kp, .slice ho hn hp] 32 (0, 0)) from (TV2.out.block _ (by have := (Array.getElem?_eq_some_iff.1 HR.out).1; omega) n2 n2).trans HR.out)
            have HO9 := hid (HO.out.tbb TV2.out (by omega))
            obtain ⟨W6, hW6⟩ : ∃ W6, V2.alloc (.cells #[.string r.id, .int .i64 r.kind, .slice xo xn xp, .string r.hold, .int .i64 r.ttl, .int .i64 r.now, .int .i64 da] 81) = W6 := ⟨_, rfl⟩
            have R6 := hid (show W6.heap[y3.heap.size]? = some (.cells #[.string r.id, .int .i64 r.kind, .slice xo xn xp, .string r.hold, .int .i64 r.ttl, .int .i64 r.now, .int .i64 da] 81 (0, 0)) by rw [← hW6, ← zV2]; exact heap_alloc_new V2 _)
            have B6 := hid (show Below V2.heap.size V2 W6 by rw [← hW6]; exact (Below.refl _ _).alloc (Nat.le_refl _) _)
            have z6 : W6.heap.size = V2.heap.size + 1 := by rw [← hW6, World.size_alloc]
            have HO6 := hid (show ODn W6 w6.heap.size (.slice ho hn hp) H from HO9.out.tbb (Tb.of_below (rb := (w.heap.size + 1)) B6.out) (by omega))
            have OL6 := hid (show OLn W6 w6.heap.size (.slice xo xn xp) r.lines from (OL3.out.tbb (Tb.of_below (rb := (w.heap.size + 1)) B6.out) (by omega)).lower (by omega))
            have hnn : ∀ k, (Value.slice xo xn xp).ownBlock = some k → (Value.slice ho hn hp).ownBlock ≠ some k := fun k h1 h2 => by
              have a1 := (World.ownsRow.lt OL3.out k h1).1
              have a2 := (HO.out.block_ge k h2).2
              omega
            have qq0 : V2.cell? ⟨wr.heap.size, 0, none⟩ = some (.string r.id) := by rw [Lib.cell_of_heap RV2.out]; rfl
            have qq1 : V2.cell? ⟨wr.heap.size, 1, none⟩ = some (.int .i64 r.kind) := by rw [Lib.cell_of_heap RV2.out]; rfl
            have qq2 : V2.cell? ⟨wr.heap.size, 2, none⟩ = some (.slice xo xn xp) := by rw [Lib.cell_of_heap RV2.out]; rfl
            have qq3 : V2.cell? ⟨wr.heap.size, 3, none⟩ = some (.string r.hold) := by rw [Lib.cell_of_heap RV2.out]; rfl
            have qq4 : V2.cell? ⟨wr.heap.size, 4, none⟩ = some (.int .i64 r.ttl) := by rw [Lib.cell_of_heap RV2.out]; rfl
            have qq5 : V2.cell? ⟨wr.heap.size, 5, none⟩ = some (.int .i64 r.now) := by rw [Lib.cell_of_heap RV2.out]; rfl
            have qq6 : V2.cell? ⟨wr.heap.size, 6, none⟩ = some (.int .i64 da) := by rw [Lib.cell_of_heap RV2.out]; rfl
            have qs : V2.cell? ⟨w1.heap.size, 5, none⟩ = some (.slice ho hn hp) := by rw [Lib.cell_of_heap RS9.out]; rfl
            have hbz : w6.heap.size ≤ W6.heap.size := by omega
            have hJl : H.length ≤ 1000000000000 := by have := HJ.out; omega
            have hxl : w1.heap.size < w6.heap.size := by have := (Array.getElem?_eq_some_iff.1 R6.out).1; omega
            clear HO9 OL3 HP0
            go_wp2_with (at_builtin; go_loud (refine wpList_appDn rfl _ _ rfl w6.heap.size _ H rfl HO6.out y3.heap.size ⟨r, da⟩ (.slice xo xn xp) rfl R6.out OL6.out hnn hJl hbz ?hnext))
            case hnext =>
            intro v7 w7 ho7 hg7 _
            have T7 := hid (((HTb.out.over TV2.out).trans (Tb.of_below B6.out).wide).grow2 hg7 (fun k hk => (HO6.out.block_ge k hk).1))
            have R7 := hid (show w7.heap[w1.heap.size]? = some (.cells #[.int .i64 a0, .int .i64 a1, .int .i64 a2, .slice lo ln lp, .slice ko kn kp, .slice ho hn hp] 32 (0, 0)) from (hg7.block _ (by omega) (fun e => by have := (HO6.out.block_ge _ e.symm).1; omega)).trans ((B6.out.block _ (by omega)).trans RS9.out))
            have S7 := hid (show XS w7 (w.heap.size + 1) v l 131072 (sI l (sQ l 131072 (0, p))) from (HSV2.out.below B6.out).keep (fun k hk => hg7.block k (by omega) (fun e => by have := (HO6.out.block_ge _ e.symm).1; omega)))
            obtain ⟨vo, vn, vp, rfl⟩ := ho7.form
            obtain ⟨W8, hW8⟩ : ∃ W8, w7.setCell ⟨w1.heap.size, 5, none⟩ (.slice vo vn vp) = W8 := ⟨_, rfl⟩
            have R8 := hid (show W8.heap[w1.heap.size]? = some (.cells #[.int .i64 a0, .int .i64 a1, .int .i64 a2, .slice lo ln lp, .slice ko kn kp, .slice vo vn vp] 32 (0, 0)) by rw [← hW8]; exact heap_setCell_same w7 _ 5 _ _ _ R7.out)
            have T8 := hid (show Tb (w.heap.size + 1) w1.heap.size w6 W8 from T7.out.trans (by rw [← hW8]; exact Tb.set w7 ⟨w1.heap.size, 5, none⟩ _ (.inr rfl)))
            have O8 := hid (show ODn W8 w6.heap.size (.slice vo vn vp) (H ++ [⟨r, da⟩]) from ho7.old (fun k hk _ => by rw [← hW8]; exact heap_setCell_other w7 ⟨w1.heap.size, 5, none⟩ k _ (by show k ≠ w1.heap.size; omega)))
            have S8 := hid (show XS W8 (w.heap.size + 1) v l 131072 ((F (j + 1)).1, (F (j + 1)).2.1) by
              rw [G1.out, fDn_state l 131072 (0, p) rfl, ← hW8]
              exact S7.out.set (by omega))
            have HJ8 := hid (show (H ++ [(⟨r, da⟩ : Dn)]).length = j + 1 by rw [List.length_append, HJ.out]; rfl)
            have HE8 := hid (show (F (j + 1)).1 = 0 → H ++ [(⟨r, da⟩ : Dn)] = (F (j + 1)).2.2 from fun e => by
              have e9 : (sI l (sQ l 131072 (0, p))).1 = 0 := by
                have h1 := G1.out
                rw [fDn_state l 131072 (0, p) rfl] at h1
                rw [← h1]
                exact e
              rw [G2.out e, HJE.out]
              exact congrArg (fun z => (F j).2.2 ++ [z]) ((fDn_val l 131072 (0, p) e9).trans (by rw [EDA.out, HVl.out (sI_up e9)])).symm)
            have qt : w7.cell? ⟨w1.heap.size, 5, none⟩ = some (.slice ho hn hp) := by rw [Lib.cell_of_heap R7.out]; rfl
            have qtf : w7.frozen? ⟨w1.heap.size, 5, none⟩ = false := Lib.frozen_of_heap R7.out 5
            clear ho7 hg7 HO6 R6 B6 S7 T7 R7 RS9 OL6 hnn
            go_wp2_with fail
            try rw [hW8]
            go_roundw
            case rel => exact ⟨j + 1, _, _, _, _, by omega, by go_num, R8.out, O8.out, HJ8, T8.out, S8.out, HE8⟩
            case measure => simp [intOf]; omega
          · have SE := hid (show XS wr (w.heap.size + 1) v l 131072 s6 ∧ (s6.1 = 0 → H = (gL (fDn 131072) 131072 l s5.2).2.2) by
              by_cases hjn : j < n
              · have he : (F j).1 ≠ 0 := fun h => hgo ⟨hjn, h⟩
                have e2 := F5.out
                rw [F4.out j hj he] at e2
                rw [← e2]
                exact ⟨HX.out, fun e => (he e).elim⟩
              · obtain rfl : j = n := by omega
                refine ⟨by rw [← F5.out]; exact HX.out, fun e => ?_⟩
                rw [← F6.out e]
                exact HE.out (by have := F5.out; rw [← this] at e; exact e))
            go_upto_region 18 with fail
            go_cut [70] from 61 to 70 (fun v9 wx => v9 = .bool false ∧ wx = wr)
            case first =>
              by_cases hjn : j < n
              · have hI : (j : Int) < (n : Int) := by omega
                have hbf : (((F j).1 : Int) == 0) = false := by
                  rw [beq_eq_false_iff_ne]
                  intro h
                  exact hgo ⟨hjn, by omega⟩
                go_wp2_with fail
                go_meet
                exact ⟨rfl, rfl⟩
              · have hI : ¬ (j : Int) < (n : Int) := by omega
                go_wp2_with fail
                go_meet
                exact ⟨rfl, rfl⟩
            case rest =>
              obtain ⟨rfl, hwc⟩ := hcut
              have hwd := hwc.symm
              clear hwc
              subst hwd
              clear F1 F2 F3 F4 F5 F6 hgo HX HE ce HJ hj
              have HEn := hid (xend_any wr SE.out.1)
              go_wp2_with fail
              refine Calls.mono HEn.out ?_
              rintro e w7 ⟨rfl, hT7⟩
              have hx6 : w1.heap.size < w6.heap.size := (Array.getElem?_eq_some_iff.1 R6.out).1
              have A7 := hid ((hT7.block w.heap.size (by omega) n1 n1).trans ((HTb.out.block _ (by omega) n1 (by omega)).trans A6.out))
              have X7 := hid ((hT7.block w1.heap.size (by omega) n2 n2).trans HR.out)
              have B7 := hid ((B6'.out.trans (HTb.out.lower (B := w.heap.size) (by omega) (by omega) (by omega))).trans (hT7.lows (B := w.heap.size) (by omega) (by omega)))
              have O7 := hid ((O6.out.keep (fun k h1 h2 => HTb.out.block k h2 (by omega) (by omega))).tbb hT7 (by omega))
              have OH7 := hid ((OH6.out.old (fun k h1 h2 => HTb.out.block k h2 (by omega) (by omega))).tbb hT7 (by omega))
              have OD7 := hid (HO.out.tbb hT7 (by omega))
              have z7 := hT7.size
              have p0 : w7.cell? ⟨w1.heap.size, 0, none⟩ = some (.int .i64 a0) := by rw [Lib.cell_of_heap X7.out]; rfl
              have p1 : w7.cell? ⟨w1.heap.size, 1, none⟩ = some (.int .i64 a1) := by rw [Lib.cell_of_heap X7.out]; rfl
              have p2 : w7.cell? ⟨w1.heap.size, 2, none⟩ = some (.int .i64 a2) := by rw [Lib.cell_of_heap X7.out]; rfl
              have p3 : w7.cell? ⟨w1.heap.size, 3, none⟩ = some (.slice lo ln lp) := by rw [Lib.cell_of_heap X7.out]; rfl
              have p4 : w7.cell? ⟨w1.heap.size, 4, none⟩ = some (.slice ko kn kp) := by rw [Lib.cell_of_heap X7.out]; rfl
              have p5 : w7.cell? ⟨w1.heap.size, 5, none⟩ = some (.slice ho hn hp) := by rw [Lib.cell_of_heap X7.out]; rfl
              have r0 : w7.cell? ⟨w.heap.size, 0, none⟩ = some (.int .i64 0) := by rw [Lib.cell_of_heap A7.out]; rfl
              have g0 : w7.frozen? ⟨w.heap.size, 0, none⟩ = false := Lib.frozen_of_heap A7.out 0
              have r1 : w7.cell? ⟨w.heap.size, 1, none⟩ = some (.int .i64 0) := by rw [Lib.cell_of_heap A7.out]; rfl
              have g1 : w7.frozen? ⟨w.heap.size, 1, none⟩ = false := Lib.frozen_of_heap A7.out 1
              have r2 : w7.cell? ⟨w.heap.size, 2, none⟩ = some (.int .i64 0) := by rw [Lib.cell_of_heap A7.out]; rfl
              have g2 : w7.frozen? ⟨w.heap.size, 2, none⟩ = false := Lib.frozen_of_heap A7.out 2
              have r3 : w7.cell? ⟨w.heap.size, 3, none⟩ = some (.slice none 0 0) := by rw [Lib.cell_of_heap A7.out]; rfl
              have g3 : w7.frozen? ⟨w.heap.size, 3, none⟩ = false := Lib.frozen_of_heap A7.out 3
              have r4 : w7.cell? ⟨w.heap.size, 4, none⟩ = some (.slice none 0 0) := by rw [Lib.cell_of_heap A7.out]; rfl
              have g4 : w7.frozen? ⟨w.heap.size, 4, none⟩ = false := Lib.frozen_of_heap A7.out 4
              have r5 : w7.cell? ⟨w.heap.size, 5, none⟩ = some (.slice none 0 0) := by rw [Lib.cell_of_heap A7.out]; rfl
              have g5 : w7.frozen? ⟨w.heap.size, 5, none⟩ = false := Lib.frozen_of_heap A7.out 5
              have HYv := hid (fun (h : s6.1 = 0) => (HFv.out h).trans (show _ = (⟨a0, a1, a2, J, KH, H⟩ : Sx) by
                have h5 : s5.1 = 0 := SUs6.out h
                have h4 : s4.1 = 0 := SUs5.out h5
                rw [EA0.out, EA1.out, EA2.out, ← HV3.out h4, ← EH.out h5, ← SE.out.2 h]))
              clear hT7 HEn HFv EA0 EA1 EA2 HV3 A6 R6 O6 OH6 HTb HR
              generalize eE l s6 = er at *
              generalize eP l s6 = pl at *
              by_cases he : er = 0
              · obtain ⟨y1, y2, y3⟩ := M2.out he
                subst he
                subst y2
                have Y1 := hid (show rss l = (0, 0, ⟨a0, a1, a2, J, KH, H⟩) by rw [y1, HYv.out y3])
                clear y1 y3
                go_wp2_with fail
                obtain ⟨W8, hW8⟩ : ∃ W8, (World.setCell (World.setCell (World.setCell (World.setCell (World.setCell (World.setCell w7 ⟨w.heap.size, 0, none⟩ (.int .i64 a0)) ⟨w.heap.size, 1, none⟩ (.int .i64 a1)) ⟨w.heap.size, 2, none⟩ (.int .i64 a2)) ⟨w.heap.size, 3, none⟩ (.slice lo ln lp)) ⟨w.heap.size, 4, none⟩ (.slice ko kn kp)) ⟨w.heap.size, 5, none⟩ (.slice ho hn hp)) = W8 := ⟨_, rfl⟩
                have E8 : W8.heap[w.heap.size]? = some (.cells #[.int .i64 a0, .int .i64 a1, .int .i64 a2, .slice lo ln lp, .slice ko kn kp, .slice ho hn hp] 32 (0, 0)) := by rw [← hW8]; exact six_same (rest := []) A7.out _ _ _ _ _ _
                have K8 : Tb w.heap.size w.heap.size w7 W8 := by rw [← hW8]; exact Tb.six _ _ _ _ _ _ _ _
                have d0 : W8.cell? ⟨w.heap.size, 0, none⟩ = some (.int .i64 a0) := by rw [Lib.cell_of_heap E8]; rfl
                have d1 : W8.cell? ⟨w.heap.size, 1, none⟩ = some (.int .i64 a1) := by rw [Lib.cell_of_heap E8]; rfl
                have d2 : W8.cell? ⟨w.heap.size, 2, none⟩ = some (.int .i64 a2) := by rw [Lib.cell_of_heap E8]; rfl
                have d3 : W8.cell? ⟨w.heap.size, 3, none⟩ = some (.slice lo ln lp) := by rw [Lib.cell_of_heap E8]; rfl
                have d4 : W8.cell? ⟨w.heap.size, 4, none⟩ = some (.slice ko kn kp) := by rw [Lib.cell_of_heap E8]; rfl
                have d5 : W8.cell? ⟨w.heap.size, 5, none⟩ = some (.slice ho hn hp) := by rw [Lib.cell_of_heap E8]; rfl
                rw [hW8]
                refine bodyPost_ret (by simp [results, Try.results28, go_sem, d0, d1, d2, d3, d4, d5]; try rfl) rfl ?_
                have B8 := B7.out.trans (K8.lows (B := w.heap.size) (Nat.le_refl _) (by omega))
                exact HYes.out ⟨a0, a1, a2, J, KH, H⟩ (.slice lo ln lp) (.slice ko kn kp) (.slice ho hn hp) W8 Y1.out ⟨(O7.out.keep (fun k h1 h2 => K8.block k h2 (by omega) (by omega))).lower2 (by omega), (OH7.out.old (fun k h1 h2 => K8.block k h2 (by omega) (by omega))).lower (by omega), (OD7.out.old (fun k h1 h2 => K8.block k h2 (by omega) (by omega))).lower (by omega)⟩ B8
              · have Y1 := hid (M1.out he)
                have hb : ((er : Int) == 0) = false := by rw [beq_eq_false_iff_ne]; omega
                clear he
                go_wp2_with fail
                obtain ⟨W8, hW8⟩ : ∃ W8, (World.setCell (World.setCell (World.setCell (World.setCell (World.setCell (World.setCell w7 ⟨w.heap.size, 0, none⟩ (.int .i64 0)) ⟨w.heap.size, 1, none⟩ (.int .i64 0)) ⟨w.heap.size, 2, none⟩ (.int .i64 0)) ⟨w.heap.size, 3, none⟩ (.slice none 0 0)) ⟨w.heap.size, 4, none⟩ (.slice none 0 0)) ⟨w.heap.size, 5, none⟩ (.slice none 0 0)) = W8 := ⟨_, rfl⟩
                have E8 : W8.heap[w.heap.size]? = some (.cells #[.int .i64 0, .int .i64 0, .int .i64 0, .slice none 0 0, .slice none 0 0, .slice none 0 0] 32 (0, 0)) := by rw [← hW8]; exact six_same (rest := []) A7.out _ _ _ _ _ _
                have K8 : Tb w.heap.size w.heap.size w7 W8 := by rw [← hW8]; exact Tb.six _ _ _ _ _ _ _ _
                have d0 : W8.cell? ⟨w.heap.size, 0, none⟩ = some (.int .i64 0) := by rw [Lib.cell_of_heap E8]; rfl
                have d1 : W8.cell? ⟨w.heap.size, 1, none⟩ = some (.int .i64 0) := by rw [Lib.cell_of_heap E8]; rfl
                have d2 : W8.cell? ⟨w.heap.size, 2, none⟩ = some (.int .i64 0) := by rw [Lib.cell_of_heap E8]; rfl
                have d3 : W8.cell? ⟨w.heap.size, 3, none⟩ = some (.slice none 0 0) := by rw [Lib.cell_of_heap E8]; rfl
                have d4 : W8.cell? ⟨w.heap.size, 4, none⟩ = some (.slice none 0 0) := by rw [Lib.cell_of_heap E8]; rfl
                have d5 : W8.cell? ⟨w.heap.size, 5, none⟩ = some (.slice none 0 0) := by rw [Lib.cell_of_heap E8]; rfl
                rw [hW8]
                refine bodyPost_ret (by simp [results, Try.results28, go_sem, d0, d1, d2, d3, d4, d5]; try rfl) rfl ?_
                have B8 := B7.out.trans (K8.lows (B := w.heap.size) (Nat.le_refl _) (by omega))
                exact HNo.out er pl W8 Y1.out B8
end Go.Proofs.Ytfhicemfhkhjaab
