/-
  Dx5: codec, the document's reader: request. Laid by mkdx5.py.
  Dx6: codec, the document's reader: begin, end.
  Dx7: codec, the document's reader: begin.
  Dx8: codec, the document's Request. Laid by mkdx8.py.
-/
import Derived.Test.YtfhicemfhkhjaabDx4
namespace Go.Proofs.Ytfhicemfhkhjaab
open Go.RowKit
set_option maxRecDepth 100000

/-- the state behind a request -/
def sQ (l : List UInt8) (most : Nat) (s : Nat × Nat) : Nat × Nat := sI l (sI l (sT l most (sL l most (sI l (sT l most s)))))
theorem sI_up {l : List UInt8} {s : Nat × Nat} (h : (sI l s).1 = 0) : s.1 = 0 := by
  by_cases e : s.1 = 0
  · exact e
  · rw [sI_no e] at h; exact (e h).elim
theorem sT_up {l : List UInt8} {most : Nat} {s : Nat × Nat} (h : (sT l most s).1 = 0) : s.1 = 0 := by
  by_cases e : s.1 = 0
  · exact e
  · rw [sT_no e] at h; exact (e h).elim
theorem sL_up {l : List UInt8} {most : Nat} {s : Nat × Nat} (h : (sL l most s).1 = 0) : s.1 = 0 := by
  by_cases e : s.1 = 0
  · exact e
  · rw [sL_no e] at h; exact (e h).elim
theorem sI_val {l : List UInt8} {s : Nat × Nat} (h : (sI l s).1 = 0) : (fIn l s.2).1 = 0 ∧ (sI l s).2 = (fIn l s.2).2.1 ∧ vI l s = (fIn l s.2).2.2 := by
  have h0 := sI_up h
  rw [sI_ok h0] at h
  exact ⟨h, by rw [sI_ok h0], (vI_ok h0).trans (if_pos h)⟩
theorem sT_val {l : List UInt8} {most : Nat} {s : Nat × Nat} (h : (sT l most s).1 = 0) : (fTx l most s.2).1 = 0 ∧ (sT l most s).2 = (fTx l most s.2).2.1 ∧ vT l most s = (fTx l most s.2).2.2 := by
  have h0 := sT_up h
  rw [sT_ok h0] at h
  exact ⟨h, by rw [sT_ok h0], (vT_ok h0).trans (if_pos h)⟩
theorem sL_val {l : List UInt8} {most : Nat} {s : Nat × Nat} (h : (sL l most s).1 = 0) : (fLi l most s.2).1 = 0 ∧ (sL l most s).2 = (fLi l most s.2).2.1 := by
  have h0 := sL_up h
  rw [sL_ok h0] at h
  exact ⟨h, by rw [sL_ok h0]⟩
/-- the request's model: its error and place -/
theorem fRq_state (l : List UInt8) (most : Nat) (s : Nat × Nat) (h0 : s.1 = 0) : ((fRq l most s.2).1, (fRq l most s.2).2.1) = sQ l most s := by
  unfold sQ
  rw [fRq_eq]
  by_cases e1 : (fTx l most s.2).1 = 0
  case neg => rw [andR_no e1, sT_ok h0, sI_no (s := (_, _)) e1, sL_no (s := (_, _)) e1, sT_no (s := (_, _)) e1, sI_no (s := (_, _)) e1, sI_no (s := (_, _)) e1]
  rw [andR_ok e1, sT_ok h0]
  generalize (fTx l most s.2).2.1 = i1
  generalize (fTx l most s.2).2.2 = a1
  by_cases e2 : (fIn l i1).1 = 0
  case neg => rw [andR_no e2, sI_ok (s := (_, _)) e1, sL_no (s := (_, _)) e2, sT_no (s := (_, _)) e2, sI_no (s := (_, _)) e2, sI_no (s := (_, _)) e2]
  rw [andR_ok e2, sI_ok (s := (_, _)) e1]
  show _ = sI l (sI l (sT l most (sL l most ((fIn l i1).1, (fIn l i1).2.1))))
  generalize (fIn l i1).2.1 = i2
  generalize (fIn l i1).2.2 = a2
  by_cases e3 : (fLi l most i2).1 = 0
  case neg => rw [andR_no e3, sL_ok (s := (_, _)) e2, sT_no (s := (_, _)) e3, sI_no (s := (_, _)) e3, sI_no (s := (_, _)) e3]
  rw [andR_ok e3, sL_ok (s := (_, _)) e2]
  show _ = sI l (sI l (sT l most ((fLi l most i2).1, (fLi l most i2).2.1)))
  generalize (fLi l most i2).2.1 = i3
  generalize (fLi l most i2).2.2 = a3
  by_cases e4 : (fTx l most i3).1 = 0
  case neg => rw [andR_no e4, sT_ok (s := (_, _)) e3, sI_no (s := (_, _)) e4, sI_no (s := (_, _)) e4]
  rw [andR_ok e4, sT_ok (s := (_, _)) e3]
  show _ = sI l (sI l ((fTx l most i3).1, (fTx l most i3).2.1))
  generalize (fTx l most i3).2.1 = i4
  generalize (fTx l most i3).2.2 = a4
  by_cases e5 : (fIn l i4).1 = 0
  case neg => rw [andR_no e5, sI_ok (s := (_, _)) e4, sI_no (s := (_, _)) e5]
  rw [andR_ok e5, sI_ok (s := (_, _)) e4]
  show _ = sI l ((fIn l i4).1, (fIn l i4).2.1)
  generalize (fIn l i4).2.1 = i5
  generalize (fIn l i4).2.2 = a5
  by_cases e6 : (fIn l i5).1 = 0
  case neg => rw [andR_no e6, sI_ok (s := (_, _)) e5]
  rw [andR_ok e6, sI_ok (s := (_, _)) e5]
  exact Prod.ext e6.symm rfl
/-- and what it is, where it is whole -/
theorem fRq_val (l : List UInt8) (most : Nat) (s : Nat × Nat) (h : (sQ l most s).1 = 0) :
    (fRq l most s.2).2.2 = ⟨vT l most s, vI l (sT l most s), (fLi l most (sI l (sT l most s)).2).2.2, vT l most (sL l most (sI l (sT l most s))), vI l (sT l most (sL l most (sI l (sT l most s)))), vI l (sI l (sT l most (sL l most (sI l (sT l most s)))))⟩ := by
  unfold sQ at h
  obtain ⟨e6, p6, v6⟩ := sI_val h
  have h5 := sI_up h
  obtain ⟨e5, p5, v5⟩ := sI_val h5
  have h4 := sI_up h5
  obtain ⟨e4, p4, v4⟩ := sT_val h4
  have h3 := sT_up h4
  obtain ⟨e3, p3⟩ := sL_val h3
  have h2 := sL_up h3
  obtain ⟨e2, p2, v2⟩ := sI_val h2
  have h1 := sI_up h2
  obtain ⟨e1, p1, v1⟩ := sT_val h1
  rw [v1, v2, v4, v5, v6]
  rw [p5] at e6 ⊢
  rw [p4] at e5 e6 ⊢
  rw [p3] at e4 e5 e6 ⊢
  rw [p2] at e3 e4 e5 e6 ⊢
  rw [p1] at e2 e3 e4 e5 e6 ⊢
  rw [fRq_eq, andR_ok e1, andR_ok e2, andR_ok e3, andR_ok e4, andR_ok e5, andR_ok e6]
/-- behind a request -/
def Xq (rb : Nat) (v : Value) (l : List UInt8) (most : Nat) (s : Nat × Nat) (w : World) (e : Ending) (w' : World) : Prop :=
  ∃ v' r, e = .returned (.agg (rqC r v')) ∧ OLn w' w.heap.size v' r.lines ∧ XS w' rb v l most (sQ l most s) ∧ Tb rb rb w w' ∧ ((sQ l most s).1 = 0 → r = (fRq l most s.2).2.2)
theorem OLn.old {w w' : World} {base : Nat} {v : Value} {L : List Ln} (h : OLn w base v L) (hk : ∀ k, base ≤ k → k < w.heap.size → w'.heap[k]? = w.heap[k]?) : OLn w' base v L := by
  refine ⟨h.1, ?_⟩
  rcases h.2 with g | ⟨x, y, z, g1, g2, g3, g4⟩
  · exact .inl g
  · exact .inr ⟨x, y, z, g1, g2, (hk x g2 (Array.getElem?_eq_some_iff.1 g3).1).trans g3, g4⟩
set_option maxHeartbeats 4000000 in
theorem xrequest_any (w : World) {rb most : Nat} {v : Value} {l : List UInt8} {s : Nat × Nat} (h : XS w rb v l most s) (hm : most ≤ 1000000000) :
    Calls Try.prog 70 #[.pointer (some ⟨rb, 0, none⟩)] w fun e w' => Xq rb v l most s w e w' := by
  have hlt := h.lt
  have HXT := hid (fun (wx : World) (sx : Nat × Nat) (hx : XS wx rb v l most sx) => xtext_any wx hx hm)
  have HXW := hid (fun (wx : World) (sx : Nat × Nat) (hx : XS wx rb v l most sx) => xwhole_any wx hx)
  have HXL := hid (fun (wx : World) (sx : Nat × Nat) (hx : XS wx rb v l most sx) => xlines_any wx hx hm)
  have HXq := hid (fun (w' : World) (v' : Value) (r : Rq) (h1 : OLn w' w.heap.size v' r.lines) (h2 : XS w' rb v l most (sQ l most s)) (h3 : Tb rb rb w w') (h4 : (sQ l most s).1 = 0 → r = (fRq l most s.2).2.2) => (show Xq rb v l most s w (.returned (.agg (rqC r v'))) w' from ⟨v', r, rfl, h1, h2, h3, h4⟩))
  have HFv := hid (fRq_val l most s)
  unfold sQ at HXq HFv
  obtain ⟨W, hW⟩ : ∃ W, (w.alloc (.cells #[.string ⟨#[]⟩, .int .i64 0, .slice none 0 0, .string ⟨#[]⟩, .int .i64 0, .int .i64 0] 24)).alloc (.cells #[.string ⟨#[]⟩, .int .i64 0, .slice none 0 0, .string ⟨#[]⟩, .int .i64 0, .int .i64 0] 24) = W := ⟨_, rfl⟩
  have zW : W.heap.size = w.heap.size + 2 := by rw [← hW]; simp
  have bW : Below w.heap.size w W := by rw [← hW]; exact ((Below.refl _ _).alloc (Nat.le_refl _) _).alloc (by simp) _
  have A0 := hid (show W.heap[w.heap.size]? = some (.cells #[.string ⟨#[]⟩, .int .i64 0, .slice none 0 0, .string ⟨#[]⟩, .int .i64 0, .int .i64 0] 24 (0, 0)) by
    rw [← hW]
    exact (((Below.refl (w.alloc (.cells #[.string ⟨#[]⟩, .int .i64 0, .slice none 0 0, .string ⟨#[]⟩, .int .i64 0, .int .i64 0] 24)).heap.size _).alloc (Nat.le_refl _) _).block w.heap.size (by simp)).trans (heap_alloc_new w _))
  have R0 := hid (show W.heap[w.heap.size + 1]? = some (.cells #[.string ⟨#[]⟩, .int .i64 0, .slice none 0 0, .string ⟨#[]⟩, .int .i64 0, .int .i64 0] 24 (0, 0)) by
    rw [← hW]
    have := heap_alloc_new (w.alloc (.cells #[.string ⟨#[]⟩, .int .i64 0, .slice none 0 0, .string ⟨#[]⟩, .int .i64 0, .int .i64 0] 24)) (.cells #[.string ⟨#[]⟩, .int .i64 0, .slice none 0 0, .string ⟨#[]⟩, .int .i64 0, .int .i64 0] 24)
    rw [World.size_alloc] at this
    exact this)
  have S0 := hid (h.below bW)
  have T0 := hid (Tb.of_below (rb := rb) bW)
  have HW := hid hW
  have n1 : w.heap.size ≠ rb := by omega
  have n2 : w.heap.size + 1 ≠ rb := by omega
  clear h bW hW
  go_enter Try.func70, Try.ntmps70
  have HC0 := hid (HXT.out W _ S0.out)
  go_wp2_with fail
  rw [HW.out]
  refine Calls.mono HC0.out ?_
  rintro e w0a ⟨rfl, hS, hT⟩
  have Ra0 := hid (show w0a.heap[w.heap.size + 1]? = some (.cells #[.string ⟨#[]⟩, .int .i64 0, .slice none 0 0, .string ⟨#[]⟩, .int .i64 0, .int .i64 0] 24 (0, 0)) from (hT.block _ (by omega) n2 n2).trans R0.out)
  have Aa0 := hid (show w0a.heap[w.heap.size]? = some (.cells #[.string ⟨#[]⟩, .int .i64 0, .slice none 0 0, .string ⟨#[]⟩, .int .i64 0, .int .i64 0] 24 (0, 0)) from (hT.block _ (by omega) n1 n1).trans A0.out)
  have z0a := hT.size
  have q0 : w0a.cell? ⟨w.heap.size + 1, 0, none⟩ = some (.string ⟨#[]⟩) := by rw [Lib.cell_of_heap Ra0.out]; rfl
  have f0 : w0a.frozen? ⟨w.heap.size + 1, 0, none⟩ = false := Lib.frozen_of_heap Ra0.out 0
  obtain ⟨a0, ea0⟩ : ∃ a0, vT l most (s) = a0 := ⟨_, rfl⟩
  rw [ea0]
  have EA0 := hid ea0
  clear ea0
  obtain ⟨W1, hW1⟩ : ∃ W1, w0a.setCell ⟨w.heap.size + 1, 0, none⟩ (.string a0) = W1 := ⟨_, rfl⟩
  have R1 := hid (show W1.heap[w.heap.size + 1]? = some (.cells #[.string a0, .int .i64 0, .slice none 0 0, .string ⟨#[]⟩, .int .i64 0, .int .i64 0] 24 (0, 0)) by rw [← hW1]; exact heap_setCell_same w0a _ 0 _ _ _ Ra0.out)
  have A1 := hid (show W1.heap[w.heap.size]? = some (.cells #[.string ⟨#[]⟩, .int .i64 0, .slice none 0 0, .string ⟨#[]⟩, .int .i64 0, .int .i64 0] 24 (0, 0)) by rw [← hW1]; exact (heap_setCell_other w0a ⟨w.heap.size + 1, 0, none⟩ _ _ (by show w.heap.size ≠ w.heap.size + 1; omega)).trans Aa0.out)
  have z1w : W1.heap.size = w0a.heap.size := by rw [← hW1]; simp
  have S1 := hid (show XS W1 rb v l most (sT l most (s)) by rw [← hW1]; exact hS.set (by omega))
  have T1 := hid (show Tb rb rb w W1 from (T0.out.trans hT).own (g := w.heap.size + 1) (by rw [← hW1]; exact Tb.set w0a ⟨w.heap.size + 1, 0, none⟩ _ (.inl rfl)) (by omega))
  clear hS hT HC0 S0 T0 R0 A0 Ra0 Aa0
  have HC1 := hid (HXW.out W1 _ S1.out)
  go_wp2_with fail
  refine Calls.mono HC1.out ?_
  rintro e w1a ⟨rfl, hS, hT⟩
  have Ra1 := hid (show w1a.heap[w.heap.size + 1]? = some (.cells #[.string a0, .int .i64 0, .slice none 0 0, .string ⟨#[]⟩, .int .i64 0, .int .i64 0] 24 (0, 0)) from (hT.block _ (by omega) n2 n2).trans R1.out)
  have Aa1 := hid (show w1a.heap[w.heap.size]? = some (.cells #[.string ⟨#[]⟩, .int .i64 0, .slice none 0 0, .string ⟨#[]⟩, .int .i64 0, .int .i64 0] 24 (0, 0)) from (hT.block _ (by omega) n1 n1).trans A1.out)
  have z1a := hT.size
  have q1 : w1a.cell? ⟨w.heap.size + 1, 1, none⟩ = some (.int .i64 0) := by rw [Lib.cell_of_heap Ra1.out]; rfl
  have f1 : w1a.frozen? ⟨w.heap.size + 1, 1, none⟩ = false := Lib.frozen_of_heap Ra1.out 1
  obtain ⟨a1, ea1⟩ : ∃ a1, vI l (sT l most (s)) = a1 := ⟨_, rfl⟩
  rw [ea1]
  have EA1 := hid ea1
  clear ea1
  obtain ⟨W2, hW2⟩ : ∃ W2, w1a.setCell ⟨w.heap.size + 1, 1, none⟩ (.int .i64 a1) = W2 := ⟨_, rfl⟩
  have R2 := hid (show W2.heap[w.heap.size + 1]? = some (.cells #[.string a0, .int .i64 a1, .slice none 0 0, .string ⟨#[]⟩, .int .i64 0, .int .i64 0] 24 (0, 0)) by rw [← hW2]; exact heap_setCell_same w1a _ 1 _ _ _ Ra1.out)
  have A2 := hid (show W2.heap[w.heap.size]? = some (.cells #[.string ⟨#[]⟩, .int .i64 0, .slice none 0 0, .string ⟨#[]⟩, .int .i64 0, .int .i64 0] 24 (0, 0)) by rw [← hW2]; exact (heap_setCell_other w1a ⟨w.heap.size + 1, 1, none⟩ _ _ (by show w.heap.size ≠ w.heap.size + 1; omega)).trans Aa1.out)
  have z2w : W2.heap.size = w1a.heap.size := by rw [← hW2]; simp
  have S2 := hid (show XS W2 rb v l most (sI l (sT l most (s))) by rw [← hW2]; exact hS.set (by omega))
  have T2 := hid (show Tb rb rb w W2 from (T1.out.trans hT).own (g := w.heap.size + 1) (by rw [← hW2]; exact Tb.set w1a ⟨w.heap.size + 1, 1, none⟩ _ (.inl rfl)) (by omega))
  clear hS hT HC1 S1 T1 R1 A1 Ra1 Aa1
  have HC2 := hid (HXL.out W2 _ S2.out)
  go_wp2_with fail
  refine Calls.mono HC2.out ?_
  intro e w2a hq
  obtain ⟨a2, J, rfl, hO, hS, hT, hV⟩ := hq
  have HV2 := hid hV
  have HO2 := hid (hO.lower (show w.heap.size + 2 ≤ W2.heap.size by omega))
  clear hV hO
  have Ra2 := hid (show w2a.heap[w.heap.size + 1]? = some (.cells #[.string a0, .int .i64 a1, .slice none 0 0, .string ⟨#[]⟩, .int .i64 0, .int .i64 0] 24 (0, 0)) from (hT.block _ (by omega) n2 n2).trans R2.out)
  have Aa2 := hid (show w2a.heap[w.heap.size]? = some (.cells #[.string ⟨#[]⟩, .int .i64 0, .slice none 0 0, .string ⟨#[]⟩, .int .i64 0, .int .i64 0] 24 (0, 0)) from (hT.block _ (by omega) n1 n1).trans A2.out)
  have z2a := hT.size
  have q2 : w2a.cell? ⟨w.heap.size + 1, 2, none⟩ = some (.slice none 0 0) := by rw [Lib.cell_of_heap Ra2.out]; rfl
  have f2 : w2a.frozen? ⟨w.heap.size + 1, 2, none⟩ = false := Lib.frozen_of_heap Ra2.out 2
  obtain ⟨W3, hW3⟩ : ∃ W3, w2a.setCell ⟨w.heap.size + 1, 2, none⟩ (a2) = W3 := ⟨_, rfl⟩
  have R3 := hid (show W3.heap[w.heap.size + 1]? = some (.cells #[.string a0, .int .i64 a1, a2, .string ⟨#[]⟩, .int .i64 0, .int .i64 0] 24 (0, 0)) by rw [← hW3]; exact heap_setCell_same w2a _ 2 _ _ _ Ra2.out)
  have A3 := hid (show W3.heap[w.heap.size]? = some (.cells #[.string ⟨#[]⟩, .int .i64 0, .slice none 0 0, .string ⟨#[]⟩, .int .i64 0, .int .i64 0] 24 (0, 0)) by rw [← hW3]; exact (heap_setCell_other w2a ⟨w.heap.size + 1, 2, none⟩ _ _ (by show w.heap.size ≠ w.heap.size + 1; omega)).trans Aa2.out)
  have z3w : W3.heap.size = w2a.heap.size := by rw [← hW3]; simp
  have S3 := hid (show XS W3 rb v l most (sL l most (sI l (sT l most (s)))) by rw [← hW3]; exact hS.set (by omega))
  have T3 := hid (show Tb rb rb w W3 from (T2.out.trans hT).own (g := w.heap.size + 1) (by rw [← hW3]; exact Tb.set w2a ⟨w.heap.size + 1, 2, none⟩ _ (.inl rfl)) (by omega))
  have O3 := hid (show OLn W3 (w.heap.size + 2) a2 J from HO2.out.old (fun k hk _ => by rw [← hW3]; exact heap_setCell_other w2a ⟨w.heap.size + 1, 2, none⟩ k _ (by show k ≠ w.heap.size + 1; omega)))
  obtain ⟨lo, ln, lp, rfl⟩ := O3.out.form
  clear hS hT HC2 S2 T2 R2 A2 Ra2 Aa2 HO2
  have HC3 := hid (HXT.out W3 _ S3.out)
  go_wp2_with fail
  refine Calls.mono HC3.out ?_
  rintro e w3a ⟨rfl, hS, hT⟩
  have Ra3 := hid (show w3a.heap[w.heap.size + 1]? = some (.cells #[.string a0, .int .i64 a1, .slice lo ln lp, .string ⟨#[]⟩, .int .i64 0, .int .i64 0] 24 (0, 0)) from (hT.block _ (by omega) n2 n2).trans R3.out)
  have Aa3 := hid (show w3a.heap[w.heap.size]? = some (.cells #[.string ⟨#[]⟩, .int .i64 0, .slice none 0 0, .string ⟨#[]⟩, .int .i64 0, .int .i64 0] 24 (0, 0)) from (hT.block _ (by omega) n1 n1).trans A3.out)
  have z3a := hT.size
  have q3 : w3a.cell? ⟨w.heap.size + 1, 3, none⟩ = some (.string ⟨#[]⟩) := by rw [Lib.cell_of_heap Ra3.out]; rfl
  have f3 : w3a.frozen? ⟨w.heap.size + 1, 3, none⟩ = false := Lib.frozen_of_heap Ra3.out 3
  obtain ⟨a3, ea3⟩ : ∃ a3, vT l most (sL l most (sI l (sT l most (s)))) = a3 := ⟨_, rfl⟩
  rw [ea3]
  have EA3 := hid ea3
  clear ea3
  obtain ⟨W4, hW4⟩ : ∃ W4, w3a.setCell ⟨w.heap.size + 1, 3, none⟩ (.string a3) = W4 := ⟨_, rfl⟩
  have R4 := hid (show W4.heap[w.heap.size + 1]? = some (.cells #[.string a0, .int .i64 a1, .slice lo ln lp, .string a3, .int .i64 0, .int .i64 0] 24 (0, 0)) by rw [← hW4]; exact heap_setCell_same w3a _ 3 _ _ _ Ra3.out)
  have A4 := hid (show W4.heap[w.heap.size]? = some (.cells #[.string ⟨#[]⟩, .int .i64 0, .slice none 0 0, .string ⟨#[]⟩, .int .i64 0, .int .i64 0] 24 (0, 0)) by rw [← hW4]; exact (heap_setCell_other w3a ⟨w.heap.size + 1, 3, none⟩ _ _ (by show w.heap.size ≠ w.heap.size + 1; omega)).trans Aa3.out)
  have z4w : W4.heap.size = w3a.heap.size := by rw [← hW4]; simp
  have S4 := hid (show XS W4 rb v l most (sT l most (sL l most (sI l (sT l most (s))))) by rw [← hW4]; exact hS.set (by omega))
  have T4 := hid (show Tb rb rb w W4 from (T3.out.trans hT).own (g := w.heap.size + 1) (by rw [← hW4]; exact Tb.set w3a ⟨w.heap.size + 1, 3, none⟩ _ (.inl rfl)) (by omega))
  have O4 := hid (show OLn W4 (w.heap.size + 2) (.slice lo ln lp) J from (O3.out.tbb hT (by omega)).old (fun k hk _ => by rw [← hW4]; exact heap_setCell_other w3a ⟨w.heap.size + 1, 3, none⟩ k _ (by show k ≠ w.heap.size + 1; omega)))
  clear hS hT HC3 S3 T3 R3 A3 Ra3 Aa3 O3
  have HC4 := hid (HXW.out W4 _ S4.out)
  go_wp2_with fail
  refine Calls.mono HC4.out ?_
  rintro e w4a ⟨rfl, hS, hT⟩
  have Ra4 := hid (show w4a.heap[w.heap.size + 1]? = some (.cells #[.string a0, .int .i64 a1, .slice lo ln lp, .string a3, .int .i64 0, .int .i64 0] 24 (0, 0)) from (hT.block _ (by omega) n2 n2).trans R4.out)
  have Aa4 := hid (show w4a.heap[w.heap.size]? = some (.cells #[.string ⟨#[]⟩, .int .i64 0, .slice none 0 0, .string ⟨#[]⟩, .int .i64 0, .int .i64 0] 24 (0, 0)) from (hT.block _ (by omega) n1 n1).trans A4.out)
  have z4a := hT.size
  have q4 : w4a.cell? ⟨w.heap.size + 1, 4, none⟩ = some (.int .i64 0) := by rw [Lib.cell_of_heap Ra4.out]; rfl
  have f4 : w4a.frozen? ⟨w.heap.size + 1, 4, none⟩ = false := Lib.frozen_of_heap Ra4.out 4
  obtain ⟨a4, ea4⟩ : ∃ a4, vI l (sT l most (sL l most (sI l (sT l most (s))))) = a4 := ⟨_, rfl⟩
  rw [ea4]
  have EA4 := hid ea4
  clear ea4
  obtain ⟨W5, hW5⟩ : ∃ W5, w4a.setCell ⟨w.heap.size + 1, 4, none⟩ (.int .i64 a4) = W5 := ⟨_, rfl⟩
  have R5 := hid (show W5.heap[w.heap.size + 1]? = some (.cells #[.string a0, .int .i64 a1, .slice lo ln lp, .string a3, .int .i64 a4, .int .i64 0] 24 (0, 0)) by rw [← hW5]; exact heap_setCell_same w4a _ 4 _ _ _ Ra4.out)
  have A5 := hid (show W5.heap[w.heap.size]? = some (.cells #[.string ⟨#[]⟩, .int .i64 0, .slice none 0 0, .string ⟨#[]⟩, .int .i64 0, .int .i64 0] 24 (0, 0)) by rw [← hW5]; exact (heap_setCell_other w4a ⟨w.heap.size + 1, 4, none⟩ _ _ (by show w.heap.size ≠ w.heap.size + 1; omega)).trans Aa4.out)
  have z5w : W5.heap.size = w4a.heap.size := by rw [← hW5]; simp
  have S5 := hid (show XS W5 rb v l most (sI l (sT l most (sL l most (sI l (sT l most (s)))))) by rw [← hW5]; exact hS.set (by omega))
  have T5 := hid (show Tb rb rb w W5 from (T4.out.trans hT).own (g := w.heap.size + 1) (by rw [← hW5]; exact Tb.set w4a ⟨w.heap.size + 1, 4, none⟩ _ (.inl rfl)) (by omega))
  have O5 := hid (show OLn W5 (w.heap.size + 2) (.slice lo ln lp) J from (O4.out.tbb hT (by omega)).old (fun k hk _ => by rw [← hW5]; exact heap_setCell_other w4a ⟨w.heap.size + 1, 4, none⟩ k _ (by show k ≠ w.heap.size + 1; omega)))
  clear hS hT HC4 S4 T4 R4 A4 Ra4 Aa4 O4
  have HC5 := hid (HXW.out W5 _ S5.out)
  go_wp2_with fail
  refine Calls.mono HC5.out ?_
  rintro e w5a ⟨rfl, hS, hT⟩
  have Ra5 := hid (show w5a.heap[w.heap.size + 1]? = some (.cells #[.string a0, .int .i64 a1, .slice lo ln lp, .string a3, .int .i64 a4, .int .i64 0] 24 (0, 0)) from (hT.block _ (by omega) n2 n2).trans R5.out)
  have Aa5 := hid (show w5a.heap[w.heap.size]? = some (.cells #[.string ⟨#[]⟩, .int .i64 0, .slice none 0 0, .string ⟨#[]⟩, .int .i64 0, .int .i64 0] 24 (0, 0)) from (hT.block _ (by omega) n1 n1).trans A5.out)
  have z5a := hT.size
  have q5 : w5a.cell? ⟨w.heap.size + 1, 5, none⟩ = some (.int .i64 0) := by rw [Lib.cell_of_heap Ra5.out]; rfl
  have f5 : w5a.frozen? ⟨w.heap.size + 1, 5, none⟩ = false := Lib.frozen_of_heap Ra5.out 5
  obtain ⟨a5, ea5⟩ : ∃ a5, vI l (sI l (sT l most (sL l most (sI l (sT l most (s)))))) = a5 := ⟨_, rfl⟩
  rw [ea5]
  have EA5 := hid ea5
  clear ea5
  obtain ⟨W6, hW6⟩ : ∃ W6, w5a.setCell ⟨w.heap.size + 1, 5, none⟩ (.int .i64 a5) = W6 := ⟨_, rfl⟩
  have R6 := hid (show W6.heap[w.heap.size + 1]? = some (.cells #[.string a0, .int .i64 a1, .slice lo ln lp, .string a3, .int .i64 a4, .int .i64 a5] 24 (0, 0)) by rw [← hW6]; exact heap_setCell_same w5a _ 5 _ _ _ Ra5.out)
  have A6 := hid (show W6.heap[w.heap.size]? = some (.cells #[.string ⟨#[]⟩, .int .i64 0, .slice none 0 0, .string ⟨#[]⟩, .int .i64 0, .int .i64 0] 24 (0, 0)) by rw [← hW6]; exact (heap_setCell_other w5a ⟨w.heap.size + 1, 5, none⟩ _ _ (by show w.heap.size ≠ w.heap.size + 1; omega)).trans Aa5.out)
  have z6w : W6.heap.size = w5a.heap.size := by rw [← hW6]; simp
  have S6 := hid (show XS W6 rb v l most (sI l (sI l (sT l most (sL l most (sI l (sT l most (s))))))) by rw [← hW6]; exact hS.set (by omega))
  have T6 := hid (show Tb rb rb w W6 from (T5.out.trans hT).own (g := w.heap.size + 1) (by rw [← hW6]; exact Tb.set w5a ⟨w.heap.size + 1, 5, none⟩ _ (.inl rfl)) (by omega))
  have O6 := hid (show OLn W6 (w.heap.size + 2) (.slice lo ln lp) J from (O5.out.tbb hT (by omega)).old (fun k hk _ => by rw [← hW6]; exact heap_setCell_other w5a ⟨w.heap.size + 1, 5, none⟩ k _ (by show k ≠ w.heap.size + 1; omega)))
  clear hS hT HC5 S5 T5 R5 A5 Ra5 Aa5 O5
  have p0 : W6.cell? ⟨w.heap.size + 1, 0, none⟩ = some (.string a0) := by rw [Lib.cell_of_heap R6.out]; rfl
  have p1 : W6.cell? ⟨w.heap.size + 1, 1, none⟩ = some (.int .i64 a1) := by rw [Lib.cell_of_heap R6.out]; rfl
  have p2 : W6.cell? ⟨w.heap.size + 1, 2, none⟩ = some (.slice lo ln lp) := by rw [Lib.cell_of_heap R6.out]; rfl
  have p3 : W6.cell? ⟨w.heap.size + 1, 3, none⟩ = some (.string a3) := by rw [Lib.cell_of_heap R6.out]; rfl
  have p4 : W6.cell? ⟨w.heap.size + 1, 4, none⟩ = some (.int .i64 a4) := by rw [Lib.cell_of_heap R6.out]; rfl
  have p5 : W6.cell? ⟨w.heap.size + 1, 5, none⟩ = some (.int .i64 a5) := by rw [Lib.cell_of_heap R6.out]; rfl
  have r0 : W6.cell? ⟨w.heap.size, 0, none⟩ = some (.string ⟨#[]⟩) := by rw [Lib.cell_of_heap A6.out]; rfl
  have g0 : W6.frozen? ⟨w.heap.size, 0, none⟩ = false := Lib.frozen_of_heap A6.out 0
  have r1 : W6.cell? ⟨w.heap.size, 1, none⟩ = some (.int .i64 0) := by rw [Lib.cell_of_heap A6.out]; rfl
  have g1 : W6.frozen? ⟨w.heap.size, 1, none⟩ = false := Lib.frozen_of_heap A6.out 1
  have r2 : W6.cell? ⟨w.heap.size, 2, none⟩ = some (.slice none 0 0) := by rw [Lib.cell_of_heap A6.out]; rfl
  have g2 : W6.frozen? ⟨w.heap.size, 2, none⟩ = false := Lib.frozen_of_heap A6.out 2
  have r3 : W6.cell? ⟨w.heap.size, 3, none⟩ = some (.string ⟨#[]⟩) := by rw [Lib.cell_of_heap A6.out]; rfl
  have g3 : W6.frozen? ⟨w.heap.size, 3, none⟩ = false := Lib.frozen_of_heap A6.out 3
  have r4 : W6.cell? ⟨w.heap.size, 4, none⟩ = some (.int .i64 0) := by rw [Lib.cell_of_heap A6.out]; rfl
  have g4 : W6.frozen? ⟨w.heap.size, 4, none⟩ = false := Lib.frozen_of_heap A6.out 4
  have r5 : W6.cell? ⟨w.heap.size, 5, none⟩ = some (.int .i64 0) := by rw [Lib.cell_of_heap A6.out]; rfl
  have g5 : W6.frozen? ⟨w.heap.size, 5, none⟩ = false := Lib.frozen_of_heap A6.out 5
  clear q0 f0 q1 f1 q2 f2 q3 f3 q4 f4 hW1 hW2 hW3 hW4 hW5
  go_wp2_with fail
  obtain ⟨W7, hW7⟩ : ∃ W7, ((((((W6.setCell ⟨w.heap.size, 0, none⟩ (.string a0)).setCell ⟨w.heap.size, 1, none⟩ (.int .i64 a1)).setCell ⟨w.heap.size, 2, none⟩ (.slice lo ln lp)).setCell ⟨w.heap.size, 3, none⟩ (.string a3)).setCell ⟨w.heap.size, 4, none⟩ (.int .i64 a4)).setCell ⟨w.heap.size, 5, none⟩ (.int .i64 a5)) = W7 := ⟨_, rfl⟩
  have E7 : W7.heap[w.heap.size]? = some (.cells #[.string a0, .int .i64 a1, .slice lo ln lp, .string a3, .int .i64 a4, .int .i64 a5] 24 (0, 0)) := by rw [← hW7]; exact (heap_setCell_same _ _ 5 _ _ _ (heap_setCell_same _ _ 4 _ _ _ (heap_setCell_same _ _ 3 _ _ _ (heap_setCell_same _ _ 2 _ _ _ (heap_setCell_same _ _ 1 _ _ _ (heap_setCell_same _ _ 0 _ _ _ A6.out))))))
  have K7 : Tb w.heap.size w.heap.size W6 W7 := by rw [← hW7]; exact (((((Tb.set W6 ⟨w.heap.size, 0, none⟩ _ (.inl rfl)).trans (Tb.set _ ⟨w.heap.size, 1, none⟩ _ (.inl rfl))).trans (Tb.set _ ⟨w.heap.size, 2, none⟩ _ (.inl rfl))).trans (Tb.set _ ⟨w.heap.size, 3, none⟩ _ (.inl rfl))).trans (Tb.set _ ⟨w.heap.size, 4, none⟩ _ (.inl rfl))).trans (Tb.set _ ⟨w.heap.size, 5, none⟩ _ (.inl rfl))
  have d0 : W7.cell? ⟨w.heap.size, 0, none⟩ = some (.string a0) := by rw [Lib.cell_of_heap E7]; rfl
  have d1 : W7.cell? ⟨w.heap.size, 1, none⟩ = some (.int .i64 a1) := by rw [Lib.cell_of_heap E7]; rfl
  have d2 : W7.cell? ⟨w.heap.size, 2, none⟩ = some (.slice lo ln lp) := by rw [Lib.cell_of_heap E7]; rfl
  have d3 : W7.cell? ⟨w.heap.size, 3, none⟩ = some (.string a3) := by rw [Lib.cell_of_heap E7]; rfl
  have d4 : W7.cell? ⟨w.heap.size, 4, none⟩ = some (.int .i64 a4) := by rw [Lib.cell_of_heap E7]; rfl
  have d5 : W7.cell? ⟨w.heap.size, 5, none⟩ = some (.int .i64 a5) := by rw [Lib.cell_of_heap E7]; rfl
  rw [hW7]
  refine bodyPost_ret (by simp [results, Try.results70, go_sem, d0, d1, d2, d3, d4, d5]; try rfl) rfl ?_
  refine HXq.out W7 (.slice lo ln lp) ⟨a0, a1, J, a3, a4, a5⟩ ((O6.out.old (fun k hk hk2 => K7.block k hk2 (by omega) (by omega))).lower (by omega)) (S6.out.keep (fun k hk => K7.block k (by omega) (by omega) (by omega))) (T6.out.own K7 (Nat.le_refl _)) (fun e => ?_)
  rw [HFv.out e, EA0.out, EA1.out, EA3.out, EA4.out, EA5.out, HV2.out (sT_up (sI_up (sI_up e)))]
end Go.Proofs.Ytfhicemfhkhjaab

namespace Go.Proofs.Ytfhicemfhkhjaab
open Go.RowKit
set_option maxRecDepth 100000

/-- the state at the beginning -/
def bS (key : UInt8) (l : List UInt8) (most : Nat) : Nat × Nat := if most < l.length then (1, 0) else if l.length = 0 then (3, 0) else if l.getD 0 0 ≠ key then (90, 0) else (0, 1)
/-- what end answers -/
def eE (l : List UInt8) (s : Nat × Nat) : Nat := if s.1 ≠ 0 then s.1 else if s.2 < l.length then 4 else 0
def eP (l : List UInt8) (s : Nat × Nat) : Nat := if s.1 ≠ 0 then s.2 else if s.2 < l.length then s.2 else 0
theorem sQ_no {l : List UInt8} {most : Nat} {s : Nat × Nat} (h : s.1 ≠ 0) : sQ l most s = s := by
  unfold sQ
  rw [sT_no h, sI_no h, sL_no h, sT_no h, sI_no h, sI_no h]
theorem rqs_state (l : List UInt8) : (eE l (sQ l 4096 (bS 81 l 4096)) ≠ 0 → rqs l = (eE l (sQ l 4096 (bS 81 l 4096)), eP l (sQ l 4096 (bS 81 l 4096)), rq0)) ∧ (eE l (sQ l 4096 (bS 81 l 4096)) = 0 → rqs l = (0, 0, (fRq l 4096 (bS 81 l 4096).2).2.2) ∧ eP l (sQ l 4096 (bS 81 l 4096)) = 0 ∧ (sQ l 4096 (bS 81 l 4096)).1 = 0) := by
  unfold rqs
  by_cases h1 : 4096 < l.length
  · have e : bS 81 l 4096 = (1, 0) := if_pos h1
    rw [e, sQ_no (show ((1, 0) : Nat × Nat).1 ≠ 0 by decide), if_pos h1]
    exact ⟨fun _ => rfl, fun e => by cases e⟩
  rw [if_neg h1]
  by_cases h2 : l.length = 0
  · obtain rfl := List.eq_nil_of_length_eq_zero h2
    exact ⟨fun _ => rfl, fun e => by cases e⟩
  have h0 : 0 < l.length := by omega
  have eg : l.getD 0 0 = l[0] := by simp [h0]
  by_cases h3 : l[0] = 81
  case neg =>
    have e : bS 81 l 4096 = (90, 0) := (if_neg h1).trans ((if_neg h2).trans (if_pos (by rw [eg]; exact h3)))
    rw [e, sQ_no (show ((90, 0) : Nat × Nat).1 ≠ 0 by decide), fKq_no h0 h3]
    exact ⟨fun _ => rfl, fun e => by cases e⟩
  have e : bS 81 l 4096 = (0, 1) := (if_neg h1).trans ((if_neg h2).trans (if_neg (by rw [eg]; exact fun e => e h3)))
  have eK : fKq 81 l 4096 = fRq l 4096 1 := fKq_ok h0 h3
  rw [e, ← fRq_state l 4096 (0, 1) rfl, eK]
  show _ ∧ _
  by_cases h4 : (fRq l 4096 1).1 = 0
  · rw [if_neg (fun e => e h4)]
    have e5 : eE l ((fRq l 4096 (0, 1).2).1, (fRq l 4096 (0, 1).2).2.1) = if (fRq l 4096 1).2.1 < l.length then 4 else 0 := if_neg (fun e => e h4)
    have e6 : eP l ((fRq l 4096 (0, 1).2).1, (fRq l 4096 (0, 1).2).2.1) = if (fRq l 4096 1).2.1 < l.length then (fRq l 4096 1).2.1 else 0 := if_neg (fun e => e h4)
    rw [e5, e6]
    by_cases h5 : (fRq l 4096 1).2.1 < l.length
    · rw [if_pos h5, if_pos h5, if_pos h5]
      exact ⟨fun _ => rfl, fun e => by cases e⟩
    · rw [if_neg h5, if_neg h5, if_neg h5]
      exact ⟨fun e => (e rfl).elim, fun _ => ⟨rfl, rfl, h4⟩⟩
  · rw [if_pos h4]
    have e5 : eE l ((fRq l 4096 (0, 1).2).1, (fRq l 4096 (0, 1).2).2.1) = (fRq l 4096 1).1 := if_pos h4
    have e6 : eP l ((fRq l 4096 (0, 1).2).1, (fRq l 4096 (0, 1).2).2.1) = (fRq l 4096 1).2.1 := if_pos h4
    rw [e5, e6]
    exact ⟨fun _ => rfl, fun e => (h4 e).elim⟩
set_option maxHeartbeats 1000000 in
theorem xend_any (w : World) {rb most : Nat} {v : Value} {l : List UInt8} {s : Nat × Nat} (h : XS w rb v l most s) :
    Calls Try.prog 71 #[.pointer (some ⟨rb, 0, none⟩)] w fun e w' => e = .returned (.tuple #[.int .i64 (eE l s : Nat), .int .i64 (eP l s : Nat)]) ∧ Tb rb rb w w' := by
  rcases h with ⟨h0, b, off, cap, rfl, hr, hx, hi⟩ | ⟨h0, i, hr⟩
  · obtain ⟨c0, c1, c2, c3, c4⟩ := hr.c
    have HR := hid hr
    rw [show eE l s = if s.2 < l.length then 4 else 0 from if_neg (fun e => e h0), show eP l s = if s.2 < l.length then s.2 else 0 from if_neg (fun e => e h0)]
    obtain ⟨s1, p⟩ := s
    simp only at *
    subst h0
    unfold bv at c0
    clear hr hx
    by_cases hp : p < l.length
    · rw [if_pos hp, if_pos hp]
      have hI : (p : Int) < (l.length : Int) := by omega
      go_enter Try.func71, Try.ntmps71
      go_wp2_with fail
      go_quiet (fail)
      have HF := hid (fail_new 4 p (w.drewN nq) (HR.out.drewN nq))
      have c1' : (w.drewN nq).cell? ⟨rb, 1, none⟩ = some (.int .i64 (p : Int)) := c1
      clear c1
      go_wp2_with fail
      refine Calls.mono HF.out ?_
      rintro e w3 ⟨rfl, rfl⟩
      obtain ⟨W, hW⟩ : ∃ W, ((w.drewN nq).setCell ⟨rb, 3, none⟩ (.int .i64 ((4 : Nat) : Int))).setCell ⟨rb, 4, none⟩ (.int .i64 (p : Int)) = W := ⟨_, rfl⟩
      have k := (HR.out.drewN nq).stop 4 p
      rw [hW] at k
      have TW := hid (show Tb rb rb w W by rw [← hW]; exact ((Tb.drewN rb rb w nq).trans (Tb.set _ ⟨rb, 3, none⟩ _ (.inl rfl))).trans (Tb.set _ ⟨rb, 4, none⟩ _ (.inl rfl)))
      obtain ⟨k0, k1, k2, k3, k4⟩ := k.c
      rw [hW]
      clear hW k HF c0 c2 c3 c4 c1'
      go_wp2_with fail
      go_quiet (fail)
      go_wp2_with fail
      go_ret2
      exact ⟨rfl, TW.out.trans (Tb.drewN rb rb W _)⟩
    · rw [if_neg hp, if_neg hp]
      have hI : ¬ (p : Int) < (l.length : Int) := by omega
      go_enter Try.func71, Try.ntmps71
      go_wp2_with fail
      go_quiet (fail)
      obtain ⟨W, hW⟩ : ∃ W, w.drewN nq = W := ⟨_, rfl⟩
      have k := HR.out.drewN nq
      rw [hW] at k
      have TW := hid (show Tb rb rb w W by rw [← hW]; exact Tb.drewN rb rb w nq)
      obtain ⟨k0, k1, k2, k3, k4⟩ := k.c
      rw [hW]
      clear hW k c0 c1 c2 c3 c4
      go_wp2_with fail
      go_quiet (fail)
      go_wp2_with fail
      go_ret2
      exact ⟨rfl, TW.out.trans (Tb.drewN rb rb W _)⟩
  · obtain ⟨c0, c1, c2, c3, c4⟩ := hr.c
    have HR := hid hr
    unfold eE eP
    rw [if_pos h0, if_pos h0]
    obtain ⟨er, p⟩ := s
    simp only at *
    have hb : ((er : Int) == 0) = false := by simp; omega
    clear hr h0
    go_enter Try.func71, Try.ntmps71
    go_wp2_with fail
    go_quiet (fail)
    obtain ⟨W, hW⟩ : ∃ W, w.drewN nq = W := ⟨_, rfl⟩
    have k := HR.out.drewN nq
    rw [hW] at k
    have TW := hid (show Tb rb rb w W by rw [← hW]; exact Tb.drewN rb rb w nq)
    obtain ⟨k0, k1, k2, k3, k4⟩ := k.c
    rw [hW]
    clear hW k c0 c1 c2 c3 c4
    go_wp2_with fail
    go_quiet (fail)
    go_wp2_with fail
    go_ret2
    exact ⟨rfl, TW.out.trans (Tb.drewN rb rb W _)⟩
end Go.Proofs.Ytfhicemfhkhjaab

namespace Go.Proofs.Ytfhicemfhkhjaab
open Go.RowKit
set_option maxRecDepth 100000

theorem bS_long {key : UInt8} {l : List UInt8} {most : Nat} (h : most < l.length) : bS key l most = (1, 0) := if_pos h
theorem bS_nil {key : UInt8} {l : List UInt8} {most : Nat} (h1 : ¬ most < l.length) (h : l.length = 0) : bS key l most = (3, 0) := (if_neg h1).trans (if_pos h)
theorem bS_key {key : UInt8} {l : List UInt8} {most : Nat} (h1 : ¬ most < l.length) (h0 : 0 < l.length) (h : l[0] ≠ key) : bS key l most = (90, 0) := (if_neg h1).trans ((if_neg (by omega)).trans (if_pos (by simpa [h0] using h)))
theorem bS_ok {key : UInt8} {l : List UInt8} {most : Nat} (h1 : ¬ most < l.length) (h0 : 0 < l.length) (h : l[0] = key) : bS key l most = (0, 1) := (if_neg h1).trans ((if_neg (by omega)).trans (if_neg (by simpa [h0] using h)))
theorem key_ne {a b : UInt8} (h : a ≠ b) : ((a.toNat : Int) == (b.toNat : Int)) = false := by
  have : a.toNat ≠ b.toNat := fun e => h (UInt8.toNat_inj.1 e)
  simp
  omega
set_option maxHeartbeats 2000000 in
theorem xbegin_any (key : UInt8) (most : Nat) (v : Value) (l : List UInt8) (w : World) (hr : Reads w v l) (hm : most ≤ 1000000000) :
    Calls Try.prog 64 #[v, .int .u8 (key.toNat : Int), .int .i64 (most : Int)] w fun e w' => e = .returned (.pointer (some ⟨w.heap.size, 0, none⟩)) ∧ XS w' w.heap.size v l most (bS key l most) ∧ Below w.heap.size w w' := by
  obtain ⟨W, hW⟩ : ∃ W, w.alloc (.cells #[v, .int .i64 1, .int .i64 (most : Int), .int .i64 0, .int .i64 0] 120) = W := ⟨_, rfl⟩
  have R0 := hid (show RX W w.heap.size v 1 most 0 0 by unfold RX; rw [← hW]; exact heap_alloc_new w _)
  have B0 := hid (show Below w.heap.size w W by rw [← hW]; exact (Below.refl _ _).alloc (Nat.le_refl _) _)
  have HBs := hid (fun (p : Addr) (hp : w.heap.size ≤ p.block) (W1 : World) (hb : Below w.heap.size w W1) (u : Value) => hb.setCell (p := p) hp u)
  have X1 := hid (fun e p => R0.out.stop e p)
  by_cases h0 : l.length = 0
  · obtain ⟨ao, cap, rfl⟩ := hr.form
    rw [bS_nil (by omega) h0]
    have HF := hid (fail_new 3 0 W R0.out)
    have X3 := hid (R0.out.stop 3 0)
    clear hr
    rw [h0] at *
    have HW := hid hW
    clear hW
    go_enter Try.func64, Try.ntmps64
    have hI : ¬ (most : Int) < 0 := by omega
    go_wp2_with fail
    rw [HW.out]
    refine Calls.mono HF.out ?_
    rintro e w3 ⟨rfl, rfl⟩
    go_wp2_with fail
    go_ret
    exact ⟨rfl, .inr ⟨show (3 : Nat) ≠ 0 by omega, 1, X3.out⟩, HBs.out _ (Nat.le_refl _) _ (HBs.out _ (Nat.le_refl _) _ B0.out _) _⟩
  rcases hr with ⟨rfl, _⟩ | ⟨b, off, cap, rfl, hcap, hcell⟩
  · simp at h0
  have hpos : 0 < l.length := by omega
  have c0 := hcell 0 hpos
  have hbl : b < w.heap.size := World.block_lt_of_cell? _ _ c0
  rw [Nat.add_zero] at c0
  have HC0 := hid (fun (W1 : World) (hb : Below w.heap.size w W1) => below_cells hb _ _ c0)
  have HXB := hid (fun (W1 : World) (hb : Below w.heap.size w W1) (hf : l.length ≤ 100000000000000) => (XB.mk hcap hbl hf (fun j hj => below_cells hb _ _ (hcell j hj)) : XB W1 w.heap.size b off cap l))
  have hI0 : (0 : Int) < (l.length : Int) := by omega
  have hI00 : ((l.length : Int) == 0) = false := by rw [beq_eq_false_iff_ne]; omega
  have HCp := hid hcap
  clear hcell hcap c0
  by_cases h1 : most < l.length
  · rw [bS_long h1]
    have hI : (most : Int) < (l.length : Int) := by omega
    have HF := hid (fail_new 1 0 W R0.out)
    have X3 := hid (R0.out.stop 1 0)
    have B1 := hid (HBs.out ⟨w.heap.size, 4, none⟩ (Nat.le_refl _) _ (HBs.out ⟨w.heap.size, 3, none⟩ (Nat.le_refl _) _ B0.out (.int .i64 ((1 : Nat) : Int))) (.int .i64 ((0 : Nat) : Int)))
    obtain ⟨W1, hW1⟩ : ∃ W1, (W.setCell ⟨w.heap.size, 3, none⟩ (.int .i64 ((1 : Nat) : Int))).setCell ⟨w.heap.size, 4, none⟩ (.int .i64 ((0 : Nat) : Int)) = W1 := ⟨_, rfl⟩
    rw [hW1] at HF X3 B1
    have c0 := HC0.out W1 B1.out
    have HFo := hid (fail_old 90 0 W1 X3.out (show (1 : Nat) ≠ 0 by omega))
    have HW := hid hW
    clear hW hW1 HBs X1 HXB
    by_cases hk : l[0] = key
    · rw [hk] at c0
      clear hk
      go_enter Try.func64, Try.ntmps64
      go_wp2_with fail
      rw [HW.out]
      refine Calls.mono HF.out ?_
      rintro e w3 ⟨rfl, rfl⟩
      go_wp2_with fail
      go_ret
      exact ⟨rfl, .inr ⟨show (1 : Nat) ≠ 0 by omega, 1, X3.out⟩, B1.out⟩
    · have hkb := key_ne hk
      clear hk
      go_enter Try.func64, Try.ntmps64
      go_wp2_with fail
      rw [HW.out]
      refine Calls.mono HF.out ?_
      rintro e w3 ⟨rfl, rfl⟩
      go_wp2_with fail
      refine Calls.mono HFo.out ?_
      rintro e w4 ⟨rfl, rfl⟩
      go_wp2_with fail
      go_ret
      exact ⟨rfl, .inr ⟨show (1 : Nat) ≠ 0 by omega, 1, X3.out⟩, B1.out⟩
  have hI : ¬ (most : Int) < (l.length : Int) := by omega
  have c0 := HC0.out W B0.out
  have HW := hid hW
  by_cases hk : l[0] = key
  · rw [bS_ok h1 hpos hk]
    have HX := hid (HXB.out W B0.out (by omega))
    rw [hk] at c0
    clear hk HBs X1 HXB h1
    go_enter Try.func64, Try.ntmps64
    go_wp2_with fail
    try rw [hW]
    go_ret
    exact ⟨rfl, .inl ⟨rfl, b, off, cap, rfl, R0.out, HX.out, hpos⟩, B0.out⟩
  · rw [bS_key h1 hpos hk]
    have HF := hid (fail_new 90 0 W R0.out)
    have X3 := hid (R0.out.stop 90 0)
    have hkb := key_ne hk
    clear hk X1 HXB h1
    go_enter Try.func64, Try.ntmps64
    go_wp2_with fail
    try rw [hW]
    refine Calls.mono HF.out ?_
    rintro e w3 ⟨rfl, rfl⟩
    go_wp2_with fail
    go_ret
    exact ⟨rfl, .inr ⟨show (90 : Nat) ≠ 0 by omega, 1, X3.out⟩, HBs.out _ (Nat.le_refl _) _ (HBs.out _ (Nat.le_refl _) _ B0.out _) _⟩
end Go.Proofs.Ytfhicemfhkhjaab

namespace Go.Proofs.Ytfhicemfhkhjaab
open Go.RowKit
set_option maxRecDepth 100000

theorem Tb.flat {rb : Nat} {w w' : World} (h : Tb rb rb w w') (hb : w.heap.size ≤ rb) : Below w.heap.size w w' := ⟨h.os, h.tape, h.output, h.size, fun k hk => h.block k hk (by omega) (by omega)⟩
theorem Tb.lows {rb B : Nat} {w w' : World} (h : Tb rb rb w w') (hb : B ≤ rb) (hs : B ≤ w.heap.size) : Below B w w' := ⟨h.os, h.tape, h.output, h.size, fun k hk => h.block k (by omega) (by omega) (by omega)⟩
end Go.Proofs.Ytfhicemfhkhjaab
