/-
  codec, the document's Reply. Laid by mkry3.py.
-/
import Derived.Test.YtagjjcifpdgniaaRy2
import Derived.Test.YtagjjcifpdgniaaRp4
namespace Go.Proofs.Ytagjjcifpdgniaa
open Go.RowKit
set_option maxRecDepth 100000

theorem sV_up {l : List UInt8} {most : Nat} {s : Nat × Nat} (h : (sV l most s).1 = 0) : s.1 = 0 := by
  by_cases e : s.1 = 0
  · exact e
  · rw [sV_no e] at h; exact (e h).elim
theorem sV_val {l : List UInt8} {most : Nat} {s : Nat × Nat} (h : (sV l most s).1 = 0) : (fVi l most s.2).1 = 0 ∧ (sV l most s).2 = (fVi l most s.2).2.1 := by
  have h0 := sV_up h
  rw [sV_ok h0] at h
  exact ⟨h, by rw [sV_ok h0]⟩
/-- the state behind a reply -/
def sP (l : List UInt8) (most : Nat) (s : Nat × Nat) : Nat × Nat := sI l (sV l most (sI l (sI l (sT l most s))))
theorem fRp_state (l : List UInt8) (most : Nat) (s : Nat × Nat) (h0 : s.1 = 0) : ((fRp l most s.2).1, (fRp l most s.2).2.1) = sP l most s := by
  unfold sP
  rw [fRp_eq]
  by_cases e1 : (fTx l most s.2).1 = 0
  case neg => rw [andR_no e1, sT_ok h0, sI_no (s := (_, _)) e1, sI_no (s := (_, _)) e1, sV_no (s := (_, _)) e1, sI_no (s := (_, _)) e1]
  rw [andR_ok e1, sT_ok h0]
  generalize (fTx l most s.2).2.1 = i1
  generalize (fTx l most s.2).2.2 = a1
  by_cases e2 : (fIn l i1).1 = 0
  case neg => rw [andR_no e2, sI_ok (s := (_, _)) e1, sI_no (s := (_, _)) e2, sV_no (s := (_, _)) e2, sI_no (s := (_, _)) e2]
  rw [andR_ok e2, sI_ok (s := (_, _)) e1]
  show _ = sI l (sV l most (sI l ((fIn l i1).1, (fIn l i1).2.1)))
  generalize (fIn l i1).2.1 = i2
  generalize (fIn l i1).2.2 = a2
  by_cases e3 : (fIn l i2).1 = 0
  case neg => rw [andR_no e3, sI_ok (s := (_, _)) e2, sV_no (s := (_, _)) e3, sI_no (s := (_, _)) e3]
  rw [andR_ok e3, sI_ok (s := (_, _)) e2]
  show _ = sI l (sV l most ((fIn l i2).1, (fIn l i2).2.1))
  generalize (fIn l i2).2.1 = i3
  generalize (fIn l i2).2.2 = a3
  by_cases e4 : (fVi l most i3).1 = 0
  case neg => rw [andR_no e4, sV_ok (s := (_, _)) e3, sI_no (s := (_, _)) e4]
  rw [andR_ok e4, sV_ok (s := (_, _)) e3]
  show _ = sI l ((fVi l most i3).1, (fVi l most i3).2.1)
  generalize (fVi l most i3).2.1 = i4
  generalize (fVi l most i3).2.2 = a4
  by_cases e5 : (fIn l i4).1 = 0
  case neg => rw [andR_no e5, sI_ok (s := (_, _)) e4]
  rw [andR_ok e5, sI_ok (s := (_, _)) e4]
  exact Prod.ext e5.symm rfl
theorem fRp_val (l : List UInt8) (most : Nat) (s : Nat × Nat) (h : (sP l most s).1 = 0) :
    (fRp l most s.2).2.2 = ⟨vT l most s, vI l (sT l most s), vI l (sI l (sT l most s)), (fVi l most (sI l (sI l (sT l most s))).2).2.2, vI l (sV l most (sI l (sI l (sT l most s))))⟩ := by
  unfold sP at h
  obtain ⟨e5, p5, v5⟩ := sI_val h
  have h4 := sI_up h
  obtain ⟨e4, p4⟩ := sV_val h4
  have h3 := sV_up h4
  obtain ⟨e3, p3, v3⟩ := sI_val h3
  have h2 := sI_up h3
  obtain ⟨e2, p2, v2⟩ := sI_val h2
  have h1 := sI_up h2
  obtain ⟨e1, p1, v1⟩ := sT_val h1
  rw [v1, v2, v3, v5]
  rw [p4] at e5 ⊢
  rw [p3] at e4 e5 ⊢
  rw [p2] at e3 e4 e5 ⊢
  rw [p1] at e2 e3 e4 e5 ⊢
  rw [fRp_eq, andR_ok e1, andR_ok e2, andR_ok e3, andR_ok e4, andR_ok e5]
theorem sP_no {l : List UInt8} {most : Nat} {s : Nat × Nat} (h : s.1 ≠ 0) : sP l most s = s := by
  unfold sP
  rw [sT_no h, sI_no h, sI_no h, sV_no h, sI_no h]
theorem rps_state (l : List UInt8) : (eE l (sP l 4096 (bS 82 l 4096)) ≠ 0 → rps l = (eE l (sP l 4096 (bS 82 l 4096)), eP l (sP l 4096 (bS 82 l 4096)), rp0)) ∧ (eE l (sP l 4096 (bS 82 l 4096)) = 0 → rps l = (0, 0, (fRp l 4096 (bS 82 l 4096).2).2.2) ∧ eP l (sP l 4096 (bS 82 l 4096)) = 0 ∧ (sP l 4096 (bS 82 l 4096)).1 = 0) := by
  unfold rps
  by_cases h1 : 4096 < l.length
  · have e : bS 82 l 4096 = (1, 0) := if_pos h1
    rw [e, sP_no (show ((1, 0) : Nat × Nat).1 ≠ 0 by decide), if_pos h1]
    exact ⟨fun _ => rfl, fun e => by cases e⟩
  rw [if_neg h1]
  by_cases h2 : l.length = 0
  · obtain rfl := List.eq_nil_of_length_eq_zero h2
    exact ⟨fun _ => rfl, fun e => by cases e⟩
  have h0 : 0 < l.length := by omega
  have eg : l.getD 0 0 = l[0] := by simp [h0]
  by_cases h3 : l[0] = 82
  case neg =>
    have e : bS 82 l 4096 = (90, 0) := (if_neg h1).trans ((if_neg h2).trans (if_pos (by rw [eg]; exact h3)))
    rw [e, sP_no (show ((90, 0) : Nat × Nat).1 ≠ 0 by decide), fKp_no h0 h3]
    exact ⟨fun _ => rfl, fun e => by cases e⟩
  have e : bS 82 l 4096 = (0, 1) := (if_neg h1).trans ((if_neg h2).trans (if_neg (by rw [eg]; exact fun e => e h3)))
  have eK : fKp l 4096 = fRp l 4096 1 := fKp_ok h0 h3
  rw [e, ← fRp_state l 4096 (0, 1) rfl, eK]
  show _ ∧ _
  by_cases h4 : (fRp l 4096 1).1 = 0
  · rw [if_neg (fun e => e h4)]
    have e5 : eE l ((fRp l 4096 (0, 1).2).1, (fRp l 4096 (0, 1).2).2.1) = if (fRp l 4096 1).2.1 < l.length then 4 else 0 := if_neg (fun e => e h4)
    have e6 : eP l ((fRp l 4096 (0, 1).2).1, (fRp l 4096 (0, 1).2).2.1) = if (fRp l 4096 1).2.1 < l.length then (fRp l 4096 1).2.1 else 0 := if_neg (fun e => e h4)
    rw [e5, e6]
    by_cases h5 : (fRp l 4096 1).2.1 < l.length
    · rw [if_pos h5, if_pos h5, if_pos h5]
      exact ⟨fun _ => rfl, fun e => by cases e⟩
    · rw [if_neg h5, if_neg h5, if_neg h5]
      exact ⟨fun e => (e rfl).elim, fun _ => ⟨rfl, rfl, h4⟩⟩
  · rw [if_pos h4]
    have e5 : eE l ((fRp l 4096 (0, 1).2).1, (fRp l 4096 (0, 1).2).2.1) = (fRp l 4096 1).1 := if_pos h4
    have e6 : eP l ((fRp l 4096 (0, 1).2).1, (fRp l 4096 (0, 1).2).2.1) = (fRp l 4096 1).2.1 := if_pos h4
    rw [e5, e6]
    exact ⟨fun _ => rfl, fun e => (h4 e).elim⟩
theorem fVi_len {l : List UInt8} {most i : Nat} (h : (fVi l most i).1 = 0) : (fVi l most i).2.2.length ≤ most := by
  unfold fVi at h ⊢
  split at h
  · rename_i hc; exact (hc h).elim
  · rename_i hc
    rw [if_neg hc, fVs_len l most _ _ h]
    exact ct_most (by simpa using hc)
theorem rps_levels (l : List UInt8) : (rps l).2.2.levels.length ≤ 4096 := by
  obtain ⟨m1, m2⟩ := rps_state l
  by_cases h : eE l (sP l 4096 (bS 82 l 4096)) = 0
  · obtain ⟨e1, _, e3⟩ := m2 h
    rw [e1]
    show ((fRp l 4096 (bS 82 l 4096).2).2.2).levels.length ≤ 4096
    rw [fRp_val l 4096 _ e3]
    unfold sP at e3
    exact fVi_len (sV_val (sI_up e3)).1
  · rw [m1 h]
    exact Nat.zero_le _
set_option maxHeartbeats 4000000 in
theorem rreply_any (v : Value) (l : List UInt8) (w : World) (hr : Reads w v l) :
    Calls Try.prog 30 #[v] w fun e w' => Rdp l w e w' := by
  obtain ⟨W, hW⟩ : ∃ W, w.alloc (.cells #[.string ⟨#[]⟩, .int .i64 0, .int .i64 0, .slice none 0 0, .int .i64 0] 32) = W := ⟨_, rfl⟩
  have A := hid (show W.heap[w.heap.size]? = some (.cells #[.string ⟨#[]⟩, .int .i64 0, .int .i64 0, .slice none 0 0, .int .i64 0] 32 (0, 0)) by rw [← hW]; exact heap_alloc_new w _)
  have B := hid (show Below w.heap.size w W by rw [← hW]; exact (Below.refl _ _).alloc (Nat.le_refl _) _)
  have zW : W.heap.size = w.heap.size + 1 := by rw [← hW, World.size_alloc]
  have HB := hid (xbegin_any 82 4096 v l W (hr.below B.out) (by omega))
  obtain ⟨m1, m2⟩ := rps_state l
  have HNo := hid (fun (k p : Nat) (w' : World) (h : rps l = (k, p, rp0)) (hb : Below w.heap.size w w') => Rdp.no h hb)
  have HYes := hid (fun (r : Ry) (v' : Value) (w' : World) (h : rps l = (0, 0, r)) (ho : OLv w' w.heap.size v' r.levels) (hb : Below w.heap.size w w') => Rdp.yes h ho hb)
  have HXT := hid (fun (wx : World) (sx : Nat × Nat) (hx : XS wx (w.heap.size + 1) v l 4096 sx) => xtext_any wx hx (by omega))
  have HXW := hid (fun (wx : World) (sx : Nat × Nat) (hx : XS wx (w.heap.size + 1) v l 4096 sx) => xwhole_any wx hx)
  have HXL := hid (fun (wx : World) (sx : Nat × Nat) (hx : XS wx (w.heap.size + 1) v l 4096 sx) => xlevels_any wx hx (by omega))
  have M1 := hid m1
  have M2 := hid m2
  have HFv := hid (fRp_val l 4096 (bS 82 l 4096))
  have HWh := hid hW
  clear hr m1 m2 hW
  unfold sP at M1 M2 HFv
  rw [zW] at HB
  go_enter Try.func30, Try.ntmps30
  go_wp2_with fail
  rw [HWh.out]
  refine Calls.mono HB.out ?_
  rintro e w1 ⟨rfl, hS1, hb1⟩
  generalize bS 82 l 4096 = s0 at *
  have A1 := hid ((hb1.block w.heap.size (by omega)).trans A.out)
  have B1 := hid (B.out.trans (hb1.mono (by omega)))
  have hz1 := hb1.size
  have hl1 : w.heap.size + 2 ≤ w1.heap.size := by have := hS1.lt; omega
  obtain ⟨W0, hW0⟩ : ∃ W0, w1.alloc (.cells #[.string ⟨#[]⟩, .int .i64 0, .int .i64 0, .slice none 0 0, .int .i64 0] 32) = W0 := ⟨_, rfl⟩
  have b2 : Below w1.heap.size w1 W0 := by rw [← hW0]; exact (Below.refl _ _).alloc (Nat.le_refl _) _
  have z0w : W0.heap.size = w1.heap.size + 1 := by rw [← hW0, World.size_alloc]
  have R0 := hid (show W0.heap[w1.heap.size]? = some (.cells #[.string ⟨#[]⟩, .int .i64 0, .int .i64 0, .slice none 0 0, .int .i64 0] 32 (0, 0)) by rw [← hW0]; exact heap_alloc_new w1 _)
  have A0 := hid (show W0.heap[w.heap.size]? = some (.cells #[.string ⟨#[]⟩, .int .i64 0, .int .i64 0, .slice none 0 0, .int .i64 0] 32 (0, 0)) from (b2.block w.heap.size (by omega)).trans A1.out)
  have B0 := hid (B1.out.trans (b2.mono (by omega)))
  have S0 := hid (hS1.below b2)
  have HW0 := hid hW0
  have n1 : w.heap.size ≠ w.heap.size + 1 := by omega
  have n2 : w1.heap.size ≠ w.heap.size + 1 := by omega
  clear hS1 hb1 b2 HB A B A1 B1 hW0
  have HC0 := hid (HXT.out W0 _ S0.out)
  go_wp2_with fail
  rw [HW0.out]
  refine Calls.mono HC0.out ?_
  rintro e w0a ⟨rfl, hS, hT⟩
  have Ra0 := hid (show w0a.heap[w1.heap.size]? = some (.cells #[.string ⟨#[]⟩, .int .i64 0, .int .i64 0, .slice none 0 0, .int .i64 0] 32 (0, 0)) from (hT.block _ (by omega) n2 n2).trans R0.out)
  have Aa0 := hid (show w0a.heap[w.heap.size]? = some (.cells #[.string ⟨#[]⟩, .int .i64 0, .int .i64 0, .slice none 0 0, .int .i64 0] 32 (0, 0)) from (hT.block _ (by omega) n1 n1).trans A0.out)
  have z0a := hT.size
  have q0 : w0a.cell? ⟨w1.heap.size, 0, none⟩ = some (.string ⟨#[]⟩) := by rw [Lib.cell_of_heap Ra0.out]; rfl
  have f0 : w0a.frozen? ⟨w1.heap.size, 0, none⟩ = false := Lib.frozen_of_heap Ra0.out 0
  obtain ⟨a0, ea0⟩ : ∃ a0, vT l 4096 (s0) = a0 := ⟨_, rfl⟩
  rw [ea0]
  have EA0 := hid ea0
  clear ea0
  obtain ⟨W1, hW1⟩ : ∃ W1, w0a.setCell ⟨w1.heap.size, 0, none⟩ (.string a0) = W1 := ⟨_, rfl⟩
  have R1 := hid (show W1.heap[w1.heap.size]? = some (.cells #[.string a0, .int .i64 0, .int .i64 0, .slice none 0 0, .int .i64 0] 32 (0, 0)) by rw [← hW1]; exact heap_setCell_same w0a _ 0 _ _ _ Ra0.out)
  have A1 := hid (show W1.heap[w.heap.size]? = some (.cells #[.string ⟨#[]⟩, .int .i64 0, .int .i64 0, .slice none 0 0, .int .i64 0] 32 (0, 0)) by rw [← hW1]; exact (heap_setCell_other w0a ⟨w1.heap.size, 0, none⟩ _ _ (by show w.heap.size ≠ w1.heap.size; omega)).trans Aa0.out)
  have z1w : W1.heap.size = w0a.heap.size := by rw [← hW1]; simp
  have S1 := hid (show XS W1 (w.heap.size + 1) v l 4096 (sT l 4096 (s0)) by rw [← hW1]; exact hS.set (by omega))
  have B1 := hid ((B0.out.trans (hT.lows (B := w.heap.size) (by omega) (by omega))).trans (show Below w.heap.size w0a W1 by rw [← hW1]; exact (Tb.set w0a ⟨w1.heap.size, 0, none⟩ _ (.inl rfl) : Tb w1.heap.size w1.heap.size _ _).lows (by omega) (by omega)))
  clear hS hT HC0 S0 B0 R0 A0 Ra0 Aa0
  have HC1 := hid (HXW.out W1 _ S1.out)
  go_wp2_with fail
  refine Calls.mono HC1.out ?_
  rintro e w1a ⟨rfl, hS, hT⟩
  have Ra1 := hid (show w1a.heap[w1.heap.size]? = some (.cells #[.string a0, .int .i64 0, .int .i64 0, .slice none 0 0, .int .i64 0] 32 (0, 0)) from (hT.block _ (by omega) n2 n2).trans R1.out)
  have Aa1 := hid (show w1a.heap[w.heap.size]? = some (.cells #[.string ⟨#[]⟩, .int .i64 0, .int .i64 0, .slice none 0 0, .int .i64 0] 32 (0, 0)) from (hT.block _ (by omega) n1 n1).trans A1.out)
  have z1a := hT.size
  have q1 : w1a.cell? ⟨w1.heap.size, 1, none⟩ = some (.int .i64 0) := by rw [Lib.cell_of_heap Ra1.out]; rfl
  have f1 : w1a.frozen? ⟨w1.heap.size, 1, none⟩ = false := Lib.frozen_of_heap Ra1.out 1
  obtain ⟨a1, ea1⟩ : ∃ a1, vI l (sT l 4096 (s0)) = a1 := ⟨_, rfl⟩
  rw [ea1]
  have EA1 := hid ea1
  clear ea1
  obtain ⟨W2, hW2⟩ : ∃ W2, w1a.setCell ⟨w1.heap.size, 1, none⟩ (.int .i64 a1) = W2 := ⟨_, rfl⟩
  have R2 := hid (show W2.heap[w1.heap.size]? = some (.cells #[.string a0, .int .i64 a1, .int .i64 0, .slice none 0 0, .int .i64 0] 32 (0, 0)) by rw [← hW2]; exact heap_setCell_same w1a _ 1 _ _ _ Ra1.out)
  have A2 := hid (show W2.heap[w.heap.size]? = some (.cells #[.string ⟨#[]⟩, .int .i64 0, .int .i64 0, .slice none 0 0, .int .i64 0] 32 (0, 0)) by rw [← hW2]; exact (heap_setCell_other w1a ⟨w1.heap.size, 1, none⟩ _ _ (by show w.heap.size ≠ w1.heap.size; omega)).trans Aa1.out)
  have z2w : W2.heap.size = w1a.heap.size := by rw [← hW2]; simp
  have S2 := hid (show XS W2 (w.heap.size + 1) v l 4096 (sI l (sT l 4096 (s0))) by rw [← hW2]; exact hS.set (by omega))
  have B2 := hid ((B1.out.trans (hT.lows (B := w.heap.size) (by omega) (by omega))).trans (show Below w.heap.size w1a W2 by rw [← hW2]; exact (Tb.set w1a ⟨w1.heap.size, 1, none⟩ _ (.inl rfl) : Tb w1.heap.size w1.heap.size _ _).lows (by omega) (by omega)))
  clear hS hT HC1 S1 B1 R1 A1 Ra1 Aa1
  have HC2 := hid (HXW.out W2 _ S2.out)
  go_wp2_with fail
  refine Calls.mono HC2.out ?_
  rintro e w2a ⟨rfl, hS, hT⟩
  have Ra2 := hid (show w2a.heap[w1.heap.size]? = some (.cells #[.string a0, .int .i64 a1, .int .i64 0, .slice none 0 0, .int .i64 0] 32 (0, 0)) from (hT.block _ (by omega) n2 n2).trans R2.out)
  have Aa2 := hid (show w2a.heap[w.heap.size]? = some (.cells #[.string ⟨#[]⟩, .int .i64 0, .int .i64 0, .slice none 0 0, .int .i64 0] 32 (0, 0)) from (hT.block _ (by omega) n1 n1).trans A2.out)
  have z2a := hT.size
  have q2 : w2a.cell? ⟨w1.heap.size, 2, none⟩ = some (.int .i64 0) := by rw [Lib.cell_of_heap Ra2.out]; rfl
  have f2 : w2a.frozen? ⟨w1.heap.size, 2, none⟩ = false := Lib.frozen_of_heap Ra2.out 2
  obtain ⟨a2, ea2⟩ : ∃ a2, vI l (sI l (sT l 4096 (s0))) = a2 := ⟨_, rfl⟩
  rw [ea2]
  have EA2 := hid ea2
  clear ea2
  obtain ⟨W3, hW3⟩ : ∃ W3, w2a.setCell ⟨w1.heap.size, 2, none⟩ (.int .i64 a2) = W3 := ⟨_, rfl⟩
  have R3 := hid (show W3.heap[w1.heap.size]? = some (.cells #[.string a0, .int .i64 a1, .int .i64 a2, .slice none 0 0, .int .i64 0] 32 (0, 0)) by rw [← hW3]; exact heap_setCell_same w2a _ 2 _ _ _ Ra2.out)
  have A3 := hid (show W3.heap[w.heap.size]? = some (.cells #[.string ⟨#[]⟩, .int .i64 0, .int .i64 0, .slice none 0 0, .int .i64 0] 32 (0, 0)) by rw [← hW3]; exact (heap_setCell_other w2a ⟨w1.heap.size, 2, none⟩ _ _ (by show w.heap.size ≠ w1.heap.size; omega)).trans Aa2.out)
  have z3w : W3.heap.size = w2a.heap.size := by rw [← hW3]; simp
  have S3 := hid (show XS W3 (w.heap.size + 1) v l 4096 (sI l (sI l (sT l 4096 (s0)))) by rw [← hW3]; exact hS.set (by omega))
  have B3 := hid ((B2.out.trans (hT.lows (B := w.heap.size) (by omega) (by omega))).trans (show Below w.heap.size w2a W3 by rw [← hW3]; exact (Tb.set w2a ⟨w1.heap.size, 2, none⟩ _ (.inl rfl) : Tb w1.heap.size w1.heap.size _ _).lows (by omega) (by omega)))
  clear hS hT HC2 S2 B2 R2 A2 Ra2 Aa2
  have HC3 := hid (HXL.out W3 _ S3.out)
  go_wp2_with fail
  refine Calls.mono HC3.out ?_
  intro e w3a hq
  obtain ⟨a3, J, rfl, hO, hS, hT, hV⟩ := hq
  have HV3 := hid hV
  have HO3 := hid (hO.lower (show w1.heap.size + 1 ≤ W3.heap.size by omega))
  clear hV hO
  have Ra3 := hid (show w3a.heap[w1.heap.size]? = some (.cells #[.string a0, .int .i64 a1, .int .i64 a2, .slice none 0 0, .int .i64 0] 32 (0, 0)) from (hT.block _ (by omega) n2 n2).trans R3.out)
  have Aa3 := hid (show w3a.heap[w.heap.size]? = some (.cells #[.string ⟨#[]⟩, .int .i64 0, .int .i64 0, .slice none 0 0, .int .i64 0] 32 (0, 0)) from (hT.block _ (by omega) n1 n1).trans A3.out)
  have z3a := hT.size
  have q3 : w3a.cell? ⟨w1.heap.size, 3, none⟩ = some (.slice none 0 0) := by rw [Lib.cell_of_heap Ra3.out]; rfl
  have f3 : w3a.frozen? ⟨w1.heap.size, 3, none⟩ = false := Lib.frozen_of_heap Ra3.out 3
  obtain ⟨W4, hW4⟩ : ∃ W4, w3a.setCell ⟨w1.heap.size, 3, none⟩ (a3) = W4 := ⟨_, rfl⟩
  have R4 := hid (show W4.heap[w1.heap.size]? = some (.cells #[.string a0, .int .i64 a1, .int .i64 a2, a3, .int .i64 0] 32 (0, 0)) by rw [← hW4]; exact heap_setCell_same w3a _ 3 _ _ _ Ra3.out)
  have A4 := hid (show W4.heap[w.heap.size]? = some (.cells #[.string ⟨#[]⟩, .int .i64 0, .int .i64 0, .slice none 0 0, .int .i64 0] 32 (0, 0)) by rw [← hW4]; exact (heap_setCell_other w3a ⟨w1.heap.size, 3, none⟩ _ _ (by show w.heap.size ≠ w1.heap.size; omega)).trans Aa3.out)
  have z4w : W4.heap.size = w3a.heap.size := by rw [← hW4]; simp
  have S4 := hid (show XS W4 (w.heap.size + 1) v l 4096 (sV l 4096 (sI l (sI l (sT l 4096 (s0))))) by rw [← hW4]; exact hS.set (by omega))
  have B4 := hid ((B3.out.trans (hT.lows (B := w.heap.size) (by omega) (by omega))).trans (show Below w.heap.size w3a W4 by rw [← hW4]; exact (Tb.set w3a ⟨w1.heap.size, 3, none⟩ _ (.inl rfl) : Tb w1.heap.size w1.heap.size _ _).lows (by omega) (by omega)))
  have O4 := hid (show OLv W4 (w1.heap.size + 1) a3 J from HO3.out.old (fun k hk _ => by rw [← hW4]; exact heap_setCell_other w3a ⟨w1.heap.size, 3, none⟩ k _ (by show k ≠ w1.heap.size; omega)))
  obtain ⟨lo, ln, lp, rfl⟩ := O4.out.form
  clear hS hT HC3 S3 B3 R3 A3 Ra3 Aa3 HO3
  have HC4 := hid (HXW.out W4 _ S4.out)
  go_wp2_with fail
  refine Calls.mono HC4.out ?_
  rintro e w4a ⟨rfl, hS, hT⟩
  have Ra4 := hid (show w4a.heap[w1.heap.size]? = some (.cells #[.string a0, .int .i64 a1, .int .i64 a2, .slice lo ln lp, .int .i64 0] 32 (0, 0)) from (hT.block _ (by omega) n2 n2).trans R4.out)
  have Aa4 := hid (show w4a.heap[w.heap.size]? = some (.cells #[.string ⟨#[]⟩, .int .i64 0, .int .i64 0, .slice none 0 0, .int .i64 0] 32 (0, 0)) from (hT.block _ (by omega) n1 n1).trans A4.out)
  have z4a := hT.size
  have q4 : w4a.cell? ⟨w1.heap.size, 4, none⟩ = some (.int .i64 0) := by rw [Lib.cell_of_heap Ra4.out]; rfl
  have f4 : w4a.frozen? ⟨w1.heap.size, 4, none⟩ = false := Lib.frozen_of_heap Ra4.out 4
  obtain ⟨a4, ea4⟩ : ∃ a4, vI l (sV l 4096 (sI l (sI l (sT l 4096 (s0))))) = a4 := ⟨_, rfl⟩
  rw [ea4]
  have EA4 := hid ea4
  clear ea4
  obtain ⟨W5, hW5⟩ : ∃ W5, w4a.setCell ⟨w1.heap.size, 4, none⟩ (.int .i64 a4) = W5 := ⟨_, rfl⟩
  have R5 := hid (show W5.heap[w1.heap.size]? = some (.cells #[.string a0, .int .i64 a1, .int .i64 a2, .slice lo ln lp, .int .i64 a4] 32 (0, 0)) by rw [← hW5]; exact heap_setCell_same w4a _ 4 _ _ _ Ra4.out)
  have A5 := hid (show W5.heap[w.heap.size]? = some (.cells #[.string ⟨#[]⟩, .int .i64 0, .int .i64 0, .slice none 0 0, .int .i64 0] 32 (0, 0)) by rw [← hW5]; exact (heap_setCell_other w4a ⟨w1.heap.size, 4, none⟩ _ _ (by show w.heap.size ≠ w1.heap.size; omega)).trans Aa4.out)
  have z5w : W5.heap.size = w4a.heap.size := by rw [← hW5]; simp
  have S5 := hid (show XS W5 (w.heap.size + 1) v l 4096 (sI l (sV l 4096 (sI l (sI l (sT l 4096 (s0)))))) by rw [← hW5]; exact hS.set (by omega))
  have B5 := hid ((B4.out.trans (hT.lows (B := w.heap.size) (by omega) (by omega))).trans (show Below w.heap.size w4a W5 by rw [← hW5]; exact (Tb.set w4a ⟨w1.heap.size, 4, none⟩ _ (.inl rfl) : Tb w1.heap.size w1.heap.size _ _).lows (by omega) (by omega)))
  have O5 := hid (show OLv W5 (w1.heap.size + 1) (.slice lo ln lp) J from (O4.out.tbb hT (by omega)).old (fun k hk _ => by rw [← hW5]; exact heap_setCell_other w4a ⟨w1.heap.size, 4, none⟩ k _ (by show k ≠ w1.heap.size; omega)))
  clear hS hT HC4 S4 B4 R4 A4 Ra4 Aa4 O4
  have HE := hid (xend_any W5 S5.out)
  clear q0 f0 q1 f1 q2 f2 q3 f3 hW1 hW2 hW3 hW4
  go_wp2_with fail
  try rw [hW5]
  refine Calls.mono HE.out ?_
  rintro e w7 ⟨rfl, hT7⟩
  have A7 := hid ((hT7.block w.heap.size (by omega) (by omega) (by omega)).trans A5.out)
  have X7 := hid ((hT7.block w1.heap.size (by omega) (by omega) (by omega)).trans R5.out)
  have B7 := hid (B5.out.trans (hT7.lows (B := w.heap.size) (by omega) (by omega)))
  have O7 := hid (O5.out.tbb hT7 (by omega))
  have z7 := hT7.size
  have p0 : w7.cell? ⟨w1.heap.size, 0, none⟩ = some (.string a0) := by rw [Lib.cell_of_heap X7.out]; rfl
  have p1 : w7.cell? ⟨w1.heap.size, 1, none⟩ = some (.int .i64 a1) := by rw [Lib.cell_of_heap X7.out]; rfl
  have p2 : w7.cell? ⟨w1.heap.size, 2, none⟩ = some (.int .i64 a2) := by rw [Lib.cell_of_heap X7.out]; rfl
  have p3 : w7.cell? ⟨w1.heap.size, 3, none⟩ = some (.slice lo ln lp) := by rw [Lib.cell_of_heap X7.out]; rfl
  have p4 : w7.cell? ⟨w1.heap.size, 4, none⟩ = some (.int .i64 a4) := by rw [Lib.cell_of_heap X7.out]; rfl
  have r0 : w7.cell? ⟨w.heap.size, 0, none⟩ = some (.string ⟨#[]⟩) := by rw [Lib.cell_of_heap A7.out]; rfl
  have g0 : w7.frozen? ⟨w.heap.size, 0, none⟩ = false := Lib.frozen_of_heap A7.out 0
  have r1 : w7.cell? ⟨w.heap.size, 1, none⟩ = some (.int .i64 0) := by rw [Lib.cell_of_heap A7.out]; rfl
  have g1 : w7.frozen? ⟨w.heap.size, 1, none⟩ = false := Lib.frozen_of_heap A7.out 1
  have r2 : w7.cell? ⟨w.heap.size, 2, none⟩ = some (.int .i64 0) := by rw [Lib.cell_of_heap A7.out]; rfl
  have g2 : w7.frozen? ⟨w.heap.size, 2, none⟩ = false := Lib.frozen_of_heap A7.out 2
  have r3 : w7.cell? ⟨w.heap.size, 3, none⟩ = some (.slice none 0 0) := by rw [Lib.cell_of_heap A7.out]; rfl
  have g3 : w7.frozen? ⟨w.heap.size, 3, none⟩ = false := Lib.frozen_of_heap A7.out 3
  have r4 : w7.cell? ⟨w.heap.size, 4, none⟩ = some (.int .i64 0) := by rw [Lib.cell_of_heap A7.out]; rfl
  have g4 : w7.frozen? ⟨w.heap.size, 4, none⟩ = false := Lib.frozen_of_heap A7.out 4
  clear hT7 HE A5 R5 B5 O5 S5 hW5 q4 f4
  have HYv := hid (fun (h : (sI l (sV l 4096 (sI l (sI l (sT l 4096 (s0)))))).1 = 0) => (HFv.out h).trans (show _ = (⟨a0, a1, a2, J, a4⟩ : Ry) by rw [EA0.out, EA1.out, EA2.out, EA4.out, HV3.out (sI_up h)]))
  clear HFv EA0 EA1 EA2 EA4 HV3
  generalize sI l (sV l 4096 (sI l (sI l (sT l 4096 (s0))))) = s7 at *
  generalize eE l s7 = er at *
  generalize eP l s7 = pl at *
  by_cases he : er = 0
  · obtain ⟨y1, y2, y3⟩ := M2.out he
    subst he
    subst y2
    have Y1 := hid (show rps l = (0, 0, ⟨a0, a1, a2, J, a4⟩) by rw [y1, HYv.out y3])
    clear y1 y3
    go_wp2_with fail
    obtain ⟨W8, hW8⟩ : ∃ W8, (((((w7.setCell ⟨w.heap.size, 0, none⟩ (.string a0)).setCell ⟨w.heap.size, 1, none⟩ (.int .i64 a1)).setCell ⟨w.heap.size, 2, none⟩ (.int .i64 a2)).setCell ⟨w.heap.size, 3, none⟩ (.slice lo ln lp)).setCell ⟨w.heap.size, 4, none⟩ (.int .i64 a4)) = W8 := ⟨_, rfl⟩
    have E8 : W8.heap[w.heap.size]? = some (.cells #[.string a0, .int .i64 a1, .int .i64 a2, .slice lo ln lp, .int .i64 a4] 32 (0, 0)) := by rw [← hW8]; exact (heap_setCell_same _ _ 4 _ _ _ (heap_setCell_same _ _ 3 _ _ _ (heap_setCell_same _ _ 2 _ _ _ (heap_setCell_same _ _ 1 _ _ _ (heap_setCell_same _ _ 0 _ _ _ A7.out)))))
    have K8 : Tb w.heap.size w.heap.size w7 W8 := by rw [← hW8]; exact ((((Tb.set w7 ⟨w.heap.size, 0, none⟩ _ (.inl rfl)).trans (Tb.set _ ⟨w.heap.size, 1, none⟩ _ (.inl rfl))).trans (Tb.set _ ⟨w.heap.size, 2, none⟩ _ (.inl rfl))).trans (Tb.set _ ⟨w.heap.size, 3, none⟩ _ (.inl rfl))).trans (Tb.set _ ⟨w.heap.size, 4, none⟩ _ (.inl rfl))
    have d0 : W8.cell? ⟨w.heap.size, 0, none⟩ = some (.string a0) := by rw [Lib.cell_of_heap E8]; rfl
    have d1 : W8.cell? ⟨w.heap.size, 1, none⟩ = some (.int .i64 a1) := by rw [Lib.cell_of_heap E8]; rfl
    have d2 : W8.cell? ⟨w.heap.size, 2, none⟩ = some (.int .i64 a2) := by rw [Lib.cell_of_heap E8]; rfl
    have d3 : W8.cell? ⟨w.heap.size, 3, none⟩ = some (.slice lo ln lp) := by rw [Lib.cell_of_heap E8]; rfl
    have d4 : W8.cell? ⟨w.heap.size, 4, none⟩ = some (.int .i64 a4) := by rw [Lib.cell_of_heap E8]; rfl
    rw [hW8]
    refine bodyPost_ret (by simp [results, Try.results30, go_sem, d0, d1, d2, d3, d4]; try rfl) rfl ?_
    have B8 := B7.out.trans (K8.lows (B := w.heap.size) (Nat.le_refl _) (by omega))
    exact HYes.out ⟨a0, a1, a2, J, a4⟩ (.slice lo ln lp) W8 Y1.out ((O7.out.old (fun k hk hk2 => K8.block k hk2 (by omega) (by omega))).lower (by omega)) B8
  · have Y1 := hid (M1.out he)
    have hb : ((er : Int) == 0) = false := by rw [beq_eq_false_iff_ne]; omega
    clear he
    go_wp2_with fail
    obtain ⟨W8, hW8⟩ : ∃ W8, (((((w7.setCell ⟨w.heap.size, 0, none⟩ (.string ⟨#[]⟩)).setCell ⟨w.heap.size, 1, none⟩ (.int .i64 0)).setCell ⟨w.heap.size, 2, none⟩ (.int .i64 0)).setCell ⟨w.heap.size, 3, none⟩ (.slice none 0 0)).setCell ⟨w.heap.size, 4, none⟩ (.int .i64 0)) = W8 := ⟨_, rfl⟩
    have E8 : W8.heap[w.heap.size]? = some (.cells #[.string ⟨#[]⟩, .int .i64 0, .int .i64 0, .slice none 0 0, .int .i64 0] 32 (0, 0)) := by rw [← hW8]; exact (heap_setCell_same _ _ 4 _ _ _ (heap_setCell_same _ _ 3 _ _ _ (heap_setCell_same _ _ 2 _ _ _ (heap_setCell_same _ _ 1 _ _ _ (heap_setCell_same _ _ 0 _ _ _ A7.out)))))
    have K8 : Tb w.heap.size w.heap.size w7 W8 := by rw [← hW8]; exact ((((Tb.set w7 ⟨w.heap.size, 0, none⟩ _ (.inl rfl)).trans (Tb.set _ ⟨w.heap.size, 1, none⟩ _ (.inl rfl))).trans (Tb.set _ ⟨w.heap.size, 2, none⟩ _ (.inl rfl))).trans (Tb.set _ ⟨w.heap.size, 3, none⟩ _ (.inl rfl))).trans (Tb.set _ ⟨w.heap.size, 4, none⟩ _ (.inl rfl))
    have d0 : W8.cell? ⟨w.heap.size, 0, none⟩ = some (.string ⟨#[]⟩) := by rw [Lib.cell_of_heap E8]; rfl
    have d1 : W8.cell? ⟨w.heap.size, 1, none⟩ = some (.int .i64 0) := by rw [Lib.cell_of_heap E8]; rfl
    have d2 : W8.cell? ⟨w.heap.size, 2, none⟩ = some (.int .i64 0) := by rw [Lib.cell_of_heap E8]; rfl
    have d3 : W8.cell? ⟨w.heap.size, 3, none⟩ = some (.slice none 0 0) := by rw [Lib.cell_of_heap E8]; rfl
    have d4 : W8.cell? ⟨w.heap.size, 4, none⟩ = some (.int .i64 0) := by rw [Lib.cell_of_heap E8]; rfl
    rw [hW8]
    refine bodyPost_ret (by simp [results, Try.results30, go_sem, d0, d1, d2, d3, d4]; try rfl) rfl ?_
    have B8 := B7.out.trans (K8.lows (B := w.heap.size) (Nat.le_refl _) (by omega))
    exact HNo.out er pl W8 Y1.out B8
end Go.Proofs.Ytagjjcifpdgniaa
