/-
  St7: codec: a state with a reader. Laid by mkst7.py.
  St8: codec: State's closure. Laid by mkst8.py.
  St9: codec: State. Laid by mkst9.py.
-/
import Derived.Test.YtfhicemfhkhjaabSt6
namespace Go.Proofs.Ytfhicemfhkhjaab
open Go.RowKit
set_option maxRecDepth 100000

/-- a state in memory -/
def sxC (s : Sx) (v1 v2 v3 : Value) : Array Value := #[.int .i64 s.room, .int .i64 s.lsn, .int .i64 s.now, v1, v2, v3]
/-- some state lies in block qb -/
def AnyS (qb : Nat) (w : World) : Prop := ∃ n0 n1 n2 a1 m1 c1 a2 m2 c2 a3 m3 c3, w.heap[qb]? = some (.cells #[.int .i64 n0, .int .i64 n1, .int .i64 n2, .slice a1 m1 c1, .slice a2 m2 c2, .slice a3 m3 c3] 32 (0, 0))
/-- a state's bytes behind its first byte -/
def fKs (l : List UInt8) (most : Nat) : Nat × Nat × Sx :=
  match l with
  | [] => (3, 0, sx0)
  | c :: _ => if c ≠ 84 then (90, 0, sx0) else fSt most l 1
theorem fKs_nil (most : Nat) : fKs [] most = (3, 0, sx0) := rfl
theorem fKs_no {l : List UInt8} {most : Nat} (h0 : 0 < l.length) (h : l[0] ≠ 84) : fKs l most = (90, 0, sx0) := by
  match l, h0, h with
  | c :: t, _, h => exact if_pos h
theorem fKs_ok {l : List UInt8} {most : Nat} (h0 : 0 < l.length) (h : l[0] = 84) : fKs l most = fSt most l 1 := by
  match l, h0, h with
  | c :: t, _, h => exact if_neg (fun e => e h)
theorem OHl.form {w : World} {base : Nat} {v : Value} {L : List Hl} (h : OHl w base v L) : ∃ ao n c, v = .slice ao n c := by
  obtain ⟨_, _, h, _⟩ := h
  rcases h.2 with ⟨g, _⟩ | ⟨x, y, z, g1, _⟩
  · exact ⟨_, _, _, g⟩
  · exact ⟨_, _, _, g1⟩
theorem ODn.form {w : World} {base : Nat} {v : Value} {L : List Dn} (h : ODn w base v L) : ∃ ao n c, v = .slice ao n c := by
  obtain ⟨_, _, h, _⟩ := h
  rcases h.2 with ⟨g, _⟩ | ⟨x, y, z, g1, _⟩
  · exact ⟨_, _, _, g⟩
  · exact ⟨_, _, _, g1⟩
theorem row_own {w w' : World} {base : Nat} {e : TypeId} {size n : Nat} {v : Value} {xs : List Value} (h : w.ownsRow base e size v n xs) (hk : ∀ k, v.ownBlock = some k → w'.heap[k]? = w.heap[k]?) : w'.ownsRow base e size v n xs := by
  refine ⟨h.1, ?_⟩
  rcases h.2 with g | ⟨x, y, z, g1, g2, g3, g4⟩
  · exact .inl g
  · exact .inr ⟨x, y, z, g1, g2, (hk x (by rw [g1]; rfl)).trans g3, g4⟩
theorem row_lower {w : World} {base B : Nat} {e : TypeId} {size n : Nat} {v : Value} {xs : List Value} (h : w.ownsRow base e size v n xs) (hb : B ≤ base) : w.ownsRow B e size v n xs := by
  refine ⟨h.1, ?_⟩
  rcases h.2 with g | ⟨x, y, z, g1, g2, g3⟩
  · exact .inl g
  · exact .inr ⟨x, y, z, g1, by omega, g3⟩
theorem OHl.old {w w' : World} {base : Nat} {v : Value} {L : List Hl} (h : OHl w base v L) (hk : ∀ k, base ≤ k → k < w.heap.size → w'.heap[k]? = w.heap[k]?) : OHl w' base v L := by
  obtain ⟨vs, h1, h2, h3⟩ := h
  refine ⟨vs, h1, row_own h2 (fun k e => hk k (World.ownsRow.lt h2 k e).1 (World.ownsRow.lt h2 k e).2), fun m hm hm' => ?_⟩
  obtain ⟨n1, n2⟩ := h3 m hm hm'
  exact ⟨n1.own (fun k e => hk k (World.ownsRow.lt n1 k e).1 (World.ownsRow.lt n1 k e).2), n2⟩
theorem ODn.old {w w' : World} {base : Nat} {v : Value} {L : List Dn} (h : ODn w base v L) (hk : ∀ k, base ≤ k → k < w.heap.size → w'.heap[k]? = w.heap[k]?) : ODn w' base v L := by
  obtain ⟨vs, h1, h2, h3⟩ := h
  refine ⟨vs, h1, row_own h2 (fun k e => hk k (World.ownsRow.lt h2 k e).1 (World.ownsRow.lt h2 k e).2), fun m hm hm' => ?_⟩
  obtain ⟨n1, n2⟩ := h3 m hm hm'
  exact ⟨n1.own (fun k e => hk k (World.ownsRow.lt n1 k e).1 (World.ownsRow.lt n1 k e).2), n2⟩
theorem OLv.keep {w w' : World} {base : Nat} {v : Value} {L : List Lv} (h : OLv w base v L) (hk : ∀ k, base ≤ k → k < w.heap.size → w'.heap[k]? = w.heap[k]?) : OLv w' base v L := row_own h (fun k e => hk k (World.ownsRow.lt h k e).1 (World.ownsRow.lt h k e).2)
theorem OHl.lower {w : World} {B B' : Nat} {v : Value} {L : List Hl} (h : OHl w B v L) (hb : B' ≤ B) : OHl w B' v L := by
  obtain ⟨vs, h1, h2, h3⟩ := h
  exact ⟨vs, h1, row_lower h2 hb, fun m hm hm' => ⟨row_lower (h3 m hm hm').1 hb, (h3 m hm hm').2⟩⟩
theorem ODn.lower {w : World} {B B' : Nat} {v : Value} {L : List Dn} (h : ODn w B v L) (hb : B' ≤ B) : ODn w B' v L := by
  obtain ⟨vs, h1, h2, h3⟩ := h
  exact ⟨vs, h1, row_lower h2 hb, fun m hm hm' => ⟨row_lower (h3 m hm hm').1 hb, (h3 m hm hm').2⟩⟩
/-- behind a state that is read into block qb -/
def Ds (rb b off cap : Nat) (l : List UInt8) (most qb : Nat) (w : World) (e : Ending) (w' : World) : Prop :=
  Tb rb qb w w' ∧ (((fKs l most).1 = 0 ∧ e = .returned (.tuple #[]) ∧ RD w' rb b off cap l (fKs l most).2.1 most ∧ ∃ v1 v2 v3, w'.heap[qb]? = some (.cells (sxC (fKs l most).2.2 v1 v2 v3) 32 (0, 0)) ∧ OLv w' w.heap.size v1 (fKs l most).2.2.levels ∧ OHl w' w.heap.size v2 (fKs l most).2.2.holds ∧ ODn w' w.heap.size v3 (fKs l most).2.2.done)
  ∨ ((fKs l most).1 ≠ 0 ∧ e = flt ((fKs l most).1 : Int) ((fKs l most).2.1 : Int) ∧ AnyS qb w'))
set_option maxHeartbeats 4000000 in
theorem dstate_any (qb rb b off cap most : Nat) (l : List UInt8) (w : World) (h : RN w rb (.slice (some ⟨b, off, none⟩) l.length cap) most) (hc : l.length ≤ cap) (h0 : 0 < l.length) (hne : b ≠ rb) (hb : ∀ j (hj : j < l.length), w.cell? ⟨b, off + j, none⟩ = some (.int .u8 (l[j].toNat : Int)))
    (hcp : l.length ≤ 100000000000000) (hm : most ≤ 1000000000) (hq : w.heap[qb]? = some (.cells (sxC sx0 (.slice none 0 0) (.slice none 0 0) (.slice none 0 0)) 32 (0, 0))) (hqb : qb ≠ rb ∧ qb ≠ b) :
    Calls Try.prog 36 #[ir rb, .pointer (some ⟨qb, 0, none⟩)] w fun e w' => Ds rb b off cap l most qb w e w' := by
  have hmf : ∀ (fn : Fn) (first cap : Array Value) (w : World), (Instr.makeFunc fn first cap).run Try.prog w = .ok (.func fn first cap) w := fun _ _ _ _ => rfl
  have hme := mr_key
  have hbw : b < w.heap.size := World.block_lt_of_cell? _ _ (hb 0 h0)
  have hqlt := (Array.getElem?_eq_some_iff.1 hq).1
  have hrlt : rb < w.heap.size := (Array.getElem?_eq_some_iff.1 h).1
  obtain ⟨cb, hcbd⟩ : ∃ cb, w.heap.size = cb := ⟨_, rfl⟩
  obtain ⟨W, hW⟩ : ∃ W, w.alloc (.cells #[ir rb] 129) = W := ⟨_, rfl⟩
  have hB : Below w.heap.size w W := by rw [← hW]; exact (Below.refl _ _).alloc (Nat.le_refl _) _
  have zW : W.heap.size = w.heap.size + 1 := by rw [← hW, World.size_alloc]
  have HCB := hid (show W.cell? ⟨cb, 0, none⟩ = some (ir rb) by rw [← hW, ← hcbd, cell_of_row _ _ _ _ _ _ (heap_alloc_new w _)]; rfl)
  have HCW := hid (show cb ≠ rb ∧ cb ≠ qb from ⟨by omega, by omega⟩)
  have HTw := hid (show Tb rb qb w W from ⟨hB.os, hB.tape, hB.output, hB.size, fun k hk _ _ => hB.block k hk⟩)
  have HK := hid (show Calls Try.prog 122 #[.pointer (some ⟨rb, 0, none⟩), .int .u8 84] W fun e w' => (l[0] = 84 ∧ e = .returned (.tuple #[]) ∧ RD w' rb b off cap l 1 most ∧ w' = W.setCell ⟨rb, 1, none⟩ (.int .i64 1)) ∨ (l[0] ≠ 84 ∧ e = flt 90 0 ∧ w' = W) from dkey_any 84 rb b off cap most l W ((hB.block rb hrlt).trans h) hc h0 hne (fun j hj => below_cells hB _ _ (hb j hj)))
  have HQ := hid (show W.heap[qb]? = some (.cells (sxC sx0 (.slice none 0 0) (.slice none 0 0) (.slice none 0 0)) 32 (0, 0)) from (hB.block qb hqlt).trans hq)
  have hcbk := HCB.out
  clear h hb hq hB
  go_enter Try.func36, Try.ntmps36
  go_wp2_with fail
  try rw [hW]
  refine Calls.mono HK.out ?_
  rintro e w0 (⟨hk, rfl, hR, hw⟩ | ⟨hk, rfl, rfl⟩)
  rotate_left
  · have HF := hid (show Ds rb b off cap l most qb w (flt 90 0) w0 from ⟨HTw.out, .inr ⟨by rw [fKs_no h0 hk]; decide, by rw [fKs_no h0 hk]; rfl, _, _, _, _, _, _, _, _, _, _, _, _, HQ.out⟩⟩)
    go_wp2_with fail
    exact ⟨rfl, HF.out⟩
  obtain ⟨i0, hi0⟩ : ∃ i0 : Nat, i0 = 1 := ⟨_, rfl⟩
  have HR0 := hid (show RD w0 rb b off cap l i0 most by rw [hi0]; exact hR)
  have hTk : Tb rb qb W w0 := by rw [hw]; exact Tb.set _ ⟨rb, 1, none⟩ _ (.inl rfl)
  have HT0 := hid (HTw.out.trans hTk)
  have HCB0 := hid (cb_keep hTk HCB.out HCW.out)
  have HQ0 := hid (show w0.heap[qb]? = some (.cells (sxC sx0 (.slice none 0 0) (.slice none 0 0) (.slice none 0 0)) 32 (0, 0)) by rw [hw, heap_setCell_other W ⟨rb, 1, none⟩ qb _ hqb.1]; exact HQ.out)
  have HF0 := hid (show fKs l most = andR (fIn l i0) sx0 fun i1 a => andR (fIn l i1) sx0 fun i2 b => andR (fIn l i2) sx0 fun i3 c => andR (fVi l most i3) sx0 fun i4 L => andR (gL (fHl most) most l i4) sx0 fun i5 H => andR (gL (fDn most) most l i5) sx0 fun i6 D => (0, i6, ⟨a, b, c, L, H, D⟩) by rw [hi0, fKs_ok h0 hk]; rfl)
  clear hi0 hw hR hk HK hme hcbk hTk HQ HTw HCB hW
  have hq : w0.heap[qb]? = some (.cells #[.int .i64 0, .int .i64 0, .int .i64 0, .slice none 0 0, .slice none 0 0, .slice none 0 0] 32 (0, 0)) := HQ0.out
  have hsz0 := HT0.out.size
  have hcbk := HCB0.out
  have HC := hid (fun q => dwhole_any ⟨qb, 0, none⟩ 0 (w0.drewN q) (HR0.out.drewN q) hcp (by show w0.cell? _ = _; rw [cell_of_row _ _ _ _ _ _ hq]; rfl) (by show w0.frozen? _ = _; simp [World.frozen?, hq]) hqb.1)
  have hle := at_le HR0.out.at' (show (rd (l.drop i0) 0 0).2.1 ≤ _ by have := rd_le (l.drop i0) 0 0; omega)
  have hna := nr_whole rb
  have hme := mr_whole
  clear hq
  go_wp2_with fail
  refine wp_region_any (by kernel_rfl) ?_
  try (change wpAny _ _ _ _ _ _ _ (World.drew _))
  refine wpAny_take (i := 1) (v := .pointer (some ⟨qb, 0, none⟩)) rfl (by kernel_rfl) (by kernel_rfl) (by kernel_rfl) (fun _ _ _ h => h) (Or.inl ⟨by rfl, by intro w; go_simp⟩) ?_
  refine wpAny_take (i := 2) (v := .pointer (some ⟨qb, 0, none⟩)) rfl (by kernel_rfl) (by kernel_rfl) (by kernel_rfl) (fun _ _ _ h => h) (Or.inl ⟨by rfl, by intro w; go_simp⟩) ?_
  refine wpAny_take (i := 3) (v := .pointer (some ⟨qb, 0, none⟩)) rfl (by kernel_rfl) (by kernel_rfl) (by kernel_rfl) (fun _ _ _ h => h) (Or.inl ⟨by rfl, by intro w; go_simp⟩) ?_
  refine wpAny_ready (rs := [0]) (by kernel_rfl) (by simp) ?_
  refine AllReady.cons rfl (fun K hK => ?_) AllReady.nil
  go_simp
  refine hK _ _ ?_
  clear hK K
  refine wpAny_ready (rs := [4]) (by kernel_rfl) (by simp) ?_
  refine AllReady.cons rfl (fun K hK => ?_) AllReady.nil
  go_simp
  refine hK _ _ ?_
  clear hK K
  refine wpAny_take (i := 5) (v := .func (.method "larder/codec.whole") #[ir rb] #[]) rfl (by kernel_rfl) (by kernel_rfl) (by kernel_rfl) (fun _ _ _ h => h) (Or.inl ⟨by rfl, by intro w; go_simp⟩) ?_
  refine wpAny_take (i := 6) (v := ir rb) rfl (by kernel_rfl) (by kernel_rfl) (by kernel_rfl) (fun _ _ _ h => h) (Or.inl ⟨by rfl, by intro w; go_simp⟩) ?_
  refine wpAny_ready (rs := [7]) (by kernel_rfl) (by simp) ?_
  refine AllReady.cons rfl (fun K hK => ?_) AllReady.nil
  go_simp
  go_wp2_with fail
  refine (HC.out _).mono ?_
  rintro e w1 ⟨q1, ⟨he, rfl, hw⟩ | ⟨he, rfl, hw⟩⟩
  rotate_left
  · have HF := hid (show Ds rb b off cap l most qb w (flt ((fIn l i0).1 : Int) ((fIn l i0).2.1 : Int)) w1 by
      unfold Ds
      rw [HF0.out, andR_no (show (fIn l i0).1 ≠ 0 from he)]
      exact ⟨HT0.out.trans ((Tb.drewN rb qb w0 1).trans (by rw [hw]; exact Tb.drewN _ _ _ _)), .inr ⟨he, rfl, _, _, _, _, _, _, _, _, _, _, _, _, by rw [hw]; exact (show w0.heap[qb]? = some (.cells #[.int .i64 0, .int .i64 0, .int .i64 0, .slice none 0 0, .slice none 0 0, .slice none 0 0] 32 (0, 0)) from HQ0.out)⟩⟩)
    clear hw
    go_wp2_with fail
    exact ⟨rfl, HF.out⟩
  have hTk : Tb rb qb w0 w1 := (Tb.drewN rb qb w0 1).trans (show Tb rb qb (w0.drewN 1) w1 by rw [hw]; exact Tb.put _ q1 ⟨qb, 0, none⟩ _ _ rfl)
  have HQ1 := hid (show w1.heap[qb]? = some (.cells ((#[.int .i64 0, .int .i64 0, .int .i64 0, .slice none 0 0, .slice none 0 0, .slice none 0 0] : Array Value).setIfInBounds 0 (.int .i64 (fIn l i0).2.2)) 32 (0, 0)) by rw [hw]; exact q_set (w := w0.drewN 1) HQ0.out hqb.1 0 _)
  have HR1 := hid (show RD w1 rb b off cap l (fIn l i0).2.1 most by rw [hw]; exact (HR0.out.drewN 1).put q1 _ ⟨qb, 0, none⟩ _ hle hqb.1 hqb.2)
  have HT1 := hid (HT0.out.trans hTk)
  have HCB1 := hid (cb_keep hTk HCB0.out HCW.out)
  have HF1 := hid (HF0.out.trans (andR_ok (show (fIn l i0).1 = 0 from he)))
  obtain ⟨i1, hi⟩ : ∃ x, (fIn l i0).2.1 = x := ⟨_, rfl⟩
  obtain ⟨a1, ha⟩ : ∃ x, (fIn l i0).2.2 = x := ⟨_, rfl⟩
  rw [hi, ha] at HF1
  rw [hi] at HR1
  rw [ha] at HQ1
  clear hi ha he HC HT0 HQ0 HR0 HF0 HCB0 hcbk hTk hw hna hme hle
  go_wp2_with fail
  refine wpAny_done (by kernel_rfl) ?_ _
  have hq : w1.heap[qb]? = some (.cells #[.int .i64 a1, .int .i64 0, .int .i64 0, .slice none 0 0, .slice none 0 0, .slice none 0 0] 32 (0, 0)) := HQ1.out
  have hsz1 := HT1.out.size
  have hcbk := HCB1.out
  have HC := hid (fun q => dwhole_any ⟨qb, 1, none⟩ 0 (w1.drewN q) (HR1.out.drewN q) hcp (by show w1.cell? _ = _; rw [cell_of_row _ _ _ _ _ _ hq]; rfl) (by show w1.frozen? _ = _; simp [World.frozen?, hq]) hqb.1)
  have hle := at_le HR1.out.at' (show (rd (l.drop i1) 0 0).2.1 ≤ _ by have := rd_le (l.drop i1) 0 0; omega)
  have hna := nr_whole rb
  have hme := mr_whole
  clear hq
  go_wp2_with fail
  refine wp_region_any (by kernel_rfl) ?_
  try (change wpAny _ _ _ _ _ _ _ (World.drew _))
  refine wpAny_take (i := 1) (v := .pointer (some ⟨qb, 0, none⟩)) rfl (by kernel_rfl) (by kernel_rfl) (by kernel_rfl) (fun _ _ _ h => h) (Or.inl ⟨by rfl, by intro w; go_simp⟩) ?_
  refine wpAny_take (i := 2) (v := .pointer (some ⟨qb, 0, none⟩)) rfl (by kernel_rfl) (by kernel_rfl) (by kernel_rfl) (fun _ _ _ h => h) (Or.inl ⟨by rfl, by intro w; go_simp⟩) ?_
  refine wpAny_take (i := 3) (v := .pointer (some ⟨qb, 1, none⟩)) rfl (by kernel_rfl) (by kernel_rfl) (by kernel_rfl) (fun _ _ _ h => h) (Or.inl ⟨by rfl, by intro w; go_simp⟩) ?_
  refine wpAny_ready (rs := [0]) (by kernel_rfl) (by simp) ?_
  refine AllReady.cons rfl (fun K hK => ?_) AllReady.nil
  go_simp
  refine hK _ _ ?_
  clear hK K
  refine wpAny_ready (rs := [4]) (by kernel_rfl) (by simp) ?_
  refine AllReady.cons rfl (fun K hK => ?_) AllReady.nil
  go_simp
  refine hK _ _ ?_
  clear hK K
  refine wpAny_take (i := 5) (v := .func (.method "larder/codec.whole") #[ir rb] #[]) rfl (by kernel_rfl) (by kernel_rfl) (by kernel_rfl) (fun _ _ _ h => h) (Or.inl ⟨by rfl, by intro w; go_simp⟩) ?_
  refine wpAny_take (i := 6) (v := ir rb) rfl (by kernel_rfl) (by kernel_rfl) (by kernel_rfl) (fun _ _ _ h => h) (Or.inl ⟨by rfl, by intro w; go_simp⟩) ?_
  refine wpAny_ready (rs := [7]) (by kernel_rfl) (by simp) ?_
  refine AllReady.cons rfl (fun K hK => ?_) AllReady.nil
  go_simp
  go_wp2_with fail
  refine (HC.out _).mono ?_
  rintro e w2 ⟨q2, ⟨he, rfl, hw⟩ | ⟨he, rfl, hw⟩⟩
  rotate_left
  · have HF := hid (show Ds rb b off cap l most qb w (flt ((fIn l i1).1 : Int) ((fIn l i1).2.1 : Int)) w2 by
      unfold Ds
      rw [HF1.out, andR_no (show (fIn l i1).1 ≠ 0 from he)]
      exact ⟨HT1.out.trans ((Tb.drewN rb qb w1 1).trans (by rw [hw]; exact Tb.drewN _ _ _ _)), .inr ⟨he, rfl, _, _, _, _, _, _, _, _, _, _, _, _, by rw [hw]; exact (show w1.heap[qb]? = some (.cells #[.int .i64 a1, .int .i64 0, .int .i64 0, .slice none 0 0, .slice none 0 0, .slice none 0 0] 32 (0, 0)) from HQ1.out)⟩⟩)
    clear hw
    go_wp2_with fail
    exact ⟨rfl, HF.out⟩
  have hTk : Tb rb qb w1 w2 := (Tb.drewN rb qb w1 1).trans (show Tb rb qb (w1.drewN 1) w2 by rw [hw]; exact Tb.put _ q2 ⟨qb, 1, none⟩ _ _ rfl)
  have HQ2 := hid (show w2.heap[qb]? = some (.cells ((#[.int .i64 a1, .int .i64 0, .int .i64 0, .slice none 0 0, .slice none 0 0, .slice none 0 0] : Array Value).setIfInBounds 1 (.int .i64 (fIn l i1).2.2)) 32 (0, 0)) by rw [hw]; exact q_set (w := w1.drewN 1) HQ1.out hqb.1 1 _)
  have HR2 := hid (show RD w2 rb b off cap l (fIn l i1).2.1 most by rw [hw]; exact (HR1.out.drewN 1).put q2 _ ⟨qb, 1, none⟩ _ hle hqb.1 hqb.2)
  have HT2 := hid (HT1.out.trans hTk)
  have HCB2 := hid (cb_keep hTk HCB1.out HCW.out)
  have HF2 := hid (HF1.out.trans (andR_ok (show (fIn l i1).1 = 0 from he)))
  obtain ⟨i2, hi⟩ : ∃ x, (fIn l i1).2.1 = x := ⟨_, rfl⟩
  obtain ⟨a2, ha⟩ : ∃ x, (fIn l i1).2.2 = x := ⟨_, rfl⟩
  rw [hi, ha] at HF2
  rw [hi] at HR2
  rw [ha] at HQ2
  clear hi ha he HC HT1 HQ1 HR1 HF1 HCB1 hcbk hTk hw hna hme hle
  go_wp2_with fail
  refine wpAny_done (by kernel_rfl) ?_ _
  have hq : w2.heap[qb]? = some (.cells #[.int .i64 a1, .int .i64 a2, .int .i64 0, .slice none 0 0, .slice none 0 0, .slice none 0 0] 32 (0, 0)) := HQ2.out
  have hsz2 := HT2.out.size
  have hcbk := HCB2.out
  have HC := hid (fun q => dwhole_any ⟨qb, 2, none⟩ 0 (w2.drewN q) (HR2.out.drewN q) hcp (by show w2.cell? _ = _; rw [cell_of_row _ _ _ _ _ _ hq]; rfl) (by show w2.frozen? _ = _; simp [World.frozen?, hq]) hqb.1)
  have hle := at_le HR2.out.at' (show (rd (l.drop i2) 0 0).2.1 ≤ _ by have := rd_le (l.drop i2) 0 0; omega)
  have hna := nr_whole rb
  have hme := mr_whole
  clear hq
  go_wp2_with fail
  refine wp_region_any (by kernel_rfl) ?_
  try (change wpAny _ _ _ _ _ _ _ (World.drew _))
  refine wpAny_take (i := 1) (v := .pointer (some ⟨qb, 0, none⟩)) rfl (by kernel_rfl) (by kernel_rfl) (by kernel_rfl) (fun _ _ _ h => h) (Or.inl ⟨by rfl, by intro w; go_simp⟩) ?_
  refine wpAny_take (i := 2) (v := .pointer (some ⟨qb, 0, none⟩)) rfl (by kernel_rfl) (by kernel_rfl) (by kernel_rfl) (fun _ _ _ h => h) (Or.inl ⟨by rfl, by intro w; go_simp⟩) ?_
  refine wpAny_take (i := 3) (v := .pointer (some ⟨qb, 2, none⟩)) rfl (by kernel_rfl) (by kernel_rfl) (by kernel_rfl) (fun _ _ _ h => h) (Or.inl ⟨by rfl, by intro w; go_simp⟩) ?_
  refine wpAny_ready (rs := [0]) (by kernel_rfl) (by simp) ?_
  refine AllReady.cons rfl (fun K hK => ?_) AllReady.nil
  go_simp
  refine hK _ _ ?_
  clear hK K
  refine wpAny_ready (rs := [4]) (by kernel_rfl) (by simp) ?_
  refine AllReady.cons rfl (fun K hK => ?_) AllReady.nil
  go_simp
  refine hK _ _ ?_
  clear hK K
  refine wpAny_take (i := 5) (v := .func (.method "larder/codec.whole") #[ir rb] #[]) rfl (by kernel_rfl) (by kernel_rfl) (by kernel_rfl) (fun _ _ _ h => h) (Or.inl ⟨by rfl, by intro w; go_simp⟩) ?_
  refine wpAny_take (i := 6) (v := ir rb) rfl (by kernel_rfl) (by kernel_rfl) (by kernel_rfl) (fun _ _ _ h => h) (Or.inl ⟨by rfl, by intro w; go_simp⟩) ?_
  refine wpAny_ready (rs := [7]) (by kernel_rfl) (by simp) ?_
  refine AllReady.cons rfl (fun K hK => ?_) AllReady.nil
  go_simp
  go_wp2_with fail
  refine (HC.out _).mono ?_
  rintro e w3 ⟨q3, ⟨he, rfl, hw⟩ | ⟨he, rfl, hw⟩⟩
  rotate_left
  · have HF := hid (show Ds rb b off cap l most qb w (flt ((fIn l i2).1 : Int) ((fIn l i2).2.1 : Int)) w3 by
      unfold Ds
      rw [HF2.out, andR_no (show (fIn l i2).1 ≠ 0 from he)]
      exact ⟨HT2.out.trans ((Tb.drewN rb qb w2 1).trans (by rw [hw]; exact Tb.drewN _ _ _ _)), .inr ⟨he, rfl, _, _, _, _, _, _, _, _, _, _, _, _, by rw [hw]; exact (show w2.heap[qb]? = some (.cells #[.int .i64 a1, .int .i64 a2, .int .i64 0, .slice none 0 0, .slice none 0 0, .slice none 0 0] 32 (0, 0)) from HQ2.out)⟩⟩)
    clear hw
    go_wp2_with fail
    exact ⟨rfl, HF.out⟩
  have hTk : Tb rb qb w2 w3 := (Tb.drewN rb qb w2 1).trans (show Tb rb qb (w2.drewN 1) w3 by rw [hw]; exact Tb.put _ q3 ⟨qb, 2, none⟩ _ _ rfl)
  have HQ3 := hid (show w3.heap[qb]? = some (.cells ((#[.int .i64 a1, .int .i64 a2, .int .i64 0, .slice none 0 0, .slice none 0 0, .slice none 0 0] : Array Value).setIfInBounds 2 (.int .i64 (fIn l i2).2.2)) 32 (0, 0)) by rw [hw]; exact q_set (w := w2.drewN 1) HQ2.out hqb.1 2 _)
  have HR3 := hid (show RD w3 rb b off cap l (fIn l i2).2.1 most by rw [hw]; exact (HR2.out.drewN 1).put q3 _ ⟨qb, 2, none⟩ _ hle hqb.1 hqb.2)
  have HT3 := hid (HT2.out.trans hTk)
  have HCB3 := hid (cb_keep hTk HCB2.out HCW.out)
  have HF3 := hid (HF2.out.trans (andR_ok (show (fIn l i2).1 = 0 from he)))
  obtain ⟨i3, hi⟩ : ∃ x, (fIn l i2).2.1 = x := ⟨_, rfl⟩
  obtain ⟨a3, ha⟩ : ∃ x, (fIn l i2).2.2 = x := ⟨_, rfl⟩
  rw [hi, ha] at HF3
  rw [hi] at HR3
  rw [ha] at HQ3
  clear hi ha he HC HT2 HQ2 HR2 HF2 HCB2 hcbk hTk hw hna hme hle
  go_wp2_with fail
  refine wpAny_done (by kernel_rfl) ?_ _
  have hq : w3.heap[qb]? = some (.cells #[.int .i64 a1, .int .i64 a2, .int .i64 a3, .slice none 0 0, .slice none 0 0, .slice none 0 0] 32 (0, 0)) := HQ3.out
  have hsz3 := HT3.out.size
  have hcbk := HCB3.out
  have HC := hid (fun q => dlevels_any qb 3 #[.int .i64 a1, .int .i64 a2, .int .i64 a3, .slice none 0 0, .slice none 0 0, .slice none 0 0] 32 (w3.drewN q) (HR3.out.drewN q) hcp hm hq rfl hqb (by show b < w3.heap.size; omega))
  clear hq
  go_wp2_with fail
  refine wp_region_any (by kernel_rfl) ?_
  try (change wpAny _ _ _ _ _ _ _ (World.drew _))
  refine wpAny_take (i := 1) (v := .pointer (some ⟨qb, 0, none⟩)) rfl (by kernel_rfl) (by kernel_rfl) (by kernel_rfl) (fun _ _ _ h => h) (Or.inl ⟨by rfl, by intro w; go_simp⟩) ?_
  refine wpAny_take (i := 2) (v := .pointer (some ⟨qb, 0, none⟩)) rfl (by kernel_rfl) (by kernel_rfl) (by kernel_rfl) (fun _ _ _ h => h) (Or.inl ⟨by rfl, by intro w; go_simp⟩) ?_
  refine wpAny_take (i := 3) (v := .pointer (some ⟨qb, 3, none⟩)) rfl (by kernel_rfl) (by kernel_rfl) (by kernel_rfl) (fun _ _ _ h => h) (Or.inl ⟨by rfl, by intro w; go_simp⟩) ?_
  refine wpAny_ready (rs := [0]) (by kernel_rfl) (by simp) ?_
  refine AllReady.cons rfl (fun K hK => ?_) AllReady.nil
  go_simp
  refine hK _ _ ?_
  clear hK K
  refine wpAny_ready (rs := [4]) (by kernel_rfl) (by simp) ?_
  refine AllReady.cons rfl (fun K hK => ?_) AllReady.nil
  go_simp
  go_wp2_with fail
  refine (HC.out _).mono ?_
  rintro e w4 ⟨ht, ⟨he, rfl, hr, x3, hq3, ho3⟩ | ⟨he, rfl, ao9, n9, c9, hq9⟩⟩
  rotate_left
  · have HF := hid (show Ds rb b off cap l most qb w (flt ((fVi l most i3).1 : Int) ((fVi l most i3).2.1 : Int)) w4 by
      unfold Ds
      rw [HF3.out, andR_no (show (fVi l most i3).1 ≠ 0 from he)]
      exact ⟨HT3.out.trans ((Tb.drewN rb qb w3 1).trans ht), .inr ⟨he, rfl, _, _, _, _, _, _, _, _, _, _, _, _, hq9⟩⟩)
    clear ht hq9
    go_wp2_with fail
    exact ⟨rfl, HF.out⟩
  obtain ⟨y3, z3, t3, rfl⟩ := ho3.form
  have hTk : Tb rb qb w3 w4 := (Tb.drewN rb qb w3 1).trans ht
  have HQ4 := hid hq3
  have HR4 := hid hr
  have HO4levels := hid (show OLv w4 w.heap.size (.slice y3 z3 t3) (fVi l most i3).2.2 from OLv.lower (show OLv w4 w3.heap.size (.slice y3 z3 t3) (fVi l most i3).2.2 from ho3) (by omega))
  have HT4 := hid (HT3.out.trans hTk)
  have HCB4 := hid (cb_keep hTk HCB3.out HCW.out)
  have HF4 := hid (HF3.out.trans (andR_ok (show (fVi l most i3).1 = 0 from he)))
  obtain ⟨i4, hi⟩ : ∃ x, (fVi l most i3).2.1 = x := ⟨_, rfl⟩
  obtain ⟨a4, ha⟩ : ∃ x, (fVi l most i3).2.2 = x := ⟨_, rfl⟩
  rw [hi, ha] at HF4
  rw [hi] at HR4
  rw [ha] at HO4levels
  clear hi ha he HC HT3 HQ3 HR3 HF3 HCB3 hcbk hTk ht hr hq3 ho3
  go_wp2_with fail
  refine wpAny_done (by kernel_rfl) ?_ _
  have hq : w4.heap[qb]? = some (.cells #[.int .i64 a1, .int .i64 a2, .int .i64 a3, .slice y3 z3 t3, .slice none 0 0, .slice none 0 0] 32 (0, 0)) := HQ4.out
  have hsz4 := HT4.out.size
  have hcbk := HCB4.out
  have HC := hid (fun q => dheldlist_any cb qb 4 #[.int .i64 a1, .int .i64 a2, .int .i64 a3, .slice y3 z3 t3, .slice none 0 0, .slice none 0 0] 32 (w4.drewN q) (HR4.out.drewN q) hcp hm HCB4.out HCW.out hq rfl hqb (by show b < w4.heap.size; omega))
  clear hq
  go_wp2_with fail
  refine wp_region_any (by kernel_rfl) ?_
  try (change wpAny _ _ _ _ _ _ _ (World.drew _))
  refine wpAny_take (i := 1) (v := .pointer (some ⟨qb, 0, none⟩)) rfl (by kernel_rfl) (by kernel_rfl) (by kernel_rfl) (fun _ _ _ h => h) (Or.inl ⟨by rfl, by intro w; go_simp⟩) ?_
  refine wpAny_take (i := 2) (v := .pointer (some ⟨qb, 0, none⟩)) rfl (by kernel_rfl) (by kernel_rfl) (by kernel_rfl) (fun _ _ _ h => h) (Or.inl ⟨by rfl, by intro w; go_simp⟩) ?_
  refine wpAny_take (i := 3) (v := .pointer (some ⟨qb, 4, none⟩)) rfl (by kernel_rfl) (by kernel_rfl) (by kernel_rfl) (fun _ _ _ h => h) (Or.inl ⟨by rfl, by intro w; go_simp⟩) ?_
  refine wpAny_take (i := 4) (v := .func (.func 75) #[] #[.pointer (some ⟨cb, 0, none⟩)]) rfl (by kernel_rfl) (by kernel_rfl) (by kernel_rfl) (fun _ _ _ h => h) (Or.inl ⟨by rfl, by intro w; go_simp⟩) ?_
  refine wpAny_ready (rs := [0]) (by kernel_rfl) (by simp) ?_
  refine AllReady.cons rfl (fun K hK => ?_) AllReady.nil
  go_simp
  refine hK _ _ ?_
  clear hK K
  refine wpAny_ready (rs := [5]) (by kernel_rfl) (by simp) ?_
  refine AllReady.cons rfl (fun K hK => ?_) AllReady.nil
  go_simp
  go_wp2_with fail
  refine (HC.out _).mono ?_
  rintro e w5 ⟨ht, ⟨he, rfl, hr, x4, hq3, ho3⟩ | ⟨he, rfl, ao9, n9, c9, hq9⟩⟩
  rotate_left
  · have HF := hid (show Ds rb b off cap l most qb w (flt ((gL (fHl most) most l i4).1 : Int) ((gL (fHl most) most l i4).2.1 : Int)) w5 by
      unfold Ds
      rw [HF4.out, andR_no (show (gL (fHl most) most l i4).1 ≠ 0 from he)]
      exact ⟨HT4.out.trans ((Tb.drewN rb qb w4 1).trans ht), .inr ⟨he, rfl, _, _, _, _, _, _, _, _, _, _, _, _, hq9⟩⟩)
    clear ht hq9
    go_wp2_with fail
    exact ⟨rfl, HF.out⟩
  obtain ⟨y4, z4, t4, rfl⟩ := ho3.form
  have hTk : Tb rb qb w4 w5 := (Tb.drewN rb qb w4 1).trans ht
  have HQ5 := hid hq3
  have HR5 := hid hr
  have HO5holds := hid (show OHl w5 w.heap.size (.slice y4 z4 t4) (gL (fHl most) most l i4).2.2 from OHl.lower (show OHl w5 w4.heap.size (.slice y4 z4 t4) (gL (fHl most) most l i4).2.2 from ho3) (by omega))
  have HO5levels := hid (HO4levels.out.keep (fun k hk hk2 => hTk.block k hk2 (by omega) (by omega)))
  have HT5 := hid (HT4.out.trans hTk)
  have HCB5 := hid (cb_keep hTk HCB4.out HCW.out)
  have HF5 := hid (HF4.out.trans (andR_ok (show (gL (fHl most) most l i4).1 = 0 from he)))
  obtain ⟨i5, hi⟩ : ∃ x, (gL (fHl most) most l i4).2.1 = x := ⟨_, rfl⟩
  obtain ⟨a5, ha⟩ : ∃ x, (gL (fHl most) most l i4).2.2 = x := ⟨_, rfl⟩
  rw [hi, ha] at HF5
  rw [hi] at HR5
  rw [ha] at HO5holds
  clear hi ha he HC HT4 HQ4 HR4 HF4 HCB4 hcbk hTk ht hr hq3 ho3 HO4levels
  go_wp2_with fail
  refine wpAny_done (by kernel_rfl) ?_ _
  have hq : w5.heap[qb]? = some (.cells #[.int .i64 a1, .int .i64 a2, .int .i64 a3, .slice y3 z3 t3, .slice y4 z4 t4, .slice none 0 0] 32 (0, 0)) := HQ5.out
  have hsz5 := HT5.out.size
  have hcbk := HCB5.out
  have HC := hid (fun q => ddonelist_any cb qb 5 #[.int .i64 a1, .int .i64 a2, .int .i64 a3, .slice y3 z3 t3, .slice y4 z4 t4, .slice none 0 0] 32 (w5.drewN q) (HR5.out.drewN q) hcp hm HCB5.out HCW.out hq rfl hqb (by show b < w5.heap.size; omega))
  clear hq
  go_wp2_with fail
  refine wp_region_any (by kernel_rfl) ?_
  try (change wpAny _ _ _ _ _ _ _ (World.drew _))
  refine wpAny_take (i := 1) (v := .pointer (some ⟨qb, 0, none⟩)) rfl (by kernel_rfl) (by kernel_rfl) (by kernel_rfl) (fun _ _ _ h => h) (Or.inl ⟨by rfl, by intro w; go_simp⟩) ?_
  refine wpAny_take (i := 2) (v := .pointer (some ⟨qb, 0, none⟩)) rfl (by kernel_rfl) (by kernel_rfl) (by kernel_rfl) (fun _ _ _ h => h) (Or.inl ⟨by rfl, by intro w; go_simp⟩) ?_
  refine wpAny_take (i := 3) (v := .pointer (some ⟨qb, 5, none⟩)) rfl (by kernel_rfl) (by kernel_rfl) (by kernel_rfl) (fun _ _ _ h => h) (Or.inl ⟨by rfl, by intro w; go_simp⟩) ?_
  refine wpAny_take (i := 4) (v := .func (.func 78) #[] #[.pointer (some ⟨cb, 0, none⟩)]) rfl (by kernel_rfl) (by kernel_rfl) (by kernel_rfl) (fun _ _ _ h => h) (Or.inl ⟨by rfl, by intro w; go_simp⟩) ?_
  refine wpAny_ready (rs := [0]) (by kernel_rfl) (by simp) ?_
  refine AllReady.cons rfl (fun K hK => ?_) AllReady.nil
  go_simp
  refine hK _ _ ?_
  clear hK K
  refine wpAny_ready (rs := [5]) (by kernel_rfl) (by simp) ?_
  refine AllReady.cons rfl (fun K hK => ?_) AllReady.nil
  go_simp
  go_wp2_with fail
  refine (HC.out _).mono ?_
  rintro e w6 ⟨ht, ⟨he, rfl, hr, x5, hq3, ho3⟩ | ⟨he, rfl, ao9, n9, c9, hq9⟩⟩
  rotate_left
  · have HF := hid (show Ds rb b off cap l most qb w (flt ((gL (fDn most) most l i5).1 : Int) ((gL (fDn most) most l i5).2.1 : Int)) w6 by
      unfold Ds
      rw [HF5.out, andR_no (show (gL (fDn most) most l i5).1 ≠ 0 from he)]
      exact ⟨HT5.out.trans ((Tb.drewN rb qb w5 1).trans ht), .inr ⟨he, rfl, _, _, _, _, _, _, _, _, _, _, _, _, hq9⟩⟩)
    clear ht hq9
    go_wp2_with fail
    exact ⟨rfl, HF.out⟩
  obtain ⟨y5, z5, t5, rfl⟩ := ho3.form
  have hTk : Tb rb qb w5 w6 := (Tb.drewN rb qb w5 1).trans ht
  have HQ6 := hid hq3
  have HR6 := hid hr
  have HO6done := hid (show ODn w6 w.heap.size (.slice y5 z5 t5) (gL (fDn most) most l i5).2.2 from ODn.lower (show ODn w6 w5.heap.size (.slice y5 z5 t5) (gL (fDn most) most l i5).2.2 from ho3) (by omega))
  have HO6levels := hid (HO5levels.out.keep (fun k hk hk2 => hTk.block k hk2 (by omega) (by omega)))
  have HO6holds := hid (HO5holds.out.old (fun k hk hk2 => hTk.block k hk2 (by omega) (by omega)))
  have HT6 := hid (HT5.out.trans hTk)
  have HCB6 := hid (cb_keep hTk HCB5.out HCW.out)
  have HF6 := hid (HF5.out.trans (andR_ok (show (gL (fDn most) most l i5).1 = 0 from he)))
  obtain ⟨i6, hi⟩ : ∃ x, (gL (fDn most) most l i5).2.1 = x := ⟨_, rfl⟩
  obtain ⟨a6, ha⟩ : ∃ x, (gL (fDn most) most l i5).2.2 = x := ⟨_, rfl⟩
  rw [hi, ha] at HF6
  rw [hi] at HR6
  rw [ha] at HO6done
  clear hi ha he HC HT5 HQ5 HR5 HF5 HCB5 hcbk hTk ht hr hq3 ho3 HO5levels HO5holds
  go_wp2_with fail
  refine wpAny_done (by kernel_rfl) ?_ _
  have HF := hid (show Ds rb b off cap l most qb w (.returned (.tuple #[])) w6 by
    unfold Ds
    rw [HF6.out]
    exact ⟨HT6.out, .inl ⟨rfl, rfl, HR6.out, _, _, _, HQ6.out, HO6levels.out, HO6holds.out, HO6done.out⟩⟩)
  go_wp2_with fail
  go_end0
  exact HF.out
end Go.Proofs.Ytfhicemfhkhjaab

namespace Go.Proofs.Ytfhicemfhkhjaab
open Go.RowKit
set_option maxRecDepth 100000

set_option maxHeartbeats 1000000 in
theorem toldS_nil (n0 : Int) (n1 : Int) (n2 : Int) (u1a : Option Addr) (u1n u1c : Nat) (u2a : Option Addr) (u2n u2c : Nat) (u3a : Option Addr) (u3n u3c : Nat) (w : World) : Calls Try.prog 46 #[.agg #[.int .i64 n0, .int .i64 n1, .int .i64 n2, .slice u1a u1n u1c, .slice u2a u2n u2c, .slice u3a u3n u3c], .nilIface] w fun e w' => e = .returned (.tuple #[.agg #[.int .i64 n0, .int .i64 n1, .int .i64 n2, .slice u1a u1n u1c, .slice u2a u2n u2c, .slice u3a u3n u3c], .int .i64 0, .int .i64 0]) ∧ Below w.heap.size w w' := by
  go_enter Try.func46, Try.ntmps46
  go_wp2
  simp [bodyPost, results, Try.results46, go_sem, asAddr]
  exact ((Below.refl _ _).alloc (Nat.le_refl _) _).alloc (by simp) _
set_option maxHeartbeats 1000000 in
theorem toldS_flt (n0 : Int) (n1 : Int) (n2 : Int) (u1a : Option Addr) (u1n u1c : Nat) (u2a : Option Addr) (u2n u2c : Nat) (u3a : Option Addr) (u3n u3c : Nat) (k p : Int) (w : World) : Calls Try.prog 46 #[.agg #[.int .i64 n0, .int .i64 n1, .int .i64 n2, .slice u1a u1n u1c, .slice u2a u2n u2c, .slice u3a u3n u3c], .iface 127 (.agg #[.int .i64 k, .int .i64 p])] w fun e w' => e = .returned (.tuple #[.agg #[.int .i64 0, .int .i64 0, .int .i64 0, .slice none 0 0, .slice none 0 0, .slice none 0 0], .int .i64 k, .int .i64 p]) ∧ Below w.heap.size w w' := by
  have hta := fault_is (.agg #[.int .i64 k, .int .i64 p])
  go_enter Try.func46, Try.ntmps46
  go_wp2
  go_region
  all_goals
    go_wp2
    simp [bodyPost, results, Try.results46, go_sem, asAddr]
    exact (((((Below.refl _ _).alloc (Nat.le_refl _) _).alloc (by simp) _).alloc (by simp; omega) _).alloc (by simp; omega) _).drew
/-- the three results of a call that reads a state -/
def SE (w : World) (qb eb pb : Nat) (row : Array Value) (e p : Int) : Prop := w.heap[qb]? = some (.cells row 32 (0, 0)) ∧ w.heap[eb]? = some (.cells #[.int .i64 e] 25 (0, 0)) ∧ w.heap[pb]? = some (.cells #[.int .i64 p] 3 (0, 0)) ∧ qb < eb ∧ eb < pb
theorem SE.later {w w' : World} {qb eb pb : Nat} {row : Array Value} {e p : Int} (h : SE w qb eb pb row e p) (k : Below w.heap.size w w') : SE w' qb eb pb row e p :=
  ⟨(k.block qb (Array.getElem?_eq_some_iff.1 h.1).1).trans h.1, (k.block eb (Array.getElem?_eq_some_iff.1 h.2.1).1).trans h.2.1, (k.block pb (Array.getElem?_eq_some_iff.1 h.2.2.1).1).trans h.2.2.1, h.2.2.2⟩
theorem SE.put {w : World} {qb eb pb : Nat} {b0 b1 b2 b3 b4 b5 : Value} {e p : Int} (h : SE w qb eb pb #[b0, b1, b2, b3, b4, b5] e p) (a0 a1 a2 a3 a4 a5 : Value) (e' p' : Int) : SE ((((((((w.setCell ⟨qb, 0, none⟩ a0).setCell ⟨qb, 1, none⟩ a1).setCell ⟨qb, 2, none⟩ a2).setCell ⟨qb, 3, none⟩ a3).setCell ⟨qb, 4, none⟩ a4).setCell ⟨qb, 5, none⟩ a5).setCell ⟨eb, 0, none⟩ (.int .i64 e')).setCell ⟨pb, 0, none⟩ (.int .i64 p')) qb eb pb #[a0, a1, a2, a3, a4, a5] e' p' := by
  obtain ⟨h1, h2, h3, h4, h5⟩ := h
  have g0 : (w.setCell ⟨qb, 0, none⟩ a0).heap[qb]? = some (.cells #[a0, b1, b2, b3, b4, b5] 32 (0, 0)) := heap_setCell_same _ qb 0 _ _ a0 h1
  have g1 : ((w.setCell ⟨qb, 0, none⟩ a0).setCell ⟨qb, 1, none⟩ a1).heap[qb]? = some (.cells #[a0, a1, b2, b3, b4, b5] 32 (0, 0)) := heap_setCell_same _ qb 1 _ _ a1 g0
  have g2 : (((w.setCell ⟨qb, 0, none⟩ a0).setCell ⟨qb, 1, none⟩ a1).setCell ⟨qb, 2, none⟩ a2).heap[qb]? = some (.cells #[a0, a1, a2, b3, b4, b5] 32 (0, 0)) := heap_setCell_same _ qb 2 _ _ a2 g1
  have g3 : ((((w.setCell ⟨qb, 0, none⟩ a0).setCell ⟨qb, 1, none⟩ a1).setCell ⟨qb, 2, none⟩ a2).setCell ⟨qb, 3, none⟩ a3).heap[qb]? = some (.cells #[a0, a1, a2, a3, b4, b5] 32 (0, 0)) := heap_setCell_same _ qb 3 _ _ a3 g2
  have g4 : (((((w.setCell ⟨qb, 0, none⟩ a0).setCell ⟨qb, 1, none⟩ a1).setCell ⟨qb, 2, none⟩ a2).setCell ⟨qb, 3, none⟩ a3).setCell ⟨qb, 4, none⟩ a4).heap[qb]? = some (.cells #[a0, a1, a2, a3, a4, b5] 32 (0, 0)) := heap_setCell_same _ qb 4 _ _ a4 g3
  have g5 : ((((((w.setCell ⟨qb, 0, none⟩ a0).setCell ⟨qb, 1, none⟩ a1).setCell ⟨qb, 2, none⟩ a2).setCell ⟨qb, 3, none⟩ a3).setCell ⟨qb, 4, none⟩ a4).setCell ⟨qb, 5, none⟩ a5).heap[qb]? = some (.cells #[a0, a1, a2, a3, a4, a5] 32 (0, 0)) := heap_setCell_same _ qb 5 _ _ a5 g4
  refine ⟨?_, ?_, ?_, h4, h5⟩
  · rw [heap_setCell_other _ ⟨pb, 0, none⟩ qb _ (by show qb ≠ pb; omega), heap_setCell_other _ ⟨eb, 0, none⟩ qb _ (by show qb ≠ eb; omega)]
    exact g5
  · rw [heap_setCell_other _ ⟨pb, 0, none⟩ eb _ (by show eb ≠ pb; omega)]
    refine heap_setCell_same _ eb 0 _ _ _ (show _ = some (Obj.cells #[.int .i64 e] 25 (0, 0)) from ?_)
    rw [heap_setCell_other _ ⟨qb, 5, none⟩ eb _ (by show eb ≠ qb; omega), heap_setCell_other _ ⟨qb, 4, none⟩ eb _ (by show eb ≠ qb; omega), heap_setCell_other _ ⟨qb, 3, none⟩ eb _ (by show eb ≠ qb; omega), heap_setCell_other _ ⟨qb, 2, none⟩ eb _ (by show eb ≠ qb; omega), heap_setCell_other _ ⟨qb, 1, none⟩ eb _ (by show eb ≠ qb; omega), heap_setCell_other _ ⟨qb, 0, none⟩ eb _ (by show eb ≠ qb; omega)]
    exact h2
  · refine heap_setCell_same _ pb 0 _ _ _ (show _ = some (Obj.cells #[.int .i64 p] 3 (0, 0)) from ?_)
    rw [heap_setCell_other _ ⟨eb, 0, none⟩ pb _ (by show pb ≠ eb; omega), heap_setCell_other _ ⟨qb, 5, none⟩ pb _ (by show pb ≠ qb; omega), heap_setCell_other _ ⟨qb, 4, none⟩ pb _ (by show pb ≠ qb; omega), heap_setCell_other _ ⟨qb, 3, none⟩ pb _ (by show pb ≠ qb; omega), heap_setCell_other _ ⟨qb, 2, none⟩ pb _ (by show pb ≠ qb; omega), heap_setCell_other _ ⟨qb, 1, none⟩ pb _ (by show pb ≠ qb; omega), heap_setCell_other _ ⟨qb, 0, none⟩ pb _ (by show pb ≠ qb; omega)]
    exact h3
theorem SE.o3 {w0 w : World} {qb eb pb : Nat} (h : Below w0.heap.size w0 w) (a0 a1 a2 a3 a4 a5 : Value) (e' p' : Int) : O3 qb eb pb w0 ((((((((w.setCell ⟨qb, 0, none⟩ a0).setCell ⟨qb, 1, none⟩ a1).setCell ⟨qb, 2, none⟩ a2).setCell ⟨qb, 3, none⟩ a3).setCell ⟨qb, 4, none⟩ a4).setCell ⟨qb, 5, none⟩ a5).setCell ⟨eb, 0, none⟩ (.int .i64 e')).setCell ⟨pb, 0, none⟩ (.int .i64 p')) := by
  have h0 : O3 qb eb pb w0 w := ⟨h.os, h.tape, h.output, h.size, fun k hk _ _ _ => h.block k hk⟩
  exact (((((((h0.set qb 0 a0 (Or.inl rfl)).set qb 1 a1 (Or.inl rfl)).set qb 2 a2 (Or.inl rfl)).set qb 3 a3 (Or.inl rfl)).set qb 4 a4 (Or.inl rfl)).set qb 5 a5 (Or.inl rfl)).set eb 0 _ (Or.inr (Or.inl rfl))).set pb 0 _ (Or.inr (Or.inr rfl))
set_option maxHeartbeats 1000000 in
theorem dstate_nil (ao : Option Addr) (cap rb most qb b off : Nat) (w : World) (h : RN w rb (.slice ao 0 cap) most) (hq : w.heap[qb]? = some (.cells (sxC sx0 (.slice none 0 0) (.slice none 0 0) (.slice none 0 0)) 32 (0, 0))) :
    Calls Try.prog 36 #[ir rb, .pointer (some ⟨qb, 0, none⟩)] w fun e w' => Ds rb b off cap [] most qb w e w' := by
  have hme := mr_key
  have hqlt := (Array.getElem?_eq_some_iff.1 hq).1
  have hrlt : rb < w.heap.size := (Array.getElem?_eq_some_iff.1 h).1
  obtain ⟨cb, hcbd⟩ : ∃ cb, w.heap.size = cb := ⟨_, rfl⟩
  obtain ⟨W, hW⟩ : ∃ W, w.alloc (.cells #[ir rb] 129) = W := ⟨_, rfl⟩
  have hB : Below w.heap.size w W := by rw [← hW]; exact (Below.refl _ _).alloc (Nat.le_refl _) _
  have HCB := hid (show W.cell? ⟨cb, 0, none⟩ = some (ir rb) by rw [← hW, ← hcbd, cell_of_row _ _ _ _ _ _ (heap_alloc_new w _)]; rfl)
  have HTw := hid (show Tb rb qb w W from ⟨hB.os, hB.tape, hB.output, hB.size, fun k hk _ _ => hB.block k hk⟩)
  have HK := hid (show Calls Try.prog 122 #[.pointer (some ⟨rb, 0, none⟩), .int .u8 84] W fun e w' => e = flt 3 0 ∧ w' = W from dkey_nil 84 ao cap rb most W ((hB.block rb hrlt).trans h))
  have HQ := hid (show W.heap[qb]? = some (.cells (sxC sx0 (.slice none 0 0) (.slice none 0 0) (.slice none 0 0)) 32 (0, 0)) from (hB.block qb hqlt).trans hq)
  have hcbk := HCB.out
  clear h hq hB
  go_enter Try.func36, Try.ntmps36
  go_wp2_with fail
  try rw [hW]
  refine Calls.mono HK.out ?_
  rintro e w1 ⟨rfl, rfl⟩
  have HF := hid (show Ds rb b off cap [] most qb w (flt 3 0) w1 from ⟨HTw.out, .inr ⟨by rw [fKs_nil]; decide, by rw [fKs_nil]; rfl, _, _, _, _, _, _, _, _, _, _, _, _, HQ.out⟩⟩)
  go_wp2_with fail
  exact ⟨rfl, HF.out⟩
set_option maxHeartbeats 4000000 in
theorem dS_nil (qb eb pb : Nat) (n0 : Int) (n1 : Int) (n2 : Int) (u1a : Option Addr) (u1n u1c : Nat) (u2a : Option Addr) (u2n u2c : Nat) (u3a : Option Addr) (u3n u3c : Nat) (e0 p0 : Int) (w : World) (h : SE w qb eb pb #[.int .i64 n0, .int .i64 n1, .int .i64 n2, .slice u1a u1n u1c, .slice u2a u2n u2c, .slice u3a u3n u3c] e0 p0) :
    CallsD Try.prog 45 #[.pointer (some ⟨qb, 0, none⟩), .pointer (some ⟨eb, 0, none⟩), .pointer (some ⟨pb, 0, none⟩)] .returning w fun e u' w' => e = .returned (.tuple #[]) ∧ u' = .returning ∧ SE w' qb eb pb #[.int .i64 n0, .int .i64 n1, .int .i64 n2, .slice u1a u1n u1c, .slice u2a u2n u2c, .slice u3a u3n u3c] 0 0 ∧ O3 qb eb pb w w' := by
  refine callsD_of_wpS Try.func45 rfl fun c₀ cs hu => ?_
  have c0 : w.cell? ⟨qb, 0, none⟩ = some (.int .i64 n0) := by rw [Lib.cell_of_heap h.1]; rfl
  have c1 : w.cell? ⟨qb, 1, none⟩ = some (.int .i64 n1) := by rw [Lib.cell_of_heap h.1]; rfl
  have c2 : w.cell? ⟨qb, 2, none⟩ = some (.int .i64 n2) := by rw [Lib.cell_of_heap h.1]; rfl
  have c3 : w.cell? ⟨qb, 3, none⟩ = some (.slice u1a u1n u1c) := by rw [Lib.cell_of_heap h.1]; rfl
  have c4 : w.cell? ⟨qb, 4, none⟩ = some (.slice u2a u2n u2c) := by rw [Lib.cell_of_heap h.1]; rfl
  have c5 : w.cell? ⟨qb, 5, none⟩ = some (.slice u3a u3n u3c) := by rw [Lib.cell_of_heap h.1]; rfl
  have HT := hid (fun w => toldS_nil n0 n1 n2 u1a u1n u1c u2a u2n u2c u3a u3n u3c w)
  have HE := hid h
  have h4 := h.2.2.2.1
  have h5 := h.2.2.2.2
  have k1 : ¬ eb = qb := by omega
  have k2 : ¬ pb = qb := by omega
  have k3 : ¬ pb = eb := by omega
  have k4 : ¬ qb = eb := by omega
  have k5 : ¬ qb = pb := by omega
  have k6 : ¬ eb = pb := by omega
  clear h
  refine wpS_region_any (by kernel_rfl) ?_
  refine wpAnyS_all (rs := [0, 1]) (by kernel_rfl) (by simp) ?_
  intro i hi
  simp only [List.mem_cons, List.not_mem_nil, or_false] at hi
  rcases hi with rfl | rfl
  · simp [wpOpS, go_sem, Try.ntmps45, c0, c1, c2, c3, c4, c5]
    refine wpAnyS_all (rs := [1]) (by kernel_rfl) (by simp) ?_
    intro i hi
    simp only [List.mem_cons, List.not_mem_nil, or_false] at hi
    subst hi
    simp [wpOpS, go_sem, recoverD, hu]
    refine wpAny_toS (by rintro ⟨_, _, u', he, _⟩; cases he) _ _ _ _ ?_
    refine wpAny_ready (rs := [2]) (by kernel_rfl) (by simp) ?_
    refine AllReady.cons rfl (fun K hK => ?_) AllReady.nil
    go_simp
    go_wp2_with fail
    refine (HT.out _).mono ?_
    rintro e w2 ⟨rfl, hb2⟩
    have HB2 := hid (show Below w.heap.size w w2 from (Below.refl w.heap.size w).drew.trans hb2)
    have HE2 := hid (HE.out.later HB2.out)
    clear hb2 c0 c1 c2 c3 c4 c5
    have c0 : w2.cell? ⟨qb, 0, none⟩ = some (.int .i64 n0) := by rw [Lib.cell_of_heap HE2.out.1]; rfl
    have f0 : w2.frozen? ⟨qb, 0, none⟩ = false := Lib.frozen_of_heap HE2.out.1 0
    have c1 : w2.cell? ⟨qb, 1, none⟩ = some (.int .i64 n1) := by rw [Lib.cell_of_heap HE2.out.1]; rfl
    have f1 : w2.frozen? ⟨qb, 1, none⟩ = false := Lib.frozen_of_heap HE2.out.1 1
    have c2 : w2.cell? ⟨qb, 2, none⟩ = some (.int .i64 n2) := by rw [Lib.cell_of_heap HE2.out.1]; rfl
    have f2 : w2.frozen? ⟨qb, 2, none⟩ = false := Lib.frozen_of_heap HE2.out.1 2
    have c3 : w2.cell? ⟨qb, 3, none⟩ = some (.slice u1a u1n u1c) := by rw [Lib.cell_of_heap HE2.out.1]; rfl
    have f3 : w2.frozen? ⟨qb, 3, none⟩ = false := Lib.frozen_of_heap HE2.out.1 3
    have c4 : w2.cell? ⟨qb, 4, none⟩ = some (.slice u2a u2n u2c) := by rw [Lib.cell_of_heap HE2.out.1]; rfl
    have f4 : w2.frozen? ⟨qb, 4, none⟩ = false := Lib.frozen_of_heap HE2.out.1 4
    have c5 : w2.cell? ⟨qb, 5, none⟩ = some (.slice u3a u3n u3c) := by rw [Lib.cell_of_heap HE2.out.1]; rfl
    have f5 : w2.frozen? ⟨qb, 5, none⟩ = false := Lib.frozen_of_heap HE2.out.1 5
    have d0 : w2.cell? ⟨eb, 0, none⟩ = some (.int .i64 e0) := by rw [Lib.cell_of_heap HE2.out.2.1]; rfl
    have d1 : w2.cell? ⟨pb, 0, none⟩ = some (.int .i64 p0) := by rw [Lib.cell_of_heap HE2.out.2.2.1]; rfl
    have fe : w2.frozen? ⟨eb, 0, none⟩ = false := Lib.frozen_of_heap HE2.out.2.1 0
    have fp : w2.frozen? ⟨pb, 0, none⟩ = false := Lib.frozen_of_heap HE2.out.2.2.1 0
    go_wp2_with fail
    refine wpAny_take (i := 3) (v := .tuple #[.agg #[.int .i64 n0, .int .i64 n1, .int .i64 n2, .slice u1a u1n u1c, .slice u2a u2n u2c, .slice u3a u3n u3c], .int .i64 0, .int .i64 0]) rfl (by kernel_rfl) (by kernel_rfl) (by kernel_rfl) (fun _ _ _ h => h) (Or.inl ⟨by rfl, by intro w; go_simp⟩) ?_
    refine wpAny_take (i := 4) (v := .agg #[.int .i64 n0, .int .i64 n1, .int .i64 n2, .slice u1a u1n u1c, .slice u2a u2n u2c, .slice u3a u3n u3c]) rfl (by kernel_rfl) (by kernel_rfl) (by kernel_rfl) (fun _ _ _ h => h) (Or.inl ⟨by rfl, by intro w; go_simp⟩) ?_
    refine wpAny_take (i := 5) (v := .int .i64 0) rfl (by kernel_rfl) (by kernel_rfl) (by kernel_rfl) (fun _ _ _ h => h) (Or.inl ⟨by rfl, by intro w; go_simp⟩) ?_
    refine wpAny_take (i := 6) (v := .int .i64 0) rfl (by kernel_rfl) (by kernel_rfl) (by kernel_rfl) (fun _ _ _ h => h) (Or.inl ⟨by rfl, by intro w; go_simp⟩) ?_
    refine wpAny_ready (rs := [7]) (by kernel_rfl) (by simp) ?_
    refine AllReady.cons rfl (fun K hK => ?_) AllReady.nil
    go_simp
    refine hK _ _ ?_
    clear hK K
    refine wpAny_ready (rs := [8]) (by kernel_rfl) (by simp) ?_
    refine AllReady.cons rfl (fun K hK => ?_) AllReady.nil
    go_simp
    refine hK _ _ ?_
    clear hK K
    refine wpAny_ready (rs := [9]) (by kernel_rfl) (by simp) ?_
    refine AllReady.cons rfl (fun K hK => ?_) AllReady.nil
    go_simp
    refine hK _ _ ?_
    clear hK K
    refine wpAny_done (by kernel_rfl) ?_ _
    exact ⟨rfl, .returning, by rw [← hu], _, results_none rfl _ _ _, rfl, rfl, HE2.out.put _ _ _ _ _ _ _ _, SE.o3 HB2.out _ _ _ _ _ _ _ _⟩
  · simp [wpOpS, go_sem, recoverD, hu, Try.ntmps45]
    refine wpAnyS_all (rs := [0]) (by kernel_rfl) (by simp) ?_
    intro i hi
    simp only [List.mem_cons, List.not_mem_nil, or_false] at hi
    subst hi
    simp [wpOpS, go_sem, c0, c1, c2, c3, c4, c5]
    refine wpAny_toS (by rintro ⟨_, _, u', he, _⟩; cases he) _ _ _ _ ?_
    refine wpAny_ready (rs := [2]) (by kernel_rfl) (by simp) ?_
    refine AllReady.cons rfl (fun K hK => ?_) AllReady.nil
    go_simp
    go_wp2_with fail
    refine (HT.out _).mono ?_
    rintro e w2 ⟨rfl, hb2⟩
    have HB2 := hid (show Below w.heap.size w w2 from (Below.refl w.heap.size w).drew.trans hb2)
    have HE2 := hid (HE.out.later HB2.out)
    clear hb2 c0 c1 c2 c3 c4 c5
    have c0 : w2.cell? ⟨qb, 0, none⟩ = some (.int .i64 n0) := by rw [Lib.cell_of_heap HE2.out.1]; rfl
    have f0 : w2.frozen? ⟨qb, 0, none⟩ = false := Lib.frozen_of_heap HE2.out.1 0
    have c1 : w2.cell? ⟨qb, 1, none⟩ = some (.int .i64 n1) := by rw [Lib.cell_of_heap HE2.out.1]; rfl
    have f1 : w2.frozen? ⟨qb, 1, none⟩ = false := Lib.frozen_of_heap HE2.out.1 1
    have c2 : w2.cell? ⟨qb, 2, none⟩ = some (.int .i64 n2) := by rw [Lib.cell_of_heap HE2.out.1]; rfl
    have f2 : w2.frozen? ⟨qb, 2, none⟩ = false := Lib.frozen_of_heap HE2.out.1 2
    have c3 : w2.cell? ⟨qb, 3, none⟩ = some (.slice u1a u1n u1c) := by rw [Lib.cell_of_heap HE2.out.1]; rfl
    have f3 : w2.frozen? ⟨qb, 3, none⟩ = false := Lib.frozen_of_heap HE2.out.1 3
    have c4 : w2.cell? ⟨qb, 4, none⟩ = some (.slice u2a u2n u2c) := by rw [Lib.cell_of_heap HE2.out.1]; rfl
    have f4 : w2.frozen? ⟨qb, 4, none⟩ = false := Lib.frozen_of_heap HE2.out.1 4
    have c5 : w2.cell? ⟨qb, 5, none⟩ = some (.slice u3a u3n u3c) := by rw [Lib.cell_of_heap HE2.out.1]; rfl
    have f5 : w2.frozen? ⟨qb, 5, none⟩ = false := Lib.frozen_of_heap HE2.out.1 5
    have d0 : w2.cell? ⟨eb, 0, none⟩ = some (.int .i64 e0) := by rw [Lib.cell_of_heap HE2.out.2.1]; rfl
    have d1 : w2.cell? ⟨pb, 0, none⟩ = some (.int .i64 p0) := by rw [Lib.cell_of_heap HE2.out.2.2.1]; rfl
    have fe : w2.frozen? ⟨eb, 0, none⟩ = false := Lib.frozen_of_heap HE2.out.2.1 0
    have fp : w2.frozen? ⟨pb, 0, none⟩ = false := Lib.frozen_of_heap HE2.out.2.2.1 0
    go_wp2_with fail
    refine wpAny_take (i := 3) (v := .tuple #[.agg #[.int .i64 n0, .int .i64 n1, .int .i64 n2, .slice u1a u1n u1c, .slice u2a u2n u2c, .slice u3a u3n u3c], .int .i64 0, .int .i64 0]) rfl (by kernel_rfl) (by kernel_rfl) (by kernel_rfl) (fun _ _ _ h => h) (Or.inl ⟨by rfl, by intro w; go_simp⟩) ?_
    refine wpAny_take (i := 4) (v := .agg #[.int .i64 n0, .int .i64 n1, .int .i64 n2, .slice u1a u1n u1c, .slice u2a u2n u2c, .slice u3a u3n u3c]) rfl (by kernel_rfl) (by kernel_rfl) (by kernel_rfl) (fun _ _ _ h => h) (Or.inl ⟨by rfl, by intro w; go_simp⟩) ?_
    refine wpAny_take (i := 5) (v := .int .i64 0) rfl (by kernel_rfl) (by kernel_rfl) (by kernel_rfl) (fun _ _ _ h => h) (Or.inl ⟨by rfl, by intro w; go_simp⟩) ?_
    refine wpAny_take (i := 6) (v := .int .i64 0) rfl (by kernel_rfl) (by kernel_rfl) (by kernel_rfl) (fun _ _ _ h => h) (Or.inl ⟨by rfl, by intro w; go_simp⟩) ?_
    refine wpAny_ready (rs := [7]) (by kernel_rfl) (by simp) ?_
    refine AllReady.cons rfl (fun K hK => ?_) AllReady.nil
    go_simp
    refine hK _ _ ?_
    clear hK K
    refine wpAny_ready (rs := [8]) (by kernel_rfl) (by simp) ?_
    refine AllReady.cons rfl (fun K hK => ?_) AllReady.nil
    go_simp
    refine hK _ _ ?_
    clear hK K
    refine wpAny_ready (rs := [9]) (by kernel_rfl) (by simp) ?_
    refine AllReady.cons rfl (fun K hK => ?_) AllReady.nil
    go_simp
    refine hK _ _ ?_
    clear hK K
    refine wpAny_done (by kernel_rfl) ?_ _
    exact ⟨rfl, .returning, by rw [← hu], _, results_none rfl _ _ _, rfl, rfl, HE2.out.put _ _ _ _ _ _ _ _, SE.o3 HB2.out _ _ _ _ _ _ _ _⟩
set_option maxHeartbeats 4000000 in
theorem dS_flt (qb eb pb : Nat) (n0 : Int) (n1 : Int) (n2 : Int) (u1a : Option Addr) (u1n u1c : Nat) (u2a : Option Addr) (u2n u2c : Nat) (u3a : Option Addr) (u3n u3c : Nat) (e0 p0 k p : Int) (older : List PanicEntry) (w : World) (h : SE w qb eb pb #[.int .i64 n0, .int .i64 n1, .int .i64 n2, .slice u1a u1n u1c, .slice u2a u2n u2c, .slice u3a u3n u3c] e0 p0) :
    CallsD Try.prog 45 #[.pointer (some ⟨qb, 0, none⟩), .pointer (some ⟨eb, 0, none⟩), .pointer (some ⟨pb, 0, none⟩)] (.panicking ({ v := .iface 127 (.agg #[.int .i64 k, .int .i64 p]), recovered := false } :: older)) w fun e u' w' => e = .returned (.tuple #[]) ∧ u' = .panicking ({ v := .iface 127 (.agg #[.int .i64 k, .int .i64 p]), recovered := true } :: older) ∧ SE w' qb eb pb #[.int .i64 0, .int .i64 0, .int .i64 0, .slice none 0 0, .slice none 0 0, .slice none 0 0] k p ∧ O3 qb eb pb w w' := by
  refine callsD_of_wpS Try.func45 rfl fun c₀ cs hu => ?_
  have c0 : w.cell? ⟨qb, 0, none⟩ = some (.int .i64 n0) := by rw [Lib.cell_of_heap h.1]; rfl
  have c1 : w.cell? ⟨qb, 1, none⟩ = some (.int .i64 n1) := by rw [Lib.cell_of_heap h.1]; rfl
  have c2 : w.cell? ⟨qb, 2, none⟩ = some (.int .i64 n2) := by rw [Lib.cell_of_heap h.1]; rfl
  have c3 : w.cell? ⟨qb, 3, none⟩ = some (.slice u1a u1n u1c) := by rw [Lib.cell_of_heap h.1]; rfl
  have c4 : w.cell? ⟨qb, 4, none⟩ = some (.slice u2a u2n u2c) := by rw [Lib.cell_of_heap h.1]; rfl
  have c5 : w.cell? ⟨qb, 5, none⟩ = some (.slice u3a u3n u3c) := by rw [Lib.cell_of_heap h.1]; rfl
  have HT := hid (fun w => toldS_flt n0 n1 n2 u1a u1n u1c u2a u2n u2c u3a u3n u3c k p w)
  have HE := hid h
  have h4 := h.2.2.2.1
  have h5 := h.2.2.2.2
  have k1 : ¬ eb = qb := by omega
  have k2 : ¬ pb = qb := by omega
  have k3 : ¬ pb = eb := by omega
  have k4 : ¬ qb = eb := by omega
  have k5 : ¬ qb = pb := by omega
  have k6 : ¬ eb = pb := by omega
  clear h
  refine wpS_region_any (by kernel_rfl) ?_
  refine wpAnyS_all (rs := [0, 1]) (by kernel_rfl) (by simp) ?_
  intro i hi
  simp only [List.mem_cons, List.not_mem_nil, or_false] at hi
  rcases hi with rfl | rfl
  · simp [wpOpS, go_sem, Try.ntmps45, c0, c1, c2, c3, c4, c5]
    refine wpAnyS_all (rs := [1]) (by kernel_rfl) (by simp) ?_
    intro i hi
    simp only [List.mem_cons, List.not_mem_nil, or_false] at hi
    subst hi
    simp [wpOpS, go_sem, recoverD, hu]
    refine wpAny_toS (by rintro ⟨_, _, u', he, _⟩; cases he) _ _ _ _ ?_
    refine wpAny_ready (rs := [2]) (by kernel_rfl) (by simp) ?_
    refine AllReady.cons rfl (fun K hK => ?_) AllReady.nil
    go_simp
    go_wp2_with fail
    refine (HT.out _).mono ?_
    rintro e w2 ⟨rfl, hb2⟩
    have HB2 := hid (show Below w.heap.size w w2 from (Below.refl w.heap.size w).drew.trans hb2)
    have HE2 := hid (HE.out.later HB2.out)
    clear hb2 c0 c1 c2 c3 c4 c5
    have c0 : w2.cell? ⟨qb, 0, none⟩ = some (.int .i64 n0) := by rw [Lib.cell_of_heap HE2.out.1]; rfl
    have f0 : w2.frozen? ⟨qb, 0, none⟩ = false := Lib.frozen_of_heap HE2.out.1 0
    have c1 : w2.cell? ⟨qb, 1, none⟩ = some (.int .i64 n1) := by rw [Lib.cell_of_heap HE2.out.1]; rfl
    have f1 : w2.frozen? ⟨qb, 1, none⟩ = false := Lib.frozen_of_heap HE2.out.1 1
    have c2 : w2.cell? ⟨qb, 2, none⟩ = some (.int .i64 n2) := by rw [Lib.cell_of_heap HE2.out.1]; rfl
    have f2 : w2.frozen? ⟨qb, 2, none⟩ = false := Lib.frozen_of_heap HE2.out.1 2
    have c3 : w2.cell? ⟨qb, 3, none⟩ = some (.slice u1a u1n u1c) := by rw [Lib.cell_of_heap HE2.out.1]; rfl
    have f3 : w2.frozen? ⟨qb, 3, none⟩ = false := Lib.frozen_of_heap HE2.out.1 3
    have c4 : w2.cell? ⟨qb, 4, none⟩ = some (.slice u2a u2n u2c) := by rw [Lib.cell_of_heap HE2.out.1]; rfl
    have f4 : w2.frozen? ⟨qb, 4, none⟩ = false := Lib.frozen_of_heap HE2.out.1 4
    have c5 : w2.cell? ⟨qb, 5, none⟩ = some (.slice u3a u3n u3c) := by rw [Lib.cell_of_heap HE2.out.1]; rfl
    have f5 : w2.frozen? ⟨qb, 5, none⟩ = false := Lib.frozen_of_heap HE2.out.1 5
    have d0 : w2.cell? ⟨eb, 0, none⟩ = some (.int .i64 e0) := by rw [Lib.cell_of_heap HE2.out.2.1]; rfl
    have d1 : w2.cell? ⟨pb, 0, none⟩ = some (.int .i64 p0) := by rw [Lib.cell_of_heap HE2.out.2.2.1]; rfl
    have fe : w2.frozen? ⟨eb, 0, none⟩ = false := Lib.frozen_of_heap HE2.out.2.1 0
    have fp : w2.frozen? ⟨pb, 0, none⟩ = false := Lib.frozen_of_heap HE2.out.2.2.1 0
    go_wp2_with fail
    refine wpAny_take (i := 3) (v := .tuple #[.agg #[.int .i64 0, .int .i64 0, .int .i64 0, .slice none 0 0, .slice none 0 0, .slice none 0 0], .int .i64 k, .int .i64 p]) rfl (by kernel_rfl) (by kernel_rfl) (by kernel_rfl) (fun _ _ _ h => h) (Or.inl ⟨by rfl, by intro w; go_simp⟩) ?_
    refine wpAny_take (i := 4) (v := .agg #[.int .i64 0, .int .i64 0, .int .i64 0, .slice none 0 0, .slice none 0 0, .slice none 0 0]) rfl (by kernel_rfl) (by kernel_rfl) (by kernel_rfl) (fun _ _ _ h => h) (Or.inl ⟨by rfl, by intro w; go_simp⟩) ?_
    refine wpAny_take (i := 5) (v := .int .i64 k) rfl (by kernel_rfl) (by kernel_rfl) (by kernel_rfl) (fun _ _ _ h => h) (Or.inl ⟨by rfl, by intro w; go_simp⟩) ?_
    refine wpAny_take (i := 6) (v := .int .i64 p) rfl (by kernel_rfl) (by kernel_rfl) (by kernel_rfl) (fun _ _ _ h => h) (Or.inl ⟨by rfl, by intro w; go_simp⟩) ?_
    refine wpAny_ready (rs := [7]) (by kernel_rfl) (by simp) ?_
    refine AllReady.cons rfl (fun K hK => ?_) AllReady.nil
    go_simp
    refine hK _ _ ?_
    clear hK K
    refine wpAny_ready (rs := [8]) (by kernel_rfl) (by simp) ?_
    refine AllReady.cons rfl (fun K hK => ?_) AllReady.nil
    go_simp
    refine hK _ _ ?_
    clear hK K
    refine wpAny_ready (rs := [9]) (by kernel_rfl) (by simp) ?_
    refine AllReady.cons rfl (fun K hK => ?_) AllReady.nil
    go_simp
    refine hK _ _ ?_
    clear hK K
    refine wpAny_done (by kernel_rfl) ?_ _
    exact ⟨rfl, _, rfl, _, results_none rfl _ _ _, rfl, rfl, HE2.out.put _ _ _ _ _ _ _ _, SE.o3 HB2.out _ _ _ _ _ _ _ _⟩
  · simp [wpOpS, go_sem, recoverD, hu, Try.ntmps45]
    refine wpAnyS_all (rs := [0]) (by kernel_rfl) (by simp) ?_
    intro i hi
    simp only [List.mem_cons, List.not_mem_nil, or_false] at hi
    subst hi
    simp [wpOpS, go_sem, c0, c1, c2, c3, c4, c5]
    refine wpAny_toS (by rintro ⟨_, _, u', he, _⟩; cases he) _ _ _ _ ?_
    refine wpAny_ready (rs := [2]) (by kernel_rfl) (by simp) ?_
    refine AllReady.cons rfl (fun K hK => ?_) AllReady.nil
    go_simp
    go_wp2_with fail
    refine (HT.out _).mono ?_
    rintro e w2 ⟨rfl, hb2⟩
    have HB2 := hid (show Below w.heap.size w w2 from (Below.refl w.heap.size w).drew.trans hb2)
    have HE2 := hid (HE.out.later HB2.out)
    clear hb2 c0 c1 c2 c3 c4 c5
    have c0 : w2.cell? ⟨qb, 0, none⟩ = some (.int .i64 n0) := by rw [Lib.cell_of_heap HE2.out.1]; rfl
    have f0 : w2.frozen? ⟨qb, 0, none⟩ = false := Lib.frozen_of_heap HE2.out.1 0
    have c1 : w2.cell? ⟨qb, 1, none⟩ = some (.int .i64 n1) := by rw [Lib.cell_of_heap HE2.out.1]; rfl
    have f1 : w2.frozen? ⟨qb, 1, none⟩ = false := Lib.frozen_of_heap HE2.out.1 1
    have c2 : w2.cell? ⟨qb, 2, none⟩ = some (.int .i64 n2) := by rw [Lib.cell_of_heap HE2.out.1]; rfl
    have f2 : w2.frozen? ⟨qb, 2, none⟩ = false := Lib.frozen_of_heap HE2.out.1 2
    have c3 : w2.cell? ⟨qb, 3, none⟩ = some (.slice u1a u1n u1c) := by rw [Lib.cell_of_heap HE2.out.1]; rfl
    have f3 : w2.frozen? ⟨qb, 3, none⟩ = false := Lib.frozen_of_heap HE2.out.1 3
    have c4 : w2.cell? ⟨qb, 4, none⟩ = some (.slice u2a u2n u2c) := by rw [Lib.cell_of_heap HE2.out.1]; rfl
    have f4 : w2.frozen? ⟨qb, 4, none⟩ = false := Lib.frozen_of_heap HE2.out.1 4
    have c5 : w2.cell? ⟨qb, 5, none⟩ = some (.slice u3a u3n u3c) := by rw [Lib.cell_of_heap HE2.out.1]; rfl
    have f5 : w2.frozen? ⟨qb, 5, none⟩ = false := Lib.frozen_of_heap HE2.out.1 5
    have d0 : w2.cell? ⟨eb, 0, none⟩ = some (.int .i64 e0) := by rw [Lib.cell_of_heap HE2.out.2.1]; rfl
    have d1 : w2.cell? ⟨pb, 0, none⟩ = some (.int .i64 p0) := by rw [Lib.cell_of_heap HE2.out.2.2.1]; rfl
    have fe : w2.frozen? ⟨eb, 0, none⟩ = false := Lib.frozen_of_heap HE2.out.2.1 0
    have fp : w2.frozen? ⟨pb, 0, none⟩ = false := Lib.frozen_of_heap HE2.out.2.2.1 0
    go_wp2_with fail
    refine wpAny_take (i := 3) (v := .tuple #[.agg #[.int .i64 0, .int .i64 0, .int .i64 0, .slice none 0 0, .slice none 0 0, .slice none 0 0], .int .i64 k, .int .i64 p]) rfl (by kernel_rfl) (by kernel_rfl) (by kernel_rfl) (fun _ _ _ h => h) (Or.inl ⟨by rfl, by intro w; go_simp⟩) ?_
    refine wpAny_take (i := 4) (v := .agg #[.int .i64 0, .int .i64 0, .int .i64 0, .slice none 0 0, .slice none 0 0, .slice none 0 0]) rfl (by kernel_rfl) (by kernel_rfl) (by kernel_rfl) (fun _ _ _ h => h) (Or.inl ⟨by rfl, by intro w; go_simp⟩) ?_
    refine wpAny_take (i := 5) (v := .int .i64 k) rfl (by kernel_rfl) (by kernel_rfl) (by kernel_rfl) (fun _ _ _ h => h) (Or.inl ⟨by rfl, by intro w; go_simp⟩) ?_
    refine wpAny_take (i := 6) (v := .int .i64 p) rfl (by kernel_rfl) (by kernel_rfl) (by kernel_rfl) (fun _ _ _ h => h) (Or.inl ⟨by rfl, by intro w; go_simp⟩) ?_
    refine wpAny_ready (rs := [7]) (by kernel_rfl) (by simp) ?_
    refine AllReady.cons rfl (fun K hK => ?_) AllReady.nil
    go_simp
    refine hK _ _ ?_
    clear hK K
    refine wpAny_ready (rs := [8]) (by kernel_rfl) (by simp) ?_
    refine AllReady.cons rfl (fun K hK => ?_) AllReady.nil
    go_simp
    refine hK _ _ ?_
    clear hK K
    refine wpAny_ready (rs := [9]) (by kernel_rfl) (by simp) ?_
    refine AllReady.cons rfl (fun K hK => ?_) AllReady.nil
    go_simp
    refine hK _ _ ?_
    clear hK K
    refine wpAny_done (by kernel_rfl) ?_ _
    exact ⟨rfl, _, rfl, _, results_none rfl _ _ _, rfl, rfl, HE2.out.put _ _ _ _ _ _ _ _, SE.o3 HB2.out _ _ _ _ _ _ _ _⟩
end Go.Proofs.Ytfhicemfhkhjaab

namespace Go.Proofs.Ytfhicemfhkhjaab
open Go.RowKit
set_option maxRecDepth 100000

/-- what the bytes l are read as: the error, its place, the state -/
def rss (l : List UInt8) : Nat × Nat × Sx :=
  if 131072 < l.length then (1, 0, sx0)
  else if (fKs l 131072).1 ≠ 0 then ((fKs l 131072).1, (fKs l 131072).2.1, sx0)
  else if (fKs l 131072).2.1 < l.length then (4, (fKs l 131072).2.1, sx0)
  else (0, 0, (fKs l 131072).2.2)
/-- a state's lists in rows of the call's own -/
def OS (w : World) (base : Nat) (v1 v2 v3 : Value) (s : Sx) : Prop := OLv w base v1 s.levels ∧ OHl w base v2 s.holds ∧ ODn w base v3 s.done
/-- what State answers -/
def Rds (l : List UInt8) (w : World) (e : Ending) (w' : World) : Prop :=
  ∃ v1 v2 v3, e = .returned (.tuple #[.agg (sxC (rss l).2.2 v1 v2 v3), .int .i64 ((rss l).1 : Int), .int .i64 ((rss l).2.1 : Int)]) ∧ OS w' w.heap.size v1 v2 v3 (rss l).2.2 ∧ Below w.heap.size w w'
theorem Rds.no {l : List UInt8} {k p : Nat} {w w' : World} (h : rss l = (k, p, sx0)) (hb : Below w.heap.size w w') : Rds l w (.returned (.tuple #[.agg #[.int .i64 0, .int .i64 0, .int .i64 0, .slice none 0 0, .slice none 0 0, .slice none 0 0], .int .i64 (k : Int), .int .i64 (p : Int)])) w' :=
  ⟨.slice none 0 0, .slice none 0 0, .slice none 0 0, by rw [h]; rfl, by rw [h]; exact ⟨World.ownsRow_nil _ _ _ _, ⟨[], rfl, World.ownsRow_nil _ _ _ _, fun m hm => absurd hm (Nat.not_lt_zero m)⟩, [], rfl, World.ownsRow_nil _ _ _ _, fun m hm => absurd hm (Nat.not_lt_zero m)⟩, hb⟩
theorem Rds.yes {l : List UInt8} {r : Sx} {v1 v2 v3 : Value} {w w' : World} (h : rss l = (0, 0, r)) (ho : OS w' w.heap.size v1 v2 v3 r) (hb : Below w.heap.size w w') : Rds l w (.returned (.tuple #[.agg #[.int .i64 r.room, .int .i64 r.lsn, .int .i64 r.now, v1, v2, v3], .int .i64 0, .int .i64 0])) w' :=
  ⟨v1, v2, v3, by rw [h]; rfl, by rw [h]; exact ho, hb⟩
theorem O3.ownS {a b c base : Nat} {w w' : World} {v1 v2 v3 : Value} {s : Sx} (h : O3 a b c w w') (ho : OS w base v1 v2 v3 s) (ha : a < base) (hb : b < base) (hc : c < base) : OS w' base v1 v2 v3 s :=
  have hk : ∀ k, base ≤ k → k < w.heap.size → w'.heap[k]? = w.heap[k]? := fun k h1 h2 => h.2.2.2.2 k h2 (by omega) (by omega) (by omega)
  ⟨ho.1.keep hk, ho.2.1.old hk, ho.2.2.old hk⟩
theorem OS.lower {w : World} {B B' : Nat} {v1 v2 v3 : Value} {s : Sx} (h : OS w B v1 v2 v3 s) (hb : B' ≤ B) : OS w B' v1 v2 v3 s := ⟨row_lower h.1 hb, h.2.1.lower hb, h.2.2.lower hb⟩
set_option maxHeartbeats 4000000 in
theorem state_any (l : List UInt8) (v : Value) (w : World) (hr : Reads w v l) :
    Calls Try.prog 15 #[v] w fun e w' => Rds l w e w' := by
  have hmf : ∀ (fn : Fn) (first cap : Array Value) (w : World), (Instr.makeFunc fn first cap).run Try.prog w = .ok (.func fn first cap) w := fun _ _ _ _ => rfl
  obtain ⟨W1, hW1⟩ : ∃ W1, w.alloc (.cells #[.int .i64 0, .int .i64 0, .int .i64 0, .slice none 0 0, .slice none 0 0, .slice none 0 0] 32) = W1 := ⟨_, rfl⟩
  obtain ⟨W2, hW2⟩ : ∃ W2, W1.alloc (.cells #[.int .i64 0] 25) = W2 := ⟨_, rfl⟩
  obtain ⟨W3, hW3⟩ : ∃ W3, W2.alloc (.cells #[.int .i64 0] 3) = W3 := ⟨_, rfl⟩
  have z1 : W1.heap.size = w.heap.size + 1 := by rw [← hW1, World.size_alloc]
  have z2 : W2.heap.size = w.heap.size + 2 := by rw [← hW2, World.size_alloc, z1]
  have z3 : W3.heap.size = w.heap.size + 3 := by rw [← hW3, World.size_alloc, z2]
  have hb1 : Below w.heap.size w W1 := by rw [← hW1]; exact (Below.refl _ _).alloc (Nat.le_refl _) _
  have hb2 : Below W1.heap.size W1 W2 := by rw [← hW2]; exact (Below.refl _ _).alloc (Nat.le_refl _) _
  have hb3 : Below W2.heap.size W2 W3 := by rw [← hW3]; exact (Below.refl _ _).alloc (Nat.le_refl _) _
  have b13 : Below W1.heap.size W1 W3 := hb2.trans (hb3.mono (by omega))
  have b03 : Below w.heap.size w W3 := hb1.trans (b13.mono (by omega))
  have HE := hid (show SE W3 w.heap.size (w.heap.size + 1) (w.heap.size + 2) #[.int .i64 0, .int .i64 0, .int .i64 0, .slice none 0 0, .slice none 0 0, .slice none 0 0] 0 0 from ⟨(b13.block _ (by omega)).trans (by rw [← hW1]; exact heap_alloc_new w _), (hb3.block _ (by omega)).trans (by rw [← hW2, ← z1]; exact heap_alloc_new W1 _), by rw [← hW3, ← z2]; exact heap_alloc_new W2 _, by omega, by omega⟩)
  have HB := hid b03
  have HR := hid (hr.below b03)
  have HN := hid (dnew_any v l 131072 W3 HR.out)
  have hwb : ∀ b off c, v = .slice (some ⟨b, off, none⟩) l.length c → 0 < l.length → b < w.heap.size := fun b off c hv h0 => by
    rcases hr with ⟨h1, _⟩ | ⟨b', off', c', h1, h2, h3⟩
    · rw [h1] at h0; exact absurd h0 (by simp)
    · rw [h1] at hv; injection hv with hv; injection hv with hv; injection hv with hv; subst hv; exact World.block_lt_of_cell? _ _ (h3 0 h0)
  have HHR := hid hr
  clear hb1 hb2 hb3 b13 b03 hr
  obtain ⟨aov, capv, rfl⟩ := HHR.out.form
  go_enter_defers Try.func15, Try.ntmps15
  go_wp2_with fail
  refine Calls.mono HN.out ?_
  rintro e w4 (⟨hle, rfl, hw4⟩ | ⟨hle, rfl, rfl⟩)
  rotate_left
  · clear HN
    go_wp2_with fail
    refine leaves_cons (f := 45) (args := #[.pointer (some ⟨w.heap.size, 0, none⟩), .pointer (some ⟨w.heap.size + 1, 0, none⟩), .pointer (some ⟨w.heap.size + 2, 0, none⟩)]) (by simp) (by simp [go_sem]) ?_
    refine (dS_flt w.heap.size (w.heap.size + 1) (w.heap.size + 2) _ _ _ _ _ _ _ _ _ _ _ _ 0 0 (1 : Nat) (0 : Nat) [] _ HE.out).mono ?_
    rintro e u' w9 ⟨rfl, rfl, hqe, ho3⟩
    have q0 : w9.cell? ⟨w.heap.size, 0, none⟩ = some (.int .i64 0) := by rw [Lib.cell_of_heap hqe.1]; rfl
    have q1 : w9.cell? ⟨w.heap.size, 1, none⟩ = some (.int .i64 0) := by rw [Lib.cell_of_heap hqe.1]; rfl
    have q2 : w9.cell? ⟨w.heap.size, 2, none⟩ = some (.int .i64 0) := by rw [Lib.cell_of_heap hqe.1]; rfl
    have q3 : w9.cell? ⟨w.heap.size, 3, none⟩ = some (.slice none 0 0) := by rw [Lib.cell_of_heap hqe.1]; rfl
    have q4 : w9.cell? ⟨w.heap.size, 4, none⟩ = some (.slice none 0 0) := by rw [Lib.cell_of_heap hqe.1]; rfl
    have q5 : w9.cell? ⟨w.heap.size, 5, none⟩ = some (.slice none 0 0) := by rw [Lib.cell_of_heap hqe.1]; rfl
    have q6 : w9.cell? ⟨w.heap.size + 1, 0, none⟩ = some (.int .i64 ((1 : Nat))) := by rw [Lib.cell_of_heap hqe.2.1]; rfl
    have q7 : w9.cell? ⟨w.heap.size + 2, 0, none⟩ = some (.int .i64 ((0 : Nat))) := by rw [Lib.cell_of_heap hqe.2.2.1]; rfl
    have HW := hid (Rds.no (l := l) (k := (1 : Nat)) (p := (0 : Nat)) (if_pos hle) (HB.out.trans (ho3.below (Nat.le_refl _) (by omega) (by omega) HB.out.size)))
    clear hqe ho3
    simp [Leaves, settle, results, Try.results15, go_sem, q0, q1, q2, q3, q4, q5, q6, q7]
    exact HW.out

  have z4 : w4.heap.size = w.heap.size + 4 := by rw [hw4, World.size_alloc, z3]
  have hb4 : Below W3.heap.size W3 w4 := by rw [hw4]; exact (Below.refl _ _).alloc (Nat.le_refl _) _
  have HE4 := hid (HE.out.later hb4)
  have HB4 := hid (HB.out.trans (hb4.mono (by omega)))
  have hRN : RN w4 (w.heap.size + 3) (.slice aov l.length capv) 131072 := by unfold RN; rw [hw4, ← z3]; exact heap_alloc_new W3 _
  obtain ⟨bb, off, cap, HQ⟩ : ∃ bb off cap, Hid (Calls Try.prog 36 #[ir (w.heap.size + 3), .pointer (some ⟨w.heap.size, 0, none⟩)] w4 fun e w' => Ds (w.heap.size + 3) bb off cap l 131072 w.heap.size w4 e w') := by
    by_cases h0 : 0 < l.length
    · obtain ⟨b, off, cap, hv, hc, hbs⟩ := (HR.out.below hb4).resolve_left (fun e => by rw [e.1] at h0; exact absurd h0 (by simp))
      have hbw := hwb b off cap hv h0
      injection hv with hv1 hv2 hv3
      subst hv1; subst hv3
      exact ⟨b, off, capv, hid (dstate_any w.heap.size (w.heap.size + 3) b off capv 131072 l w4 hRN hc h0 (by omega) hbs (by omega) (by omega) HE4.out.1 ⟨by omega, by omega⟩)⟩
    · obtain rfl : l = [] := List.eq_nil_of_length_eq_zero (by omega)
      exact ⟨0, 0, capv, hid (dstate_nil aov capv (w.heap.size + 3) 131072 w.heap.size 0 0 w4 hRN HE4.out.1)⟩
  have HZ := hid z4
  clear hRN hw4 hb4 HE HB HN HR HHR
  rw [z3]
  go_wp2_with fail
  refine Calls.mono HQ.out ?_
  rintro e w5 ⟨ht, ⟨he, rfl, hr5, u1, u2, u3, hq5, ho5⟩ | ⟨he, rfl, n0, n1, n2, a1, m1, c1, a2, m2, c2, a3, m3, c3, hq5⟩⟩
  rotate_left
  · have HE := hid (show SE w5 w.heap.size (w.heap.size + 1) (w.heap.size + 2) #[.int .i64 n0, .int .i64 n1, .int .i64 n2, .slice a1 m1 c1, .slice a2 m2 c2, .slice a3 m3 c3] 0 0 from ⟨hq5, (ht.block _ (by omega) (by omega) (by omega)).trans HE4.out.2.1, (ht.block _ (by omega) (by omega) (by omega)).trans HE4.out.2.2.1, by omega, by omega⟩)
    have HB := hid (HB4.out.trans (ht.lower (show w.heap.size ≤ _ by omega) (Nat.le_refl _) (by omega)))
    clear ht hq5
    go_wp2_with fail
    refine leaves_cons (f := 45) (args := #[.pointer (some ⟨w.heap.size, 0, none⟩), .pointer (some ⟨w.heap.size + 1, 0, none⟩), .pointer (some ⟨w.heap.size + 2, 0, none⟩)]) (by simp) (by simp [go_sem]) ?_
    refine (dS_flt w.heap.size (w.heap.size + 1) (w.heap.size + 2) _ _ _ _ _ _ _ _ _ _ _ _ 0 0 ((fKs l 131072).1 : Nat) ((fKs l 131072).2.1 : Nat) [] _ HE.out).mono ?_
    rintro e u' w9 ⟨rfl, rfl, hqe, ho3⟩
    have q0 : w9.cell? ⟨w.heap.size, 0, none⟩ = some (.int .i64 0) := by rw [Lib.cell_of_heap hqe.1]; rfl
    have q1 : w9.cell? ⟨w.heap.size, 1, none⟩ = some (.int .i64 0) := by rw [Lib.cell_of_heap hqe.1]; rfl
    have q2 : w9.cell? ⟨w.heap.size, 2, none⟩ = some (.int .i64 0) := by rw [Lib.cell_of_heap hqe.1]; rfl
    have q3 : w9.cell? ⟨w.heap.size, 3, none⟩ = some (.slice none 0 0) := by rw [Lib.cell_of_heap hqe.1]; rfl
    have q4 : w9.cell? ⟨w.heap.size, 4, none⟩ = some (.slice none 0 0) := by rw [Lib.cell_of_heap hqe.1]; rfl
    have q5 : w9.cell? ⟨w.heap.size, 5, none⟩ = some (.slice none 0 0) := by rw [Lib.cell_of_heap hqe.1]; rfl
    have q6 : w9.cell? ⟨w.heap.size + 1, 0, none⟩ = some (.int .i64 (((fKs l 131072).1 : Nat))) := by rw [Lib.cell_of_heap hqe.2.1]; rfl
    have q7 : w9.cell? ⟨w.heap.size + 2, 0, none⟩ = some (.int .i64 (((fKs l 131072).2.1 : Nat))) := by rw [Lib.cell_of_heap hqe.2.2.1]; rfl
    have HW := hid (Rds.no (l := l) (k := ((fKs l 131072).1 : Nat)) (p := ((fKs l 131072).2.1 : Nat)) ((if_neg (by omega)).trans (if_pos he)) (HB.out.trans (ho3.below (Nat.le_refl _) (by omega) (by omega) HB.out.size)))
    clear hqe ho3
    simp [Leaves, settle, results, Try.results15, go_sem, q0, q1, q2, q3, q4, q5, q6, q7]
    exact HW.out

  obtain ⟨y1, z1, t1, rfl⟩ := ho5.1.form
  obtain ⟨y2, z2, t2, rfl⟩ := ho5.2.1.form
  obtain ⟨y3, z3, t3, rfl⟩ := ho5.2.2.form
  obtain ⟨r9, h9⟩ : ∃ r, (fKs l 131072).2.2 = r := ⟨_, rfl⟩
  rw [h9] at hq5 ho5
  have HE := hid (show SE w5 w.heap.size (w.heap.size + 1) (w.heap.size + 2) #[.int .i64 r9.room, .int .i64 r9.lsn, .int .i64 r9.now, .slice y1 z1 t1, .slice y2 z2 t2, .slice y3 z3 t3] 0 0 from ⟨hq5, (ht.block _ (by omega) (by omega) (by omega)).trans HE4.out.2.1, (ht.block _ (by omega) (by omega) (by omega)).trans HE4.out.2.2.1, by omega, by omega⟩)
  have HB := hid (HB4.out.trans (ht.lower (show w.heap.size ≤ _ by omega) (Nat.le_refl _) (by omega)))
  have HO := hid (show OS w5 (w.heap.size + 4) (.slice y1 z1 t1) (.slice y2 z2 t2) (.slice y3 z3 t3) r9 by rw [← z4]; exact ho5)
  have HD := hid (dend_any w5 hr5)
  clear ht hr5 hq5 ho5 HQ HE4 HB4
  go_wp2_with fail
  refine Calls.mono HD.out ?_
  rintro e w6 ⟨q6, ⟨hi, rfl⟩ | ⟨hi, rfl⟩, hw6⟩
  rotate_left
  · replace HE := hid (show SE w6 w.heap.size (w.heap.size + 1) (w.heap.size + 2) #[.int .i64 r9.room, .int .i64 r9.lsn, .int .i64 r9.now, .slice y1 z1 t1, .slice y2 z2 t2, .slice y3 z3 t3] 0 0 by rw [hw6]; exact HE.out)
    replace HB := hid (show Below w.heap.size w w6 by rw [hw6]; exact ⟨HB.out.os, HB.out.tape, HB.out.output, HB.out.size, HB.out.block⟩)
    clear hw6 HO HD
    go_wp2_with fail
    refine leaves_cons (f := 45) (args := #[.pointer (some ⟨w.heap.size, 0, none⟩), .pointer (some ⟨w.heap.size + 1, 0, none⟩), .pointer (some ⟨w.heap.size + 2, 0, none⟩)]) (by simp) (by simp [go_sem]) ?_
    refine (dS_flt w.heap.size (w.heap.size + 1) (w.heap.size + 2) _ _ _ _ _ _ _ _ _ _ _ _ 0 0 (4 : Nat) ((fKs l 131072).2.1 : Nat) [] _ HE.out).mono ?_
    rintro e u' w9 ⟨rfl, rfl, hqe, ho3⟩
    have q0 : w9.cell? ⟨w.heap.size, 0, none⟩ = some (.int .i64 0) := by rw [Lib.cell_of_heap hqe.1]; rfl
    have q1 : w9.cell? ⟨w.heap.size, 1, none⟩ = some (.int .i64 0) := by rw [Lib.cell_of_heap hqe.1]; rfl
    have q2 : w9.cell? ⟨w.heap.size, 2, none⟩ = some (.int .i64 0) := by rw [Lib.cell_of_heap hqe.1]; rfl
    have q3 : w9.cell? ⟨w.heap.size, 3, none⟩ = some (.slice none 0 0) := by rw [Lib.cell_of_heap hqe.1]; rfl
    have q4 : w9.cell? ⟨w.heap.size, 4, none⟩ = some (.slice none 0 0) := by rw [Lib.cell_of_heap hqe.1]; rfl
    have q5 : w9.cell? ⟨w.heap.size, 5, none⟩ = some (.slice none 0 0) := by rw [Lib.cell_of_heap hqe.1]; rfl
    have q6 : w9.cell? ⟨w.heap.size + 1, 0, none⟩ = some (.int .i64 ((4 : Nat))) := by rw [Lib.cell_of_heap hqe.2.1]; rfl
    have q7 : w9.cell? ⟨w.heap.size + 2, 0, none⟩ = some (.int .i64 (((fKs l 131072).2.1 : Nat))) := by rw [Lib.cell_of_heap hqe.2.2.1]; rfl
    have HW := hid (Rds.no (l := l) (k := (4 : Nat)) (p := ((fKs l 131072).2.1 : Nat)) ((if_neg (by omega)).trans ((if_neg (fun e => e he)).trans (if_pos hi))) (HB.out.trans (ho3.below (Nat.le_refl _) (by omega) (by omega) HB.out.size)))
    clear hqe ho3
    simp [Leaves, settle, results, Try.results15, go_sem, q0, q1, q2, q3, q4, q5, q6, q7]
    exact HW.out

  replace HE := hid (show SE w6 w.heap.size (w.heap.size + 1) (w.heap.size + 2) #[.int .i64 r9.room, .int .i64 r9.lsn, .int .i64 r9.now, .slice y1 z1 t1, .slice y2 z2 t2, .slice y3 z3 t3] 0 0 by rw [hw6]; exact HE.out)
  replace HB := hid (show Below w.heap.size w w6 by rw [hw6]; exact ⟨HB.out.os, HB.out.tape, HB.out.output, HB.out.size, HB.out.block⟩)
  replace HO := hid (show OS w6 (w.heap.size + 4) (.slice y1 z1 t1) (.slice y2 z2 t2) (.slice y3 z3 t3) r9 by rw [hw6]; exact HO.out)
  clear hw6 HD
  have c0 : w6.cell? ⟨w.heap.size, 0, none⟩ = some (.int .i64 r9.room) := by rw [Lib.cell_of_heap HE.out.1]; rfl
  have f0 : w6.frozen? ⟨w.heap.size, 0, none⟩ = false := Lib.frozen_of_heap HE.out.1 0
  have c1 : w6.cell? ⟨w.heap.size, 1, none⟩ = some (.int .i64 r9.lsn) := by rw [Lib.cell_of_heap HE.out.1]; rfl
  have f1 : w6.frozen? ⟨w.heap.size, 1, none⟩ = false := Lib.frozen_of_heap HE.out.1 1
  have c2 : w6.cell? ⟨w.heap.size, 2, none⟩ = some (.int .i64 r9.now) := by rw [Lib.cell_of_heap HE.out.1]; rfl
  have f2 : w6.frozen? ⟨w.heap.size, 2, none⟩ = false := Lib.frozen_of_heap HE.out.1 2
  have c3 : w6.cell? ⟨w.heap.size, 3, none⟩ = some (.slice y1 z1 t1) := by rw [Lib.cell_of_heap HE.out.1]; rfl
  have f3 : w6.frozen? ⟨w.heap.size, 3, none⟩ = false := Lib.frozen_of_heap HE.out.1 3
  have c4 : w6.cell? ⟨w.heap.size, 4, none⟩ = some (.slice y2 z2 t2) := by rw [Lib.cell_of_heap HE.out.1]; rfl
  have f4 : w6.frozen? ⟨w.heap.size, 4, none⟩ = false := Lib.frozen_of_heap HE.out.1 4
  have c5 : w6.cell? ⟨w.heap.size, 5, none⟩ = some (.slice y3 z3 t3) := by rw [Lib.cell_of_heap HE.out.1]; rfl
  have f5 : w6.frozen? ⟨w.heap.size, 5, none⟩ = false := Lib.frozen_of_heap HE.out.1 5
  have c6 : w6.cell? ⟨w.heap.size + 1, 0, none⟩ = some (.int .i64 (0)) := by rw [Lib.cell_of_heap HE.out.2.1]; rfl
  have c7 : w6.cell? ⟨w.heap.size + 2, 0, none⟩ = some (.int .i64 (0)) := by rw [Lib.cell_of_heap HE.out.2.2.1]; rfl
  have f6 : w6.frozen? ⟨w.heap.size + 1, 0, none⟩ = false := Lib.frozen_of_heap HE.out.2.1 0
  have f7 : w6.frozen? ⟨w.heap.size + 2, 0, none⟩ = false := Lib.frozen_of_heap HE.out.2.2.1 0

  go_wp2_with fail
  refine leaves_cons (f := 45) (args := #[.pointer (some ⟨w.heap.size, 0, none⟩), .pointer (some ⟨w.heap.size + 1, 0, none⟩), .pointer (some ⟨w.heap.size + 2, 0, none⟩)]) (by simp) (by simp [go_sem]) ?_
  refine (dS_nil w.heap.size (w.heap.size + 1) (w.heap.size + 2) _ _ _ _ _ _ _ _ _ _ _ _ 0 0 _ (HE.out.put _ _ _ _ _ _ 0 0)).mono ?_
  rintro e u' w9 ⟨rfl, rfl, hqe, ho3⟩
  have q0 : w9.cell? ⟨w.heap.size, 0, none⟩ = some (.int .i64 r9.room) := by rw [Lib.cell_of_heap hqe.1]; rfl
  have q1 : w9.cell? ⟨w.heap.size, 1, none⟩ = some (.int .i64 r9.lsn) := by rw [Lib.cell_of_heap hqe.1]; rfl
  have q2 : w9.cell? ⟨w.heap.size, 2, none⟩ = some (.int .i64 r9.now) := by rw [Lib.cell_of_heap hqe.1]; rfl
  have q3 : w9.cell? ⟨w.heap.size, 3, none⟩ = some (.slice y1 z1 t1) := by rw [Lib.cell_of_heap hqe.1]; rfl
  have q4 : w9.cell? ⟨w.heap.size, 4, none⟩ = some (.slice y2 z2 t2) := by rw [Lib.cell_of_heap hqe.1]; rfl
  have q5 : w9.cell? ⟨w.heap.size, 5, none⟩ = some (.slice y3 z3 t3) := by rw [Lib.cell_of_heap hqe.1]; rfl
  have q6 : w9.cell? ⟨w.heap.size + 1, 0, none⟩ = some (.int .i64 (0)) := by rw [Lib.cell_of_heap hqe.2.1]; rfl
  have q7 : w9.cell? ⟨w.heap.size + 2, 0, none⟩ = some (.int .i64 (0)) := by rw [Lib.cell_of_heap hqe.2.2.1]; rfl

  have B6 := SE.o3 (qb := w.heap.size) (eb := w.heap.size + 1) (pb := w.heap.size + 2) (Below.refl w6.heap.size w6) (.int .i64 r9.room) (.int .i64 r9.lsn) (.int .i64 r9.now) (.slice y1 z1 t1) (.slice y2 z2 t2) (.slice y3 z3 t3) 0 0
  have hO9 := ho3.ownS (B6.ownS HO.out (by omega) (by omega) (by omega)) (by omega) (by omega) (by omega)
  have B7 := B6.below (B := w.heap.size) (Nat.le_refl _) (by omega) (by omega) HB.out.size
  have B9 := (HB.out.trans B7).trans (ho3.below (B := w.heap.size) (Nat.le_refl _) (by omega) (by omega) (HB.out.trans B7).size)
  have HW := hid (Rds.yes (l := l) (r := r9) ((if_neg (by omega)).trans ((if_neg (fun e => e he)).trans ((if_neg (by omega)).trans (by rw [h9])))) (hO9.lower (show w.heap.size ≤ w.heap.size + 4 by omega)) B9)
  clear hO9 B6 B7 B9 hqe ho3
  simp [Leaves, settle, results, Try.results15, go_sem, q0, q1, q2, q3, q4, q5, q6, q7]
  exact HW.out
end Go.Proofs.Ytfhicemfhkhjaab
