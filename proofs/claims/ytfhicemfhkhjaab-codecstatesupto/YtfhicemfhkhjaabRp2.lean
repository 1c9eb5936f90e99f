/-
  codec: a reply with a reader. Laid by mkrp2.py.
-/
import Derived.Test.YtfhicemfhkhjaabLv2
import Derived.Test.YtfhicemfhkhjaabRp1
namespace Go.Proofs.Ytfhicemfhkhjaab
open Go.RowKit
set_option maxRecDepth 100000

def rp0 : Ry := ⟨⟨#[]⟩, 0, 0, [], 0⟩
/-- a reply in memory -/
def rpC (r : Ry) (v : Value) : Array Value := #[.string r.id, .int .i64 r.err, .int .i64 r.line, v, .int .i64 r.now]
/-- some reply lies in block qb -/
def AnyP (qb : Nat) (w : World) : Prop := ∃ s0 e0 n0 a9 n9 c9 n1, w.heap[qb]? = some (.cells #[.string s0, .int .i64 e0, .int .i64 n0, .slice a9 n9 c9, .int .i64 n1] 28 (0, 0))
/-- a reply's fields from place i on -/
def fRp (l : List UInt8) (most i : Nat) : Nat × Nat × Ry := andR (fTx l most i) rp0 fun i1 a => andR (fIn l i1) rp0 fun i2 e => andR (fIn l i2) rp0 fun i3 n => andR (fVi l most i3) rp0 fun i4 L => andR (fIn l i4) rp0 fun i5 t => (0, i5, ⟨a, e, n, L, t⟩)
theorem fRp_eq (l : List UInt8) (most i : Nat) : fRp l most i = andR (fTx l most i) rp0 fun i1 a => andR (fIn l i1) rp0 fun i2 e => andR (fIn l i2) rp0 fun i3 n => andR (fVi l most i3) rp0 fun i4 L => andR (fIn l i4) rp0 fun i5 t => (0, i5, ⟨a, e, n, L, t⟩) := rfl
/-- a reply's bytes behind its first byte -/
def fKp (l : List UInt8) (most : Nat) : Nat × Nat × Ry :=
  match l with
  | [] => (3, 0, rp0)
  | c :: _ => if c ≠ 82 then (90, 0, rp0) else fRp l most 1
theorem fKp_nil (most : Nat) : fKp [] most = (3, 0, rp0) := rfl
theorem fKp_no {l : List UInt8} {most : Nat} (h0 : 0 < l.length) (h : l[0] ≠ 82) : fKp l most = (90, 0, rp0) := by
  match l, h0, h with
  | c :: t, _, h => exact if_pos h
theorem fKp_ok {l : List UInt8} {most : Nat} (h0 : 0 < l.length) (h : l[0] = 82) : fKp l most = fRp l most 1 := by
  match l, h0, h with
  | c :: t, _, h => exact if_neg (fun e => e h)
theorem OLv.form {w : World} {base : Nat} {v : Value} {L : List Lv} (h : OLv w base v L) : ∃ ao n c, v = .slice ao n c := by
  rcases h.2 with ⟨g, _⟩ | ⟨x, y, z, g1, _⟩
  · exact ⟨_, _, _, g⟩
  · exact ⟨_, _, _, g1⟩
theorem OLv.tb {rb qb base : Nat} {w w' : World} {v : Value} {L : List Lv} (h : OLv w base v L) (k : Tb rb qb w w') (h1 : rb < base) (h2 : qb < base) : OLv w' base v L := by
  refine ⟨h.1, ?_⟩
  rcases h.2 with g | ⟨x, y, z, g1, g2, g3, g4⟩
  · exact .inl g
  · exact .inr ⟨x, y, z, g1, g2, (k.block x (Array.getElem?_eq_some_iff.1 g3).1 (by omega) (by omega)).trans g3, g4⟩
/-- behind a reply that is read into block qb -/
def Dp (rb b off cap : Nat) (l : List UInt8) (most qb : Nat) (w : World) (e : Ending) (w' : World) : Prop :=
  Tb rb qb w w' ∧ (((fKp l most).1 = 0 ∧ e = .returned (.tuple #[]) ∧ RD w' rb b off cap l (fKp l most).2.1 most ∧ ∃ v', w'.heap[qb]? = some (.cells (rpC (fKp l most).2.2 v') 28 (0, 0)) ∧ OLv w' w.heap.size v' (fKp l most).2.2.levels)
  ∨ ((fKp l most).1 ≠ 0 ∧ e = flt ((fKp l most).1 : Int) ((fKp l most).2.1 : Int) ∧ AnyP qb w'))
set_option maxHeartbeats 1000000 in
theorem dreply_nil (ao : Option Addr) (cap rb most qb b off : Nat) (w : World) (h : RN w rb (.slice ao 0 cap) most) (hq : w.heap[qb]? = some (.cells (rpC rp0 (.slice none 0 0)) 28 (0, 0))) :
    Calls Try.prog 34 #[ir rb, .pointer (some ⟨qb, 0, none⟩)] w fun e w' => Dp rb b off cap [] most qb w e w' := by
  have hme := mr_key
  have HK := hid (show Calls Try.prog 122 #[.pointer (some ⟨rb, 0, none⟩), .int .u8 82] w fun e w' => e = flt 3 0 ∧ w' = w from dkey_nil 82 ao cap rb most w h)
  have HQ := hid hq
  clear h hq
  go_enter Try.func34, Try.ntmps34
  go_wp2_with fail
  refine Calls.mono HK.out ?_
  rintro e w1 ⟨rfl, rfl⟩
  have HF := hid (show Dp rb b off cap [] most qb w1 (flt 3 0) w1 from ⟨Tb.drewN rb qb w1 0, .inr ⟨by rw [fKp_nil]; decide, by rw [fKp_nil]; rfl, _, _, _, _, _, _, _, HQ.out⟩⟩)
  go_wp2_with fail
  exact ⟨rfl, HF.out⟩
set_option maxHeartbeats 4000000 in
theorem dreply_any (qb rb b off cap most : Nat) (l : List UInt8) (w : World) (h : RN w rb (.slice (some ⟨b, off, none⟩) l.length cap) most) (hc : l.length ≤ cap) (h0 : 0 < l.length) (hne : b ≠ rb) (hb : ∀ j (hj : j < l.length), w.cell? ⟨b, off + j, none⟩ = some (.int .u8 (l[j].toNat : Int)))
    (hcp : l.length ≤ 100000000000000) (hm : most ≤ 1000000000) (hq : w.heap[qb]? = some (.cells (rpC rp0 (.slice none 0 0)) 28 (0, 0))) (hqb : qb ≠ rb ∧ qb ≠ b) :
    Calls Try.prog 34 #[ir rb, .pointer (some ⟨qb, 0, none⟩)] w fun e w' => Dp rb b off cap l most qb w e w' := by
  have hmf : ∀ (fn : Fn) (first cap : Array Value) (w : World), (Instr.makeFunc fn first cap).run Try.prog w = .ok (.func fn first cap) w := fun _ _ _ _ => rfl
  have hme := mr_key
  have HK := hid (show Calls Try.prog 122 #[.pointer (some ⟨rb, 0, none⟩), .int .u8 82] w fun e w' => (l[0] = 82 ∧ e = .returned (.tuple #[]) ∧ RD w' rb b off cap l 1 most ∧ w' = w.setCell ⟨rb, 1, none⟩ (.int .i64 1)) ∨ (l[0] ≠ 82 ∧ e = flt 90 0 ∧ w' = w) from dkey_any 82 rb b off cap most l w h hc h0 hne hb)
  have hbw : b < w.heap.size := World.block_lt_of_cell? _ _ (hb 0 h0)
  have hqlt := (Array.getElem?_eq_some_iff.1 hq).1
  have hrlt : rb < w.heap.size := (Array.getElem?_eq_some_iff.1 h).1
  have HQ := hid hq
  clear h hb hq
  go_enter Try.func34, Try.ntmps34
  go_wp2_with fail
  refine Calls.mono HK.out ?_
  rintro e w0 (⟨hk, rfl, hR, hw⟩ | ⟨hk, rfl, rfl⟩)
  rotate_left
  · have HF := hid (show Dp rb b off cap l most qb w0 (flt 90 0) w0 from ⟨Tb.drewN rb qb w0 0, .inr ⟨by rw [fKp_no h0 hk]; decide, by rw [fKp_no h0 hk]; rfl, _, _, _, _, _, _, _, HQ.out⟩⟩)
    go_wp2_with fail
    exact ⟨rfl, HF.out⟩
  obtain ⟨i0, hi0⟩ : ∃ i0 : Nat, i0 = 1 := ⟨_, rfl⟩
  have HR0 := hid (show RD w0 rb b off cap l i0 most by rw [hi0]; exact hR)
  have HT0 := hid (show Tb rb qb w w0 by rw [hw]; exact Tb.set _ ⟨rb, 1, none⟩ _ (.inl rfl))
  have HQ0 := hid (show w0.heap[qb]? = some (.cells (rpC rp0 (.slice none 0 0)) 28 (0, 0)) by rw [hw, heap_setCell_other w ⟨rb, 1, none⟩ qb _ hqb.1]; exact HQ.out)
  have HF0 := hid (show fKp l most = andR (fTx l most i0) rp0 fun i1 a => andR (fIn l i1) rp0 fun i2 e => andR (fIn l i2) rp0 fun i3 n => andR (fVi l most i3) rp0 fun i4 L => andR (fIn l i4) rp0 fun i5 t => (0, i5, ⟨a, e, n, L, t⟩) by rw [hi0, fKp_ok h0 hk]; rfl)
  clear hi0 hw hR hk HK hme
  have hq : w0.heap[qb]? = some (.cells #[.string ⟨#[]⟩, .int .i64 0, .int .i64 0, .slice none 0 0, .int .i64 0] 28 (0, 0)) := HQ0.out
  have hsz0 := HT0.out.size
  have HC := hid (fun q => dtext_any ⟨qb, 0, none⟩ ⟨#[]⟩ (w0.drewN q) (HR0.out.drewN q) hcp hm (by show w0.cell? _ = _; rw [cell_of_row _ _ _ _ _ _ hq]; rfl) (by show w0.frozen? _ = _; simp [World.frozen?, hq]) hqb.1)
  have hle := at_le HR0.out.at' (tx_le (l.drop i0) most)
  have hna := nr_text rb
  have hme := mr_text
  clear hq
  go_wp2_with fail
  refine wp_region_any (by kernel_rfl) ?_
  try (change wpAny _ _ _ _ _ _ _ (World.drew _))
  refine wpAny_take (i := 0) (v := ir rb) rfl (by kernel_rfl) (by kernel_rfl) (by kernel_rfl) (fun _ _ _ h => h) (Or.inl ⟨by rfl, by intro w; go_simp⟩) ?_
  refine wpAny_take (i := 1) (v := .pointer (some ⟨qb, 0, none⟩)) rfl (by kernel_rfl) (by kernel_rfl) (by kernel_rfl) (fun _ _ _ h => h) (Or.inl ⟨by rfl, by intro w; go_simp⟩) ?_
  refine wpAny_take (i := 2) (v := .pointer (some ⟨qb, 0, none⟩)) rfl (by kernel_rfl) (by kernel_rfl) (by kernel_rfl) (fun _ _ _ h => h) (Or.inl ⟨by rfl, by intro w; go_simp⟩) ?_
  refine wpAny_take (i := 3) (v := .pointer (some ⟨qb, 0, none⟩)) rfl (by kernel_rfl) (by kernel_rfl) (by kernel_rfl) (fun _ _ _ h => h) (Or.inl ⟨by rfl, by intro w; go_simp⟩) ?_
  refine wpAny_ready (rs := [4]) (by kernel_rfl) (by simp) ?_
  refine AllReady.cons rfl (fun K hK => ?_) AllReady.nil
  go_simp
  refine hK _ _ ?_
  clear hK K
  refine wpAny_take (i := 5) (v := .func (.method "larder/codec.text") #[ir rb] #[]) rfl (by kernel_rfl) (by kernel_rfl) (by kernel_rfl) (fun _ _ _ h => h) (Or.inl ⟨by rfl, by intro w; go_simp⟩) ?_
  refine wpAny_take (i := 6) (v := ir rb) rfl (by kernel_rfl) (by kernel_rfl) (by kernel_rfl) (fun _ _ _ h => h) (Or.inl ⟨by rfl, by intro w; go_simp⟩) ?_
  refine wpAny_ready (rs := [7]) (by kernel_rfl) (by simp) ?_
  refine AllReady.cons rfl (fun K hK => ?_) AllReady.nil
  go_simp
  go_wp2_with fail
  refine (HC.out _).mono ?_
  rintro e w1 ⟨q1, ⟨he, rfl, hw⟩ | ⟨he, rfl, hw⟩⟩
  rotate_left
  · have HF := hid (show Dp rb b off cap l most qb w (flt ((fTx l most i0).1 : Int) ((fTx l most i0).2.1 : Int)) w1 by
      unfold Dp
      rw [HF0.out, andR_no (show (fTx l most i0).1 ≠ 0 from he)]
      exact ⟨HT0.out.trans ((Tb.drewN rb qb w0 1).trans (by rw [hw]; exact Tb.drewN _ _ _ _)), .inr ⟨he, rfl, _, _, _, _, _, _, _, by rw [hw]; exact (show w0.heap[qb]? = some (.cells #[.string ⟨#[]⟩, .int .i64 0, .int .i64 0, .slice none 0 0, .int .i64 0] 28 (0, 0)) from HQ0.out)⟩⟩)
    clear hw
    go_wp2_with fail
    exact ⟨rfl, HF.out⟩
  have hTk : Tb rb qb w0 w1 := (Tb.drewN rb qb w0 1).trans (show Tb rb qb (w0.drewN 1) w1 by rw [hw]; exact Tb.put _ q1 ⟨qb, 0, none⟩ _ _ rfl)
  have HT1 := hid (HT0.out.trans hTk)
  have HQ1 := hid (show w1.heap[qb]? = some (.cells ((#[.string ⟨#[]⟩, .int .i64 0, .int .i64 0, .slice none 0 0, .int .i64 0] : Array Value).setIfInBounds 0 (.string (fTx l most i0).2.2)) 28 (0, 0)) by rw [hw]; exact q_set (w := w0.drewN 1) HQ0.out hqb.1 0 _)
  have HR1 := hid (show RD w1 rb b off cap l (fTx l most i0).2.1 most by rw [hw]; exact (HR0.out.drewN 1).put q1 _ ⟨qb, 0, none⟩ _ hle hqb.1 hqb.2)
  have HF1 := hid (HF0.out.trans (andR_ok (show (fTx l most i0).1 = 0 from he)))
  obtain ⟨i1, hi⟩ : ∃ x, (fTx l most i0).2.1 = x := ⟨_, rfl⟩
  obtain ⟨a1, ha⟩ : ∃ x, (fTx l most i0).2.2 = x := ⟨_, rfl⟩
  rw [hi, ha] at HF1
  rw [hi] at HR1
  rw [ha] at HQ1
  clear hi ha hw he HC HT0 HQ0 HR0 HF0 hna hme hle hTk
  go_wp2_with fail
  refine wpAny_done (by kernel_rfl) ?_ _
  have hq : w1.heap[qb]? = some (.cells #[.string a1, .int .i64 0, .int .i64 0, .slice none 0 0, .int .i64 0] 28 (0, 0)) := HQ1.out
  have hsz1 := HT1.out.size
  have cj : w1.cell? ⟨qb, 1, none⟩ = some (.int .i64 0) := by rw [cell_of_row _ _ _ _ _ _ hq]; rfl
  obtain ⟨We, hWe⟩ : ∃ We, w1.alloc (.cells #[.int .i64 0] 3) = We := ⟨_, rfl⟩
  have hBe : Below w1.heap.size w1 We := by rw [← hWe]; exact (Below.refl _ _).alloc (Nat.le_refl _) _
  have ze : We.heap.size = w1.heap.size + 1 := by rw [← hWe, World.size_alloc]
  have HTe := hid (show Tb rb qb w We from HT1.out.trans ⟨hBe.os, hBe.tape, hBe.output, hBe.size, fun k hk _ _ => hBe.block k hk⟩)
  have hRe := HR1.out.below hBe
  have hnew : We.heap[w1.heap.size]? = some (.cells #[.int .i64 0] 3 (0, 0)) := by rw [← hWe]; exact heap_alloc_new w1 _
  have HQe := hid (show We.heap[qb]? = some (.cells #[.string a1, .int .i64 0, .int .i64 0, .slice none 0 0, .int .i64 0] 28 (0, 0)) from (hBe.block qb (by omega)).trans hq)
  have hle := at_le hRe.at' (show (rd (l.drop i1) 0 0).2.1 ≤ _ by have := rd_le (l.drop i1) 0 0; omega)
  have HC := hid (dwhole_any ⟨w1.heap.size, 0, none⟩ 0 We hRe hcp (by rw [cell_of_row _ _ _ _ _ _ hnew]; rfl) (by simp [World.frozen?, hnew]) (by show w1.heap.size ≠ rb; omega))
  have hme := mr_whole
  have HRe := hid hRe
  have HNw := hid hnew
  have HWe := hid hWe
  clear hBe hRe hnew hq hWe
  go_wp2_with fail
  try rw [HWe.out]
  refine Calls.mono HC.out ?_
  rintro e w2a ⟨q2, ⟨he, rfl, hw⟩ | ⟨he, rfl, hw⟩⟩
  rotate_left
  · have HF := hid (show Dp rb b off cap l most qb w (flt ((fIn l i1).1 : Int) ((fIn l i1).2.1 : Int)) w2a by
      unfold Dp
      rw [HF1.out, andR_no (show (fIn l i1).1 ≠ 0 from he)]
      exact ⟨HTe.out.trans (by rw [hw]; exact Tb.drewN _ _ _ _), .inr ⟨he, rfl, _, _, _, _, _, _, _, by rw [hw]; exact (show We.heap[qb]? = some (.cells #[.string a1, .int .i64 0, .int .i64 0, .slice none 0 0, .int .i64 0] 28 (0, 0)) from HQe.out)⟩⟩)
    clear hw cj
    go_wp2_with fail
    exact ⟨rfl, HF.out⟩
  have hTa : Tb rb w1.heap.size We w2a := by rw [hw]; exact Tb.put _ q2 ⟨w1.heap.size, 0, none⟩ _ _ rfl
  have HTa := hid (tb_two HTe.out hTa (by omega))
  have hQa : w2a.heap[qb]? = some (.cells #[.string a1, .int .i64 0, .int .i64 0, .slice none 0 0, .int .i64 0] 28 (0, 0)) := (hTa.block qb (by omega) hqb.1 (by omega)).trans HQe.out
  have hRa : RD w2a rb b off cap l (fIn l i1).2.1 most := by rw [hw]; exact HRe.out.put q2 _ ⟨w1.heap.size, 0, none⟩ _ hle (by show w1.heap.size ≠ rb; omega) (by show w1.heap.size ≠ b; omega)
  have ca : w2a.cell? ⟨w1.heap.size, 0, none⟩ = some (.int .i64 (fIn l i1).2.2) := by
    have hne : w1.heap.size ≠ rb := by omega
    have := q_set (q := q2) (k := i1 + (rd (l.drop i1) 0 0).2.1) (rb := rb) HNw.out hne 0 (.int .i64 (unfI (rd (l.drop i1) 0 0).1))
    rw [← hw] at this
    rw [cell_of_row _ _ _ _ _ _ this]
    rfl
  have cn : w2a.cell? ⟨qb, 1, none⟩ = some (.int .i64 0) := by rw [cell_of_row _ _ _ _ _ _ hQa]; rfl
  have fn : w2a.frozen? ⟨qb, 1, none⟩ = false := by simp [World.frozen?, hQa]
  obtain ⟨w2, hwn⟩ : ∃ x, w2a.setCell ⟨qb, 1, none⟩ (.int .i64 (fIn l i1).2.2) = x := ⟨_, rfl⟩
  have HT2 := hid (show Tb rb qb w w2 from HTa.out.trans (by rw [← hwn]; exact Tb.set _ ⟨qb, 1, none⟩ _ (.inr rfl)))
  have HQ2 := hid (show w2.heap[qb]? = some (.cells ((#[.string a1, .int .i64 0, .int .i64 0, .slice none 0 0, .int .i64 0] : Array Value).setIfInBounds 1 (.int .i64 (fIn l i1).2.2)) 28 (0, 0)) by rw [← hwn]; exact heap_setCell_same _ qb 1 _ _ _ hQa)
  have HR2 := hid (show RD w2 rb b off cap l (fIn l i1).2.1 most by
    rw [← hwn]
    refine ⟨(heap_setCell_other _ ⟨qb, 1, none⟩ rb _ (fun e => hqb.1 e.symm)).trans hRa.top, hRa.room, hRa.at', hRa.ne, fun j hj => ?_⟩
    rw [World.cell?_setCell_other _ _ _ _ (fun e => hqb.2 (by injection e))]
    exact hRa.bytes j hj)
  have HF2 := hid (HF1.out.trans (andR_ok (show (fIn l i1).1 = 0 from he)))
  obtain ⟨i2, hi⟩ : ∃ x, (fIn l i1).2.1 = x := ⟨_, rfl⟩
  obtain ⟨a2, ha⟩ : ∃ x, (fIn l i1).2.2 = x := ⟨_, rfl⟩
  rw [hi, ha] at HF2
  rw [hi] at HR2
  rw [ha] at HQ2 ca hwn
  clear hi ha hw he HC HT1 HQ1 HR1 HF1 hme hle hTa HTa hQa hRa HTe HQe HRe HNw HWe cj
  go_wp2_with fail
  try rw [hwn]
  clear ca cn fn hwn
  have hq : w2.heap[qb]? = some (.cells #[.string a1, .int .i64 a2, .int .i64 0, .slice none 0 0, .int .i64 0] 28 (0, 0)) := HQ2.out
  have hsz2 := HT2.out.size
  have HC := hid (fun q => dwhole_any ⟨qb, 2, none⟩ 0 (w2.drewN q) (HR2.out.drewN q) hcp (by show w2.cell? _ = _; rw [cell_of_row _ _ _ _ _ _ hq]; rfl) (by show w2.frozen? _ = _; simp [World.frozen?, hq]) hqb.1)
  have hle := at_le HR2.out.at' ((show (rd (l.drop i2) 0 0).2.1 ≤ _ by have := rd_le (l.drop i2) 0 0; omega))
  have hna := nr_whole rb
  have hme := mr_whole
  clear hq
  go_wp2_with fail
  refine wp_region_any (by kernel_rfl) ?_
  try (change wpAny _ _ _ _ _ _ _ (World.drew _))
  refine wpAny_take (i := 0) (v := ir rb) rfl (by kernel_rfl) (by kernel_rfl) (by kernel_rfl) (fun _ _ _ h => h) (Or.inl ⟨by rfl, by intro w; go_simp⟩) ?_
  refine wpAny_take (i := 1) (v := .pointer (some ⟨qb, 0, none⟩)) rfl (by kernel_rfl) (by kernel_rfl) (by kernel_rfl) (fun _ _ _ h => h) (Or.inl ⟨by rfl, by intro w; go_simp⟩) ?_
  refine wpAny_take (i := 2) (v := .pointer (some ⟨qb, 0, none⟩)) rfl (by kernel_rfl) (by kernel_rfl) (by kernel_rfl) (fun _ _ _ h => h) (Or.inl ⟨by rfl, by intro w; go_simp⟩) ?_
  refine wpAny_take (i := 3) (v := .pointer (some ⟨qb, 2, none⟩)) rfl (by kernel_rfl) (by kernel_rfl) (by kernel_rfl) (fun _ _ _ h => h) (Or.inl ⟨by rfl, by intro w; go_simp⟩) ?_
  refine wpAny_ready (rs := [4]) (by kernel_rfl) (by simp) ?_
  refine AllReady.cons rfl (fun K hK => ?_) AllReady.nil
  go_simp
  refine hK _ _ ?_
  clear hK K
  refine wpAny_take (i := 5) (v := .func (.method "larder/codec.whole") #[ir rb] #[]) rfl (by kernel_rfl) (by kernel_rfl) (by kernel_rfl) (fun _ _ _ h => h) (Or.inl ⟨by rfl, by intro w; go_simp⟩) ?_
  refine wpAny_take (i := 6) (v := ir rb) rfl (by kernel_rfl) (by kernel_rfl) (by kernel_rfl) (fun _ _ _ h => h) (Or.inl ⟨by rfl, by intro w; go_simp⟩) ?_
  refine wpAny_ready (rs := [7]) (by kernel_rfl) (by simp) ?_
  refine AllReady.cons rfl (fun K hK => ?_) AllReady.nil
  go_simp
  go_wp2_with fail
  refine (HC.out _).mono ?_
  rintro e w3 ⟨q3, ⟨he, rfl, hw⟩ | ⟨he, rfl, hw⟩⟩
  rotate_left
  · have HF := hid (show Dp rb b off cap l most qb w (flt ((fIn l i2).1 : Int) ((fIn l i2).2.1 : Int)) w3 by
      unfold Dp
      rw [HF2.out, andR_no (show (fIn l i2).1 ≠ 0 from he)]
      exact ⟨HT2.out.trans ((Tb.drewN rb qb w2 1).trans (by rw [hw]; exact Tb.drewN _ _ _ _)), .inr ⟨he, rfl, _, _, _, _, _, _, _, by rw [hw]; exact (show w2.heap[qb]? = some (.cells #[.string a1, .int .i64 a2, .int .i64 0, .slice none 0 0, .int .i64 0] 28 (0, 0)) from HQ2.out)⟩⟩)
    clear hw
    go_wp2_with fail
    exact ⟨rfl, HF.out⟩
  have hTk : Tb rb qb w2 w3 := (Tb.drewN rb qb w2 1).trans (show Tb rb qb (w2.drewN 1) w3 by rw [hw]; exact Tb.put _ q3 ⟨qb, 2, none⟩ _ _ rfl)
  have HT3 := hid (HT2.out.trans hTk)
  have HQ3 := hid (show w3.heap[qb]? = some (.cells ((#[.string a1, .int .i64 a2, .int .i64 0, .slice none 0 0, .int .i64 0] : Array Value).setIfInBounds 2 (.int .i64 (fIn l i2).2.2)) 28 (0, 0)) by rw [hw]; exact q_set (w := w2.drewN 1) HQ2.out hqb.1 2 _)
  have HR3 := hid (show RD w3 rb b off cap l (fIn l i2).2.1 most by rw [hw]; exact (HR2.out.drewN 1).put q3 _ ⟨qb, 2, none⟩ _ hle hqb.1 hqb.2)
  have HF3 := hid (HF2.out.trans (andR_ok (show (fIn l i2).1 = 0 from he)))
  obtain ⟨i3, hi⟩ : ∃ x, (fIn l i2).2.1 = x := ⟨_, rfl⟩
  obtain ⟨a3, ha⟩ : ∃ x, (fIn l i2).2.2 = x := ⟨_, rfl⟩
  rw [hi, ha] at HF3
  rw [hi] at HR3
  rw [ha] at HQ3
  clear hi ha hw he HC HT2 HQ2 HR2 HF2 hna hme hle hTk
  go_wp2_with fail
  refine wpAny_done (by kernel_rfl) ?_ _
  have hq : w3.heap[qb]? = some (.cells #[.string a1, .int .i64 a2, .int .i64 a3, .slice none 0 0, .int .i64 0] 28 (0, 0)) := HQ3.out
  have hsz3 := HT3.out.size
  have HC := hid (dlevels_any qb 3 #[.string a1, .int .i64 a2, .int .i64 a3, .slice none 0 0, .int .i64 0] 28 w3 HR3.out hcp hm hq rfl hqb (by omega))
  clear hq
  go_wp2_with fail
  refine Calls.mono HC.out ?_
  rintro e w4 ⟨ht, ⟨he, rfl, hr, v3, hq3, ho3⟩ | ⟨he, rfl, ao9, n9, c9, hq9⟩⟩
  rotate_left
  · have HF := hid (show Dp rb b off cap l most qb w (flt ((fVi l most i3).1 : Int) ((fVi l most i3).2.1 : Int)) w4 by
      unfold Dp
      rw [HF3.out, andR_no (show (fVi l most i3).1 ≠ 0 from he)]
      exact ⟨HT3.out.trans ht, .inr ⟨he, rfl, _, _, _, _, _, _, _, hq9⟩⟩)
    clear ht hq9
    go_wp2_with fail
    exact ⟨rfl, HF.out⟩
  obtain ⟨ao3, n3, c3, rfl⟩ := ho3.form
  have HT4 := hid (HT3.out.trans ht)
  have HQ4 := hid hq3
  have HR4 := hid hr
  have HO4 := hid (show OLv w4 w.heap.size (.slice ao3 n3 c3) (fVi l most i3).2.2 by
    refine ⟨ho3.1, ?_⟩
    rcases ho3.2 with g | ⟨x, y, z, g1, g2, g3⟩
    · exact .inl g
    · exact .inr ⟨x, y, z, g1, by omega, g3⟩)
  have HF4 := hid (HF3.out.trans (andR_ok (show (fVi l most i3).1 = 0 from he)))
  obtain ⟨i4, hi⟩ : ∃ x, (fVi l most i3).2.1 = x := ⟨_, rfl⟩
  obtain ⟨a4, ha⟩ : ∃ x, (fVi l most i3).2.2 = x := ⟨_, rfl⟩
  rw [hi, ha] at HF4
  rw [hi] at HR4
  rw [ha] at HO4
  clear hi ha ht hr hq3 ho3 he HC HT3 HQ3 HR3 HF3
  have hq : w4.heap[qb]? = some (.cells #[.string a1, .int .i64 a2, .int .i64 a3, .slice ao3 n3 c3, .int .i64 0] 28 (0, 0)) := HQ4.out
  have hsz4 := HT4.out.size
  have HC := hid (fun q => dwhole_any ⟨qb, 4, none⟩ 0 (w4.drewN q) (HR4.out.drewN q) hcp (by show w4.cell? _ = _; rw [cell_of_row _ _ _ _ _ _ hq]; rfl) (by show w4.frozen? _ = _; simp [World.frozen?, hq]) hqb.1)
  have hle := at_le HR4.out.at' ((show (rd (l.drop i4) 0 0).2.1 ≤ _ by have := rd_le (l.drop i4) 0 0; omega))
  have hna := nr_whole rb
  have hme := mr_whole
  clear hq
  go_wp2_with fail
  refine wp_region_any (by kernel_rfl) ?_
  try (change wpAny _ _ _ _ _ _ _ (World.drew _))
  refine wpAny_take (i := 0) (v := ir rb) rfl (by kernel_rfl) (by kernel_rfl) (by kernel_rfl) (fun _ _ _ h => h) (Or.inl ⟨by rfl, by intro w; go_simp⟩) ?_
  refine wpAny_take (i := 1) (v := .pointer (some ⟨qb, 0, none⟩)) rfl (by kernel_rfl) (by kernel_rfl) (by kernel_rfl) (fun _ _ _ h => h) (Or.inl ⟨by rfl, by intro w; go_simp⟩) ?_
  refine wpAny_take (i := 2) (v := .pointer (some ⟨qb, 0, none⟩)) rfl (by kernel_rfl) (by kernel_rfl) (by kernel_rfl) (fun _ _ _ h => h) (Or.inl ⟨by rfl, by intro w; go_simp⟩) ?_
  refine wpAny_take (i := 3) (v := .pointer (some ⟨qb, 4, none⟩)) rfl (by kernel_rfl) (by kernel_rfl) (by kernel_rfl) (fun _ _ _ h => h) (Or.inl ⟨by rfl, by intro w; go_simp⟩) ?_
  refine wpAny_ready (rs := [4]) (by kernel_rfl) (by simp) ?_
  refine AllReady.cons rfl (fun K hK => ?_) AllReady.nil
  go_simp
  refine hK _ _ ?_
  clear hK K
  refine wpAny_take (i := 5) (v := .func (.method "larder/codec.whole") #[ir rb] #[]) rfl (by kernel_rfl) (by kernel_rfl) (by kernel_rfl) (fun _ _ _ h => h) (Or.inl ⟨by rfl, by intro w; go_simp⟩) ?_
  refine wpAny_take (i := 6) (v := ir rb) rfl (by kernel_rfl) (by kernel_rfl) (by kernel_rfl) (fun _ _ _ h => h) (Or.inl ⟨by rfl, by intro w; go_simp⟩) ?_
  refine wpAny_ready (rs := [7]) (by kernel_rfl) (by simp) ?_
  refine AllReady.cons rfl (fun K hK => ?_) AllReady.nil
  go_simp
  go_wp2_with fail
  refine (HC.out _).mono ?_
  rintro e w5 ⟨q5, ⟨he, rfl, hw⟩ | ⟨he, rfl, hw⟩⟩
  rotate_left
  · have HF := hid (show Dp rb b off cap l most qb w (flt ((fIn l i4).1 : Int) ((fIn l i4).2.1 : Int)) w5 by
      unfold Dp
      rw [HF4.out, andR_no (show (fIn l i4).1 ≠ 0 from he)]
      exact ⟨HT4.out.trans ((Tb.drewN rb qb w4 1).trans (by rw [hw]; exact Tb.drewN _ _ _ _)), .inr ⟨he, rfl, _, _, _, _, _, _, _, by rw [hw]; exact (show w4.heap[qb]? = some (.cells #[.string a1, .int .i64 a2, .int .i64 a3, .slice ao3 n3 c3, .int .i64 0] 28 (0, 0)) from HQ4.out)⟩⟩)
    clear hw
    go_wp2_with fail
    exact ⟨rfl, HF.out⟩
  have hTk : Tb rb qb w4 w5 := (Tb.drewN rb qb w4 1).trans (show Tb rb qb (w4.drewN 1) w5 by rw [hw]; exact Tb.put _ q5 ⟨qb, 4, none⟩ _ _ rfl)
  have HT5 := hid (HT4.out.trans hTk)
  have HQ5 := hid (show w5.heap[qb]? = some (.cells ((#[.string a1, .int .i64 a2, .int .i64 a3, .slice ao3 n3 c3, .int .i64 0] : Array Value).setIfInBounds 4 (.int .i64 (fIn l i4).2.2)) 28 (0, 0)) by rw [hw]; exact q_set (w := w4.drewN 1) HQ4.out hqb.1 4 _)
  have HR5 := hid (show RD w5 rb b off cap l (fIn l i4).2.1 most by rw [hw]; exact (HR4.out.drewN 1).put q5 _ ⟨qb, 4, none⟩ _ hle hqb.1 hqb.2)
  have HO5 := hid (HO4.out.tb hTk hrlt hqlt)
  have HF5 := hid (HF4.out.trans (andR_ok (show (fIn l i4).1 = 0 from he)))
  obtain ⟨i5, hi⟩ : ∃ x, (fIn l i4).2.1 = x := ⟨_, rfl⟩
  obtain ⟨a5, ha⟩ : ∃ x, (fIn l i4).2.2 = x := ⟨_, rfl⟩
  rw [hi, ha] at HF5
  rw [hi] at HR5
  rw [ha] at HQ5
  clear hi ha hw he HC HT4 HQ4 HR4 HF4 hna hme hle hTk HO4
  go_wp2_with fail
  refine wpAny_done (by kernel_rfl) ?_ _
  have HF := hid (show Dp rb b off cap l most qb w (.returned (.tuple #[])) w5 by
    unfold Dp
    rw [HF5.out]
    exact ⟨HT5.out, .inl ⟨rfl, rfl, HR5.out, _, HQ5.out, HO5.out⟩⟩)
  go_wp2_with fail
  go_end0
  exact HF.out
end Go.Proofs.Ytfhicemfhkhjaab
