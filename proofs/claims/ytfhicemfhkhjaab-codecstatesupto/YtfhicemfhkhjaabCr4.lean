/-
  codec's forms with a reader: a request's fields. Laid by mkcr4.py.
-/
import Derived.Test.YtfhicemfhkhjaabCr3
namespace Go.Proofs.Ytfhicemfhkhjaab
open Go.RowKit
set_option maxRecDepth 100000

theorem De.lower {rb b off cap i most qb po : Nat} {l : List UInt8} {row : Array Value} {T : TypeId} {w W w' : World} {e : Ending} (h : De rb b off cap l i most qb po row T W e w') (k : Below w.heap.size w W) : De rb b off cap l i most qb po row T w e w' := by
  have hs := k.size
  refine ⟨⟨h.1.os.trans k.os, h.1.tape.trans k.tape, h.1.output.trans k.output, Nat.le_trans hs h.1.size, fun j hj h1 h2 => (h.1.block j (by omega) h1 h2).trans (k.block j hj)⟩, h.2.imp ?_ id⟩
  rintro ⟨a, c, d, v', f, g⟩
  refine ⟨a, c, d, v', f, g.1, ?_⟩
  rcases g.2 with g | ⟨x, y, z, g1, g2, g3⟩
  · exact .inl g
  · exact .inr ⟨x, y, z, g1, by omega, g3⟩
theorem RD.below {w w' : World} {rb b off cap i most : Nat} {l : List UInt8} (h : RD w rb b off cap l i most) (k : Below w.heap.size w w') : RD w' rb b off cap l i most :=
  ⟨(k.block rb (Array.getElem?_eq_some_iff.1 h.top).1).trans h.top, h.room, h.at', h.ne, fun j hj => below_cells k _ _ (h.bytes j hj)⟩
set_option maxHeartbeats 1000000 in
theorem dlines_any (qb po : Nat) (row : Array Value) (T : TypeId) (w : World) {rb b off cap i most : Nat} {l : List UInt8} (h : RD w rb b off cap l i most) (hcp : l.length ≤ 100000000000000) (hm : most ≤ 1000000000)
    (hq : w.heap[qb]? = some (.cells row T (0, 0))) (hrow : row[po]? = some (.slice none 0 0)) (hqb : qb ≠ rb ∧ qb ≠ b) (hbw : b < w.heap.size) :
    Calls Try.prog 76 #[ir rb, .pointer (some ⟨qb, po, none⟩)] w fun e w' => De rb b off cap l i most qb po row T w e w' := by
  have hmf : ∀ (fn : Fn) (first cap : Array Value) (w : World), (Instr.makeFunc fn first cap).run Try.prog w = .ok (.func fn first cap) w := fun _ _ _ _ => rfl
  obtain ⟨W, hW⟩ : ∃ W, w.alloc (.cells #[ir rb] 129) = W := ⟨_, rfl⟩
  have hB : Below w.heap.size w W := by rw [← hW]; exact (Below.refl _ _).alloc (Nat.le_refl _) _
  have hcb : W.cell? ⟨w.heap.size, 0, none⟩ = some (ir rb) := by rw [← hW, cell_of_row _ _ _ _ _ _ (heap_alloc_new w _)]; rfl
  have hq1 := (Array.getElem?_eq_some_iff.1 hq).1
  have hr1 := (Array.getElem?_eq_some_iff.1 h.top).1
  have HLi := hid ((dlist_any w.heap.size qb po row T W (h.below hB) hcp hm hcb ⟨by omega, by omega⟩ ((hB.block qb hq1).trans hq) hrow hqb (by have := hB.size; omega)).mono fun e w' hh => De.lower hh hB)
  clear h hB hq hrow
  go_enter Try.func76, Try.ntmps76
  go_wp2_with fail
  try rw [hW]
  refine Calls.mono HLi.out ?_
  rintro e w2 ⟨ht, ⟨hf, rfl, hr⟩ | ⟨hf, rfl, hq9⟩⟩
  · have HF := hid (show De rb b off cap l i most qb po row T w (.returned (.tuple #[])) w2 from ⟨ht, .inl ⟨hf, rfl, hr⟩⟩)
    clear ht hr
    go_wp2_with fail
    go_end0
    exact HF.out
  · have HF := hid (show De rb b off cap l i most qb po row T w (flt ((fLi l most i).1 : Int) ((fLi l most i).2.1 : Int)) w2 from ⟨ht, .inr ⟨hf, rfl, hq9⟩⟩)
    clear ht hq9
    go_wp2_with fail
    exact ⟨rfl, HF.out⟩
/-- one field read, then the rest -/
def andR {α β : Type} (r : Nat × Nat × α) (d : β) (f : Nat → α → Nat × Nat × β) : Nat × Nat × β := if r.1 ≠ 0 then (r.1, r.2.1, d) else f r.2.1 r.2.2
theorem andR_ok {α β : Type} {r : Nat × Nat × α} {d : β} {f : Nat → α → Nat × Nat × β} (h : r.1 = 0) : andR r d f = f r.2.1 r.2.2 := if_neg (fun e => e h)
theorem andR_no {α β : Type} {r : Nat × Nat × α} {d : β} {f : Nat → α → Nat × Nat × β} (h : r.1 ≠ 0) : andR r d f = (r.1, r.2.1, d) := if_pos h
def fTx (l : List UInt8) (most i : Nat) : Nat × Nat × ByteArray := ((tx (l.drop i) most).2.2, i + (tx (l.drop i) most).2.1, ⟨(tx (l.drop i) most).1.toArray⟩)
def fIn (l : List UInt8) (i : Nat) : Nat × Nat × Int := ((rd (l.drop i) 0 0).2.2, i + (rd (l.drop i) 0 0).2.1, unfI (rd (l.drop i) 0 0).1)
def rq0 : Rq := ⟨⟨#[]⟩, 0, [], ⟨#[]⟩, 0, 0⟩
/-- a request's fields from place i on: the error, its place or where they end, the request -/
def fRq (l : List UInt8) (most i : Nat) : Nat × Nat × Rq :=
  andR (fTx l most i) rq0 fun i1 a => andR (fIn l i1) rq0 fun i2 k => andR (fLi l most i2) rq0 fun i3 L => andR (fTx l most i3) rq0 fun i4 hd => andR (fIn l i4) rq0 fun i5 t => andR (fIn l i5) rq0 fun i6 n => (0, i6, ⟨a, k, L, hd, t, n⟩)
theorem fRq_eq (l : List UInt8) (most i : Nat) : fRq l most i = andR (fTx l most i) rq0 fun i1 a => andR (fIn l i1) rq0 fun i2 k => andR (fLi l most i2) rq0 fun i3 L => andR (fTx l most i3) rq0 fun i4 hd => andR (fIn l i4) rq0 fun i5 t => andR (fIn l i5) rq0 fun i6 n => (0, i6, ⟨a, k, L, hd, t, n⟩) := rfl
/-- a request in block qb: its fields, its lines at v -/
def rqC (r : Rq) (v : Value) : Array Value := #[.string r.id, .int .i64 r.kind, v, .string r.hold, .int .i64 r.ttl, .int .i64 r.now]
/-- some request lies in block qb -/
def AnyQ (qb : Nat) (w : World) : Prop := ∃ s0 n0 ao n c s1 n1 n2, w.heap[qb]? = some (.cells #[.string s0, .int .i64 n0, .slice ao n c, .string s1, .int .i64 n1, .int .i64 n2] 24 (0, 0))
theorem OLn.form {w : World} {base : Nat} {v : Value} {L : List Ln} (h : OLn w base v L) : ∃ ao n c, v = .slice ao n c := by
  rcases h.2 with ⟨g, _⟩ | ⟨x, y, z, g1, _⟩
  · exact ⟨_, _, _, g⟩
  · exact ⟨_, _, _, g1⟩
/-- behind a request's fields that are read into block qb -/
def Df (rb b off cap : Nat) (l : List UInt8) (i most qb : Nat) (w : World) (e : Ending) (w' : World) : Prop :=
  Tb rb qb w w' ∧ (((fRq l most i).1 = 0 ∧ e = .returned (.tuple #[]) ∧ RD w' rb b off cap l (fRq l most i).2.1 most ∧ ∃ v', w'.heap[qb]? = some (.cells (rqC (fRq l most i).2.2 v') 24 (0, 0)) ∧ OLn w' w.heap.size v' (fRq l most i).2.2.lines)
  ∨ ((fRq l most i).1 ≠ 0 ∧ e = flt ((fRq l most i).1 : Int) ((fRq l most i).2.1 : Int) ∧ AnyQ qb w'))
theorem OLn.tb {rb qb base : Nat} {w w' : World} {v : Value} {L : List Ln} (h : OLn w base v L) (k : Tb rb qb w w') (h1 : rb < base) (h2 : qb < base) : OLn w' base v L := by
  refine ⟨h.1, ?_⟩
  rcases h.2 with g | ⟨x, y, z, g1, g2, g3, g4⟩
  · exact .inl g
  · exact .inr ⟨x, y, z, g1, g2, (k.block x (Array.getElem?_eq_some_iff.1 g3).1 (by omega) (by omega)).trans g3, g4⟩
theorem q_set {qb : Nat} {w : World} {q k rb : Nat} {row : Array Value} {T : TypeId} (h : w.heap[qb]? = some (.cells row T (0, 0))) (hn : qb ≠ rb) (j : Nat) (u : Value) : (((w.drewN q).setCell ⟨rb, 1, none⟩ (.int .i64 (k : Int))).setCell ⟨qb, j, none⟩ u).heap[qb]? = some (.cells (row.setIfInBounds j u) T (0, 0)) :=
  heap_setCell_same _ qb j _ _ u ((heap_setCell_other (w.drewN q) ⟨rb, 1, none⟩ qb _ hn).trans h)
set_option maxHeartbeats 4000000 in
theorem dfields_any (qb : Nat) (w : World) {rb b off cap i most : Nat} {l : List UInt8} (h : RD w rb b off cap l i most) (hcp : l.length ≤ 100000000000000) (hm : most ≤ 1000000000)
    (hq : w.heap[qb]? = some (.cells (rqC rq0 (.slice none 0 0)) 24 (0, 0))) (hqb : qb ≠ rb ∧ qb ≠ b) (hbw : b < w.heap.size) :
    Calls Try.prog 72 #[ir rb, .pointer (some ⟨qb, 0, none⟩)] w fun e w' => Df rb b off cap l i most qb w e w' := by
  have hmf : ∀ (fn : Fn) (first cap : Array Value) (w : World), (Instr.makeFunc fn first cap).run Try.prog w = .ok (.func fn first cap) w := fun _ _ _ _ => rfl
  have HF0 := hid (fRq_eq l most i)
  have hq1 := (Array.getElem?_eq_some_iff.1 hq).1
  have hr1 := (Array.getElem?_eq_some_iff.1 h.top).1
  have HR0 := hid h
  have HT0 := hid (Tb.drewN rb qb w 0)
  have HQ0 := hid hq
  clear h hq
  go_enter Try.func72, Try.ntmps72
  have hq : w.heap[qb]? = some (.cells #[.string ⟨#[]⟩, .int .i64 0, .slice none 0 0, .string ⟨#[]⟩, .int .i64 0, .int .i64 0] 24 (0, 0)) := HQ0.out
  have hsz0 := HT0.out.size
  have HC := hid (fun q => dtext_any ⟨qb, 0, none⟩ ⟨#[]⟩ (w.drewN q) (HR0.out.drewN q) hcp hm (by show w.cell? _ = _; rw [cell_of_row _ _ _ _ _ _ hq]; rfl) (by show w.frozen? _ = _; simp [World.frozen?, hq]) hqb.1)
  have hle := at_le HR0.out.at' (tx_le (l.drop i) most)
  have hna := nr_text rb
  have hme := mr_text
  clear hq
  go_wp2_with fail
  refine wp_region_any (by kernel_rfl) ?_
  try (change wpAny _ _ _ _ _ _ _ (World.drew _))
  refine wpAny_take (i := 0) (v := ir rb) rfl (by kernel_rfl) (by kernel_rfl) (by kernel_rfl) (fun _ _ _ h => h) (Or.inl ⟨by rfl, by intro w; go_simp⟩) ?_
  refine wpAny_take (i := 1) (v := .pointer (some ⟨qb, 0, none⟩)) rfl (by kernel_rfl) (by kernel_rfl) (by kernel_rfl) (fun _ _ _ h => h) (Or.inl ⟨by rfl, by intro w; go_simp⟩) ?_
  refine wpAny_take (i := 2) (v := .pointer (some ⟨qb, 0, none⟩)) rfl (by kernel_rfl) (by kernel_rfl) (by kernel_rfl) (fun _ _ _ h => h) (Or.inl ⟨by rfl, by intro w; go_simp⟩) ?_
  refine wpAny_take (i := 3) (v := .pointer (some ⟨qb, 0, none⟩)) rfl (by kernel_rfl) (by kernel_rfl) (by kernel_rfl) (fun _ _ _ h => h) (Or.inl ⟨by rfl, by intro w; go_simp⟩) ?_
  refine wpAny_ready (rs := [4]) (by kernel_rfl) (by simp) ?_
  refine AllReady.cons rfl (fun K hK => ?_) AllReady.nil
  go_simp
  refine hK _ _ ?_
  clear hK K
  refine wpAny_take (i := 5) (v := .func (.method "larder/codec.text") #[ir rb] #[]) rfl (by kernel_rfl) (by kernel_rfl) (by kernel_rfl) (fun _ _ _ h => h) (Or.inl ⟨by rfl, by intro w; go_simp⟩) ?_
  refine wpAny_take (i := 6) (v := ir rb) rfl (by kernel_rfl) (by kernel_rfl) (by kernel_rfl) (fun _ _ _ h => h) (Or.inl ⟨by rfl, by intro w; go_simp⟩) ?_
  refine wpAny_ready (rs := [7]) (by kernel_rfl) (by simp) ?_
  refine AllReady.cons rfl (fun K hK => ?_) AllReady.nil
  go_simp
  go_wp2_with fail
  refine (HC.out _).mono ?_
  rintro e w1 ⟨q1, ⟨he, rfl, hw⟩ | ⟨he, rfl, hw⟩⟩
  rotate_left
  · have HF := hid (show Df rb b off cap l i most qb w (flt ((fTx l most i).1 : Int) ((fTx l most i).2.1 : Int)) w1 by
      unfold Df
      rw [HF0.out, andR_no (show (fTx l most i).1 ≠ 0 from he)]
      exact ⟨HT0.out.trans ((Tb.drewN rb qb w 1).trans (by rw [hw]; exact Tb.drewN _ _ _ _)), .inr ⟨he, rfl, _, _, _, _, _, _, _, _, by rw [hw]; exact (show w.heap[qb]? = some (.cells #[.string ⟨#[]⟩, .int .i64 0, .slice none 0 0, .string ⟨#[]⟩, .int .i64 0, .int .i64 0] 24 (0, 0)) from HQ0.out)⟩⟩)
    clear hw
    go_wp2_with fail
    exact ⟨rfl, HF.out⟩
  have HT1 := hid (HT0.out.trans ((Tb.drewN rb qb w 1).trans (show Tb rb qb (w.drewN 1) w1 by rw [hw]; exact Tb.put _ q1 ⟨qb, 0, none⟩ _ _ rfl)))
  have HQ1 := hid (show w1.heap[qb]? = some (.cells ((#[.string ⟨#[]⟩, .int .i64 0, .slice none 0 0, .string ⟨#[]⟩, .int .i64 0, .int .i64 0] : Array Value).setIfInBounds 0 (.string (fTx l most i).2.2)) 24 (0, 0)) by rw [hw]; exact q_set (w := w.drewN 1) HQ0.out hqb.1 0 _)
  have HR1 := hid (show RD w1 rb b off cap l (fTx l most i).2.1 most by rw [hw]; exact (HR0.out.drewN 1).put q1 _ ⟨qb, 0, none⟩ _ hle hqb.1 hqb.2)
  have HF1 := hid (HF0.out.trans (andR_ok (show (fTx l most i).1 = 0 from he)))
  obtain ⟨i1, hi⟩ : ∃ x, (fTx l most i).2.1 = x := ⟨_, rfl⟩
  obtain ⟨a1, ha⟩ : ∃ x, (fTx l most i).2.2 = x := ⟨_, rfl⟩
  rw [hi, ha] at HF1
  rw [hi] at HR1
  rw [ha] at HQ1
  clear hi ha hw he HC HT0 HQ0 HR0 HF0 hna hme hle
  go_wp2_with fail
  refine wpAny_done (by kernel_rfl) ?_ _
  have hq : w1.heap[qb]? = some (.cells #[.string a1, .int .i64 0, .slice none 0 0, .string ⟨#[]⟩, .int .i64 0, .int .i64 0] 24 (0, 0)) := HQ1.out
  have hsz1 := HT1.out.size
  have HC := hid (fun q => dwhole_any ⟨qb, 1, none⟩ 0 (w1.drewN q) (HR1.out.drewN q) hcp (by show w1.cell? _ = _; rw [cell_of_row _ _ _ _ _ _ hq]; rfl) (by show w1.frozen? _ = _; simp [World.frozen?, hq]) hqb.1)
  have hle := at_le HR1.out.at' ((show (rd (l.drop i1) 0 0).2.1 ≤ _ by have := rd_le (l.drop i1) 0 0; omega))
  have hna := nr_whole rb
  have hme := mr_whole
  clear hq
  go_wp2_with fail
  refine wp_region_any (by kernel_rfl) ?_
  try (change wpAny _ _ _ _ _ _ _ (World.drew _))
  refine wpAny_take (i := 0) (v := ir rb) rfl (by kernel_rfl) (by kernel_rfl) (by kernel_rfl) (fun _ _ _ h => h) (Or.inl ⟨by rfl, by intro w; go_simp⟩) ?_
  refine wpAny_take (i := 1) (v := .pointer (some ⟨qb, 0, none⟩)) rfl (by kernel_rfl) (by kernel_rfl) (by kernel_rfl) (fun _ _ _ h => h) (Or.inl ⟨by rfl, by intro w; go_simp⟩) ?_
  refine wpAny_take (i := 2) (v := .pointer (some ⟨qb, 0, none⟩)) rfl (by kernel_rfl) (by kernel_rfl) (by kernel_rfl) (fun _ _ _ h => h) (Or.inl ⟨by rfl, by intro w; go_simp⟩) ?_
  refine wpAny_take (i := 3) (v := .pointer (some ⟨qb, 1, none⟩)) rfl (by kernel_rfl) (by kernel_rfl) (by kernel_rfl) (fun _ _ _ h => h) (Or.inl ⟨by rfl, by intro w; go_simp⟩) ?_
  refine wpAny_ready (rs := [4]) (by kernel_rfl) (by simp) ?_
  refine AllReady.cons rfl (fun K hK => ?_) AllReady.nil
  go_simp
  refine hK _ _ ?_
  clear hK K
  refine wpAny_take (i := 5) (v := .func (.method "larder/codec.whole") #[ir rb] #[]) rfl (by kernel_rfl) (by kernel_rfl) (by kernel_rfl) (fun _ _ _ h => h) (Or.inl ⟨by rfl, by intro w; go_simp⟩) ?_
  refine wpAny_take (i := 6) (v := ir rb) rfl (by kernel_rfl) (by kernel_rfl) (by kernel_rfl) (fun _ _ _ h => h) (Or.inl ⟨by rfl, by intro w; go_simp⟩) ?_
  refine wpAny_ready (rs := [7]) (by kernel_rfl) (by simp) ?_
  refine AllReady.cons rfl (fun K hK => ?_) AllReady.nil
  go_simp
  go_wp2_with fail
  refine (HC.out _).mono ?_
  rintro e w2 ⟨q2, ⟨he, rfl, hw⟩ | ⟨he, rfl, hw⟩⟩
  rotate_left
  · have HF := hid (show Df rb b off cap l i most qb w (flt ((fIn l i1).1 : Int) ((fIn l i1).2.1 : Int)) w2 by
      unfold Df
      rw [HF1.out, andR_no (show (fIn l i1).1 ≠ 0 from he)]
      exact ⟨HT1.out.trans ((Tb.drewN rb qb w1 1).trans (by rw [hw]; exact Tb.drewN _ _ _ _)), .inr ⟨he, rfl, _, _, _, _, _, _, _, _, by rw [hw]; exact (show w1.heap[qb]? = some (.cells #[.string a1, .int .i64 0, .slice none 0 0, .string ⟨#[]⟩, .int .i64 0, .int .i64 0] 24 (0, 0)) from HQ1.out)⟩⟩)
    clear hw
    go_wp2_with fail
    exact ⟨rfl, HF.out⟩
  have HT2 := hid (HT1.out.trans ((Tb.drewN rb qb w1 1).trans (show Tb rb qb (w1.drewN 1) w2 by rw [hw]; exact Tb.put _ q2 ⟨qb, 1, none⟩ _ _ rfl)))
  have HQ2 := hid (show w2.heap[qb]? = some (.cells ((#[.string a1, .int .i64 0, .slice none 0 0, .string ⟨#[]⟩, .int .i64 0, .int .i64 0] : Array Value).setIfInBounds 1 (.int .i64 (fIn l i1).2.2)) 24 (0, 0)) by rw [hw]; exact q_set (w := w1.drewN 1) HQ1.out hqb.1 1 _)
  have HR2 := hid (show RD w2 rb b off cap l (fIn l i1).2.1 most by rw [hw]; exact (HR1.out.drewN 1).put q2 _ ⟨qb, 1, none⟩ _ hle hqb.1 hqb.2)
  have HF2 := hid (HF1.out.trans (andR_ok (show (fIn l i1).1 = 0 from he)))
  obtain ⟨i2, hi⟩ : ∃ x, (fIn l i1).2.1 = x := ⟨_, rfl⟩
  obtain ⟨a2, ha⟩ : ∃ x, (fIn l i1).2.2 = x := ⟨_, rfl⟩
  rw [hi, ha] at HF2
  rw [hi] at HR2
  rw [ha] at HQ2
  clear hi ha hw he HC HT1 HQ1 HR1 HF1 hna hme hle
  go_wp2_with fail
  refine wpAny_done (by kernel_rfl) ?_ _
  have hq : w2.heap[qb]? = some (.cells #[.string a1, .int .i64 a2, .slice none 0 0, .string ⟨#[]⟩, .int .i64 0, .int .i64 0] 24 (0, 0)) := HQ2.out
  have hsz2 := HT2.out.size
  have HC := hid (dlines_any qb 2 #[.string a1, .int .i64 a2, .slice none 0 0, .string ⟨#[]⟩, .int .i64 0, .int .i64 0] 24 w2 HR2.out hcp hm hq rfl hqb (by omega))
  clear hq
  go_wp2_with fail
  refine Calls.mono HC.out ?_
  rintro e w3 ⟨ht, ⟨he, rfl, hr, v3, hq3, ho3⟩ | ⟨he, rfl, ao9, n9, c9, hq9⟩⟩
  rotate_left
  · have HF := hid (show Df rb b off cap l i most qb w (flt ((fLi l most i2).1 : Int) ((fLi l most i2).2.1 : Int)) w3 by
      unfold Df
      rw [HF2.out, andR_no he]
      exact ⟨HT2.out.trans ht, .inr ⟨he, rfl, _, _, _, _, _, _, _, _, hq9⟩⟩)
    clear ht hq9
    go_wp2_with fail
    exact ⟨rfl, HF.out⟩
  obtain ⟨ao3, n3, c3, rfl⟩ := ho3.form
  have HT3 := hid (HT2.out.trans ht)
  have HQ3 := hid hq3
  have HR3 := hid hr
  have HO3 := hid (show OLn w3 w.heap.size (.slice ao3 n3 c3) (fLi l most i2).2.2 by
    refine ⟨ho3.1, ?_⟩
    rcases ho3.2 with g | ⟨x, y, z, g1, g2, g3⟩
    · exact .inl g
    · exact .inr ⟨x, y, z, g1, by omega, g3⟩)
  have HF3 := hid (HF2.out.trans (andR_ok he))
  obtain ⟨i3, hi⟩ : ∃ x, (fLi l most i2).2.1 = x := ⟨_, rfl⟩
  obtain ⟨a3, ha⟩ : ∃ x, (fLi l most i2).2.2 = x := ⟨_, rfl⟩
  rw [hi, ha] at HF3
  rw [hi] at HR3
  rw [ha] at HO3
  clear hi ha ht hr hq3 ho3 he HC HT2 HQ2 HR2 HF2
  go_wp2_with fail
  have hq : w3.heap[qb]? = some (.cells #[.string a1, .int .i64 a2, .slice ao3 n3 c3, .string ⟨#[]⟩, .int .i64 0, .int .i64 0] 24 (0, 0)) := HQ3.out
  have hsz3 := HT3.out.size
  have HC := hid (fun q => dtext_any ⟨qb, 3, none⟩ ⟨#[]⟩ (w3.drewN q) (HR3.out.drewN q) hcp hm (by show w3.cell? _ = _; rw [cell_of_row _ _ _ _ _ _ hq]; rfl) (by show w3.frozen? _ = _; simp [World.frozen?, hq]) hqb.1)
  have hle := at_le HR3.out.at' (tx_le (l.drop i3) most)
  have hna := nr_text rb
  have hme := mr_text
  clear hq
  go_wp2_with fail
  refine wp_region_any (by kernel_rfl) ?_
  try (change wpAny _ _ _ _ _ _ _ (World.drew _))
  refine wpAny_take (i := 0) (v := ir rb) rfl (by kernel_rfl) (by kernel_rfl) (by kernel_rfl) (fun _ _ _ h => h) (Or.inl ⟨by rfl, by intro w; go_simp⟩) ?_
  refine wpAny_take (i := 1) (v := .pointer (some ⟨qb, 0, none⟩)) rfl (by kernel_rfl) (by kernel_rfl) (by kernel_rfl) (fun _ _ _ h => h) (Or.inl ⟨by rfl, by intro w; go_simp⟩) ?_
  refine wpAny_take (i := 2) (v := .pointer (some ⟨qb, 0, none⟩)) rfl (by kernel_rfl) (by kernel_rfl) (by kernel_rfl) (fun _ _ _ h => h) (Or.inl ⟨by rfl, by intro w; go_simp⟩) ?_
  refine wpAny_take (i := 3) (v := .pointer (some ⟨qb, 3, none⟩)) rfl (by kernel_rfl) (by kernel_rfl) (by kernel_rfl) (fun _ _ _ h => h) (Or.inl ⟨by rfl, by intro w; go_simp⟩) ?_
  refine wpAny_ready (rs := [4]) (by kernel_rfl) (by simp) ?_
  refine AllReady.cons rfl (fun K hK => ?_) AllReady.nil
  go_simp
  refine hK _ _ ?_
  clear hK K
  refine wpAny_take (i := 5) (v := .func (.method "larder/codec.text") #[ir rb] #[]) rfl (by kernel_rfl) (by kernel_rfl) (by kernel_rfl) (fun _ _ _ h => h) (Or.inl ⟨by rfl, by intro w; go_simp⟩) ?_
  refine wpAny_take (i := 6) (v := ir rb) rfl (by kernel_rfl) (by kernel_rfl) (by kernel_rfl) (fun _ _ _ h => h) (Or.inl ⟨by rfl, by intro w; go_simp⟩) ?_
  refine wpAny_ready (rs := [7]) (by kernel_rfl) (by simp) ?_
  refine AllReady.cons rfl (fun K hK => ?_) AllReady.nil
  go_simp
  go_wp2_with fail
  refine (HC.out _).mono ?_
  rintro e w4 ⟨q4, ⟨he, rfl, hw⟩ | ⟨he, rfl, hw⟩⟩
  rotate_left
  · have HF := hid (show Df rb b off cap l i most qb w (flt ((fTx l most i3).1 : Int) ((fTx l most i3).2.1 : Int)) w4 by
      unfold Df
      rw [HF3.out, andR_no (show (fTx l most i3).1 ≠ 0 from he)]
      exact ⟨HT3.out.trans ((Tb.drewN rb qb w3 1).trans (by rw [hw]; exact Tb.drewN _ _ _ _)), .inr ⟨he, rfl, _, _, _, _, _, _, _, _, by rw [hw]; exact (show w3.heap[qb]? = some (.cells #[.string a1, .int .i64 a2, .slice ao3 n3 c3, .string ⟨#[]⟩, .int .i64 0, .int .i64 0] 24 (0, 0)) from HQ3.out)⟩⟩)
    clear hw
    go_wp2_with fail
    exact ⟨rfl, HF.out⟩
  have HT4 := hid (HT3.out.trans ((Tb.drewN rb qb w3 1).trans (show Tb rb qb (w3.drewN 1) w4 by rw [hw]; exact Tb.put _ q4 ⟨qb, 3, none⟩ _ _ rfl)))
  have HQ4 := hid (show w4.heap[qb]? = some (.cells ((#[.string a1, .int .i64 a2, .slice ao3 n3 c3, .string ⟨#[]⟩, .int .i64 0, .int .i64 0] : Array Value).setIfInBounds 3 (.string (fTx l most i3).2.2)) 24 (0, 0)) by rw [hw]; exact q_set (w := w3.drewN 1) HQ3.out hqb.1 3 _)
  have HR4 := hid (show RD w4 rb b off cap l (fTx l most i3).2.1 most by rw [hw]; exact (HR3.out.drewN 1).put q4 _ ⟨qb, 3, none⟩ _ hle hqb.1 hqb.2)
  have HO4 := hid (HO3.out.tb ((Tb.drewN rb qb w3 1).trans (show Tb rb qb (w3.drewN 1) w4 by rw [hw]; exact Tb.put _ q4 ⟨qb, 3, none⟩ _ _ rfl)) hr1 hq1)
  have HF4 := hid (HF3.out.trans (andR_ok (show (fTx l most i3).1 = 0 from he)))
  obtain ⟨i4, hi⟩ : ∃ x, (fTx l most i3).2.1 = x := ⟨_, rfl⟩
  obtain ⟨a4, ha⟩ : ∃ x, (fTx l most i3).2.2 = x := ⟨_, rfl⟩
  rw [hi, ha] at HF4
  rw [hi] at HR4
  rw [ha] at HQ4
  clear hi ha hw he HC HT3 HQ3 HR3 HF3 hna hme hle HO3
  go_wp2_with fail
  refine wpAny_done (by kernel_rfl) ?_ _
  have hq : w4.heap[qb]? = some (.cells #[.string a1, .int .i64 a2, .slice ao3 n3 c3, .string a4, .int .i64 0, .int .i64 0] 24 (0, 0)) := HQ4.out
  have hsz4 := HT4.out.size
  have HC := hid (fun q => dwhole_any ⟨qb, 4, none⟩ 0 (w4.drewN q) (HR4.out.drewN q) hcp (by show w4.cell? _ = _; rw [cell_of_row _ _ _ _ _ _ hq]; rfl) (by show w4.frozen? _ = _; simp [World.frozen?, hq]) hqb.1)
  have hle := at_le HR4.out.at' ((show (rd (l.drop i4) 0 0).2.1 ≤ _ by have := rd_le (l.drop i4) 0 0; omega))
  have hna := nr_whole rb
  have hme := mr_whole
  clear hq
  go_wp2_with fail
  refine wp_region_any (by kernel_rfl) ?_
  try (change wpAny _ _ _ _ _ _ _ (World.drew _))
  refine wpAny_take (i := 0) (v := ir rb) rfl (by kernel_rfl) (by kernel_rfl) (by kernel_rfl) (fun _ _ _ h => h) (Or.inl ⟨by rfl, by intro w; go_simp⟩) ?_
  refine wpAny_take (i := 1) (v := .pointer (some ⟨qb, 0, none⟩)) rfl (by kernel_rfl) (by kernel_rfl) (by kernel_rfl) (fun _ _ _ h => h) (Or.inl ⟨by rfl, by intro w; go_simp⟩) ?_
  refine wpAny_take (i := 2) (v := .pointer (some ⟨qb, 0, none⟩)) rfl (by kernel_rfl) (by kernel_rfl) (by kernel_rfl) (fun _ _ _ h => h) (Or.inl ⟨by rfl, by intro w; go_simp⟩) ?_
  refine wpAny_take (i := 3) (v := .pointer (some ⟨qb, 4, none⟩)) rfl (by kernel_rfl) (by kernel_rfl) (by kernel_rfl) (fun _ _ _ h => h) (Or.inl ⟨by rfl, by intro w; go_simp⟩) ?_
  refine wpAny_ready (rs := [4]) (by kernel_rfl) (by simp) ?_
  refine AllReady.cons rfl (fun K hK => ?_) AllReady.nil
  go_simp
  refine hK _ _ ?_
  clear hK K
  refine wpAny_take (i := 5) (v := .func (.method "larder/codec.whole") #[ir rb] #[]) rfl (by kernel_rfl) (by kernel_rfl) (by kernel_rfl) (fun _ _ _ h => h) (Or.inl ⟨by rfl, by intro w; go_simp⟩) ?_
  refine wpAny_take (i := 6) (v := ir rb) rfl (by kernel_rfl) (by kernel_rfl) (by kernel_rfl) (fun _ _ _ h => h) (Or.inl ⟨by rfl, by intro w; go_simp⟩) ?_
  refine wpAny_ready (rs := [7]) (by kernel_rfl) (by simp) ?_
  refine AllReady.cons rfl (fun K hK => ?_) AllReady.nil
  go_simp
  go_wp2_with fail
  refine (HC.out _).mono ?_
  rintro e w5 ⟨q5, ⟨he, rfl, hw⟩ | ⟨he, rfl, hw⟩⟩
  rotate_left
  · have HF := hid (show Df rb b off cap l i most qb w (flt ((fIn l i4).1 : Int) ((fIn l i4).2.1 : Int)) w5 by
      unfold Df
      rw [HF4.out, andR_no (show (fIn l i4).1 ≠ 0 from he)]
      exact ⟨HT4.out.trans ((Tb.drewN rb qb w4 1).trans (by rw [hw]; exact Tb.drewN _ _ _ _)), .inr ⟨he, rfl, _, _, _, _, _, _, _, _, by rw [hw]; exact (show w4.heap[qb]? = some (.cells #[.string a1, .int .i64 a2, .slice ao3 n3 c3, .string a4, .int .i64 0, .int .i64 0] 24 (0, 0)) from HQ4.out)⟩⟩)
    clear hw
    go_wp2_with fail
    exact ⟨rfl, HF.out⟩
  have HT5 := hid (HT4.out.trans ((Tb.drewN rb qb w4 1).trans (show Tb rb qb (w4.drewN 1) w5 by rw [hw]; exact Tb.put _ q5 ⟨qb, 4, none⟩ _ _ rfl)))
  have HQ5 := hid (show w5.heap[qb]? = some (.cells ((#[.string a1, .int .i64 a2, .slice ao3 n3 c3, .string a4, .int .i64 0, .int .i64 0] : Array Value).setIfInBounds 4 (.int .i64 (fIn l i4).2.2)) 24 (0, 0)) by rw [hw]; exact q_set (w := w4.drewN 1) HQ4.out hqb.1 4 _)
  have HR5 := hid (show RD w5 rb b off cap l (fIn l i4).2.1 most by rw [hw]; exact (HR4.out.drewN 1).put q5 _ ⟨qb, 4, none⟩ _ hle hqb.1 hqb.2)
  have HO5 := hid (HO4.out.tb ((Tb.drewN rb qb w4 1).trans (show Tb rb qb (w4.drewN 1) w5 by rw [hw]; exact Tb.put _ q5 ⟨qb, 4, none⟩ _ _ rfl)) hr1 hq1)
  have HF5 := hid (HF4.out.trans (andR_ok (show (fIn l i4).1 = 0 from he)))
  obtain ⟨i5, hi⟩ : ∃ x, (fIn l i4).2.1 = x := ⟨_, rfl⟩
  obtain ⟨a5, ha⟩ : ∃ x, (fIn l i4).2.2 = x := ⟨_, rfl⟩
  rw [hi, ha] at HF5
  rw [hi] at HR5
  rw [ha] at HQ5
  clear hi ha hw he HC HT4 HQ4 HR4 HF4 hna hme hle HO4
  go_wp2_with fail
  refine wpAny_done (by kernel_rfl) ?_ _
  have hq : w5.heap[qb]? = some (.cells #[.string a1, .int .i64 a2, .slice ao3 n3 c3, .string a4, .int .i64 a5, .int .i64 0] 24 (0, 0)) := HQ5.out
  have hsz5 := HT5.out.size
  have HC := hid (fun q => dwhole_any ⟨qb, 5, none⟩ 0 (w5.drewN q) (HR5.out.drewN q) hcp (by show w5.cell? _ = _; rw [cell_of_row _ _ _ _ _ _ hq]; rfl) (by show w5.frozen? _ = _; simp [World.frozen?, hq]) hqb.1)
  have hle := at_le HR5.out.at' ((show (rd (l.drop i5) 0 0).2.1 ≤ _ by have := rd_le (l.drop i5) 0 0; omega))
  have hna := nr_whole rb
  have hme := mr_whole
  clear hq
  go_wp2_with fail
  refine wp_region_any (by kernel_rfl) ?_
  try (change wpAny _ _ _ _ _ _ _ (World.drew _))
  refine wpAny_take (i := 0) (v := ir rb) rfl (by kernel_rfl) (by kernel_rfl) (by kernel_rfl) (fun _ _ _ h => h) (Or.inl ⟨by rfl, by intro w; go_simp⟩) ?_
  refine wpAny_take (i := 1) (v := .pointer (some ⟨qb, 0, none⟩)) rfl (by kernel_rfl) (by kernel_rfl) (by kernel_rfl) (fun _ _ _ h => h) (Or.inl ⟨by rfl, by intro w; go_simp⟩) ?_
  refine wpAny_take (i := 2) (v := .pointer (some ⟨qb, 0, none⟩)) rfl (by kernel_rfl) (by kernel_rfl) (by kernel_rfl) (fun _ _ _ h => h) (Or.inl ⟨by rfl, by intro w; go_simp⟩) ?_
  refine wpAny_take (i := 3) (v := .pointer (some ⟨qb, 5, none⟩)) rfl (by kernel_rfl) (by kernel_rfl) (by kernel_rfl) (fun _ _ _ h => h) (Or.inl ⟨by rfl, by intro w; go_simp⟩) ?_
  refine wpAny_ready (rs := [4]) (by kernel_rfl) (by simp) ?_
  refine AllReady.cons rfl (fun K hK => ?_) AllReady.nil
  go_simp
  refine hK _ _ ?_
  clear hK K
  refine wpAny_take (i := 5) (v := .func (.method "larder/codec.whole") #[ir rb] #[]) rfl (by kernel_rfl) (by kernel_rfl) (by kernel_rfl) (fun _ _ _ h => h) (Or.inl ⟨by rfl, by intro w; go_simp⟩) ?_
  refine wpAny_take (i := 6) (v := ir rb) rfl (by kernel_rfl) (by kernel_rfl) (by kernel_rfl) (fun _ _ _ h => h) (Or.inl ⟨by rfl, by intro w; go_simp⟩) ?_
  refine wpAny_ready (rs := [7]) (by kernel_rfl) (by simp) ?_
  refine AllReady.cons rfl (fun K hK => ?_) AllReady.nil
  go_simp
  go_wp2_with fail
  refine (HC.out _).mono ?_
  rintro e w6 ⟨q6, ⟨he, rfl, hw⟩ | ⟨he, rfl, hw⟩⟩
  rotate_left
  · have HF := hid (show Df rb b off cap l i most qb w (flt ((fIn l i5).1 : Int) ((fIn l i5).2.1 : Int)) w6 by
      unfold Df
      rw [HF5.out, andR_no (show (fIn l i5).1 ≠ 0 from he)]
      exact ⟨HT5.out.trans ((Tb.drewN rb qb w5 1).trans (by rw [hw]; exact Tb.drewN _ _ _ _)), .inr ⟨he, rfl, _, _, _, _, _, _, _, _, by rw [hw]; exact (show w5.heap[qb]? = some (.cells #[.string a1, .int .i64 a2, .slice ao3 n3 c3, .string a4, .int .i64 a5, .int .i64 0] 24 (0, 0)) from HQ5.out)⟩⟩)
    clear hw
    go_wp2_with fail
    exact ⟨rfl, HF.out⟩
  have HT6 := hid (HT5.out.trans ((Tb.drewN rb qb w5 1).trans (show Tb rb qb (w5.drewN 1) w6 by rw [hw]; exact Tb.put _ q6 ⟨qb, 5, none⟩ _ _ rfl)))
  have HQ6 := hid (show w6.heap[qb]? = some (.cells ((#[.string a1, .int .i64 a2, .slice ao3 n3 c3, .string a4, .int .i64 a5, .int .i64 0] : Array Value).setIfInBounds 5 (.int .i64 (fIn l i5).2.2)) 24 (0, 0)) by rw [hw]; exact q_set (w := w5.drewN 1) HQ5.out hqb.1 5 _)
  have HR6 := hid (show RD w6 rb b off cap l (fIn l i5).2.1 most by rw [hw]; exact (HR5.out.drewN 1).put q6 _ ⟨qb, 5, none⟩ _ hle hqb.1 hqb.2)
  have HO6 := hid (HO5.out.tb ((Tb.drewN rb qb w5 1).trans (show Tb rb qb (w5.drewN 1) w6 by rw [hw]; exact Tb.put _ q6 ⟨qb, 5, none⟩ _ _ rfl)) hr1 hq1)
  have HF6 := hid (HF5.out.trans (andR_ok (show (fIn l i5).1 = 0 from he)))
  obtain ⟨i6, hi⟩ : ∃ x, (fIn l i5).2.1 = x := ⟨_, rfl⟩
  obtain ⟨a6, ha⟩ : ∃ x, (fIn l i5).2.2 = x := ⟨_, rfl⟩
  rw [hi, ha] at HF6
  rw [hi] at HR6
  rw [ha] at HQ6
  clear hi ha hw he HC HT5 HQ5 HR5 HF5 hna hme hle HO5
  go_wp2_with fail
  refine wpAny_done (by kernel_rfl) ?_ _
  have HF := hid (show Df rb b off cap l i most qb w (.returned (.tuple #[])) w6 by
    unfold Df
    rw [HF6.out]
    exact ⟨HT6.out, .inl ⟨rfl, rfl, HR6.out, _, HQ6.out, HO6.out⟩⟩)
  go_wp2_with fail
  go_end0
  exact HF.out
end Go.Proofs.Ytfhicemfhkhjaab
