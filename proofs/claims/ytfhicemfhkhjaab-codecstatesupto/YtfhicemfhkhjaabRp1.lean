/-
  codec: replies with a writer. Laid by mkrp1.py.
-/
import Derived.Test.YtfhicemfhkhjaabLv1
namespace Go.Proofs.Ytfhicemfhkhjaab
open Go.RowKit
set_option maxRecDepth 100000

/-- a reply -/
structure Ry where
  id : ByteArray
  err : Int
  line : Int
  levels : List Lv
  now : Int
/-- a reply's fields as bytes -/
def rpB (r : Ry) : List UInt8 := txB r.id ++ (grp (foldI r.err) ++ (grp (foldI r.line) ++ ((grp r.levels.length ++ lvB r.levels) ++ grp (foldI r.now))))
/-- a reply that may be -/
structure RpOk (r : Ry) : Prop where
  b0 : r.id.size ≤ 1000000000000 ∧ r.levels.length ≤ 9223372036854775807
  b1 : -9223372036854775808 ≤ r.err ∧ r.err ≤ 9223372036854775807
  b2 : -9223372036854775808 ≤ r.line ∧ r.line ≤ 9223372036854775807
  b3 : -9223372036854775808 ≤ r.now ∧ r.now ≤ 9223372036854775807
/-- a reply as a value -/
def rpV (r : Ry) (ao : Option Addr) (cap : Nat) : Value := .agg #[.string r.id, .int .i64 r.err, .int .i64 r.line, .slice ao r.levels.length cap, .int .i64 r.now]
theorem LV.below {w w' : World} {B B' : Nat} {ao : Option Addr} {L : List Lv} (h : LV w B ao L) (k : Below w.heap.size w w') (hb : B ≤ B') : LV w' B' ao L := fun i hi => by
  obtain ⟨hb', g, off, ha, hg, c0, c1, c2⟩ := h i hi
  exact ⟨hb', g, off, ha, by omega, below_cells k _ _ c0, below_cells k _ _ c1, below_cells k _ _ c2⟩
theorem set_same {row : Array Value} {po : Nat} {u : Value} (h : row[po]? = some u) : row.setIfInBounds po u = row := by
  obtain ⟨hlt, e⟩ := Array.getElem?_eq_some_iff.1 h
  apply Array.ext
  · simp
  · intro j h1 h2
    rw [Array.getElem_setIfInBounds]
    split
    · rename_i hc; subst hc; exact e.symm
    · rfl
theorem setCell_self {w : World} {g o : Nat} {row : Array Value} {T : TypeId} {u : Value} (h : w.heap[g]? = some (.cells row T (0, 0))) (hu : row[o]? = some u) : w.setCell ⟨g, o, none⟩ u = w := by
  rw [setCell_eq_setRow w g o row T (0, 0) u h, set_same hu, setRow_self w g row T (0, 0) h]
set_option maxHeartbeats 2000000 in
theorem dRpl_nil (bb eb : Nat) (v : Value) (e0 : Int) (w : World) (h : BE w bb eb v e0) (hv : ∃ ao n c, v = .slice ao n c) :
    CallsD Try.prog 33 #[.pointer (some ⟨bb, 0, none⟩), .pointer (some ⟨eb, 0, none⟩)] .returning w fun e u' w' => e = .returned (.tuple #[]) ∧ u' = .returning ∧ BE w' bb eb v 0 ∧ O2 bb eb w w' := by
  obtain ⟨ao, n, c, rfl⟩ := hv
  refine callsD_of_wpS Try.func33 rfl fun c₀ cs hu => ?_
  have c0 : w.cell? ⟨bb, 0, none⟩ = some (.slice ao n c) := by rw [Lib.cell_of_heap h.1]; rfl
  have f0 : w.frozen? ⟨bb, 0, none⟩ = false := Lib.frozen_of_heap h.1 0
  have f1 : w.frozen? ⟨eb, 0, none⟩ = false := Lib.frozen_of_heap h.2.1 0
  have d1 : w.cell? ⟨eb, 0, none⟩ = some (.int .i64 e0) := by rw [Lib.cell_of_heap h.2.1]; rfl
  have HT := hid (fun w => toldB_nil (.slice ao n c) w)
  have HE := hid h
  have hne : bb ≠ eb := by have := h.2.2; omega
  have hne' : ¬ eb = bb := fun e => hne e.symm
  clear h
  refine wpS_region_any (by kernel_rfl) ?_
  refine wpAnyS_all (rs := [0, 1]) (by kernel_rfl) (by simp) ?_
  intro i hi
  simp only [List.mem_cons, List.not_mem_nil, or_false] at hi
  rcases hi with rfl | rfl
  · simp [wpOpS, go_sem, Try.ntmps33, c0]
    refine wpAnyS_all (rs := [1]) (by kernel_rfl) (by simp) ?_
    intro i hi
    simp only [List.mem_cons, List.not_mem_nil, or_false] at hi
    subst hi
    simp [wpOpS, go_sem, recoverD, hu]
    refine wpAny_toS (by rintro ⟨_, _, u', he, _⟩; cases he) _ _ _ _ ?_
    refine wpAny_ready (rs := [2]) (by kernel_rfl) (by simp) ?_
    refine AllReady.cons rfl (fun K hK => ?_) AllReady.nil
    go_simp
    go_wp2_with fail
    refine (HT.out _).mono ?_
    rintro e w2 ⟨rfl, rfl⟩
    go_wp2_with fail
    refine wpAny_take (i := 3) (v := .tuple #[.slice ao n c, .int .i64 0, .int .i64 0]) rfl (by kernel_rfl) (by kernel_rfl) (by kernel_rfl) (fun _ _ _ h => h) (Or.inl ⟨by rfl, by intro w; go_simp⟩) ?_
    refine wpAny_take (i := 4) (v := .slice ao n c) rfl (by kernel_rfl) (by kernel_rfl) (by kernel_rfl) (fun _ _ _ h => h) (Or.inl ⟨by rfl, by intro w; go_simp⟩) ?_
    refine wpAny_take (i := 5) (v := .int .i64 0) rfl (by kernel_rfl) (by kernel_rfl) (by kernel_rfl) (fun _ _ _ h => h) (Or.inl ⟨by rfl, by intro w; go_simp⟩) ?_
    refine wpAny_take (i := 6) (v := .int .i64 0) rfl (by kernel_rfl) (by kernel_rfl) (by kernel_rfl) (fun _ _ _ h => h) (Or.inl ⟨by rfl, by intro w; go_simp⟩) ?_
    refine wpAny_ready (rs := [7]) (by kernel_rfl) (by simp) ?_
    refine AllReady.cons rfl (fun K hK => ?_) AllReady.nil
    go_simp
    refine hK _ _ ?_
    clear hK K
    refine wpAny_ready (rs := [8]) (by kernel_rfl) (by simp) ?_
    refine AllReady.cons rfl (fun K hK => ?_) AllReady.nil
    go_simp
    refine hK _ _ ?_
    clear hK K
    refine wpAny_done (by kernel_rfl) ?_ _
    exact ⟨rfl, .returning, by rw [← hu], _, results_none rfl _ _ _, rfl, rfl, BE.put (w := w.drew) HE.out _ _, O2.sets (Below.refl _ w).drew _ _⟩
  · simp [wpOpS, go_sem, recoverD, hu, Try.ntmps33]
    refine wpAnyS_all (rs := [0]) (by kernel_rfl) (by simp) ?_
    intro i hi
    simp only [List.mem_cons, List.not_mem_nil, or_false] at hi
    subst hi
    simp [wpOpS, go_sem, c0]
    refine wpAny_toS (by rintro ⟨_, _, u', he, _⟩; cases he) _ _ _ _ ?_
    refine wpAny_ready (rs := [2]) (by kernel_rfl) (by simp) ?_
    refine AllReady.cons rfl (fun K hK => ?_) AllReady.nil
    go_simp
    go_wp2_with fail
    refine (HT.out _).mono ?_
    rintro e w2 ⟨rfl, rfl⟩
    go_wp2_with fail
    refine wpAny_take (i := 3) (v := .tuple #[.slice ao n c, .int .i64 0, .int .i64 0]) rfl (by kernel_rfl) (by kernel_rfl) (by kernel_rfl) (fun _ _ _ h => h) (Or.inl ⟨by rfl, by intro w; go_simp⟩) ?_
    refine wpAny_take (i := 4) (v := .slice ao n c) rfl (by kernel_rfl) (by kernel_rfl) (by kernel_rfl) (fun _ _ _ h => h) (Or.inl ⟨by rfl, by intro w; go_simp⟩) ?_
    refine wpAny_take (i := 5) (v := .int .i64 0) rfl (by kernel_rfl) (by kernel_rfl) (by kernel_rfl) (fun _ _ _ h => h) (Or.inl ⟨by rfl, by intro w; go_simp⟩) ?_
    refine wpAny_take (i := 6) (v := .int .i64 0) rfl (by kernel_rfl) (by kernel_rfl) (by kernel_rfl) (fun _ _ _ h => h) (Or.inl ⟨by rfl, by intro w; go_simp⟩) ?_
    refine wpAny_ready (rs := [7]) (by kernel_rfl) (by simp) ?_
    refine AllReady.cons rfl (fun K hK => ?_) AllReady.nil
    go_simp
    refine hK _ _ ?_
    clear hK K
    refine wpAny_ready (rs := [8]) (by kernel_rfl) (by simp) ?_
    refine AllReady.cons rfl (fun K hK => ?_) AllReady.nil
    go_simp
    refine hK _ _ ?_
    clear hK K
    refine wpAny_done (by kernel_rfl) ?_ _
    exact ⟨rfl, .returning, by rw [← hu], _, results_none rfl _ _ _, rfl, rfl, BE.put (w := w.drew) HE.out _ _, O2.sets (Below.refl _ w).drew _ _⟩
set_option maxHeartbeats 2000000 in
theorem dRpl_flt (bb eb : Nat) (v : Value) (e0 k p : Int) (older : List PanicEntry) (w : World) (h : BE w bb eb v e0) (hv : ∃ ao n c, v = .slice ao n c) :
    CallsD Try.prog 33 #[.pointer (some ⟨bb, 0, none⟩), .pointer (some ⟨eb, 0, none⟩)] (.panicking ({ v := .iface 127 (.agg #[.int .i64 k, .int .i64 p]), recovered := false } :: older)) w fun e u' w' => e = .returned (.tuple #[]) ∧ u' = .panicking ({ v := .iface 127 (.agg #[.int .i64 k, .int .i64 p]), recovered := true } :: older) ∧ BE w' bb eb (.slice none 0 0) k ∧ O2 bb eb w w' := by
  obtain ⟨ao, n, c, rfl⟩ := hv
  refine callsD_of_wpS Try.func33 rfl fun c₀ cs hu => ?_
  have c0 : w.cell? ⟨bb, 0, none⟩ = some (.slice ao n c) := by rw [Lib.cell_of_heap h.1]; rfl
  have f0 : w.frozen? ⟨bb, 0, none⟩ = false := Lib.frozen_of_heap h.1 0
  have f1 : w.frozen? ⟨eb, 0, none⟩ = false := Lib.frozen_of_heap h.2.1 0
  have d1 : w.cell? ⟨eb, 0, none⟩ = some (.int .i64 e0) := by rw [Lib.cell_of_heap h.2.1]; rfl
  have HT := hid (fun w => toldB_flt (.slice ao n c) k p w)
  have HE := hid h
  have hne : bb ≠ eb := by have := h.2.2; omega
  have hne' : ¬ eb = bb := fun e => hne e.symm
  clear h
  refine wpS_region_any (by kernel_rfl) ?_
  refine wpAnyS_all (rs := [0, 1]) (by kernel_rfl) (by simp) ?_
  intro i hi
  simp only [List.mem_cons, List.not_mem_nil, or_false] at hi
  rcases hi with rfl | rfl
  · simp [wpOpS, go_sem, Try.ntmps33, c0]
    refine wpAnyS_all (rs := [1]) (by kernel_rfl) (by simp) ?_
    intro i hi
    simp only [List.mem_cons, List.not_mem_nil, or_false] at hi
    subst hi
    simp [wpOpS, go_sem, recoverD, hu]
    refine wpAny_toS (by rintro ⟨_, _, u', he, _⟩; cases he) _ _ _ _ ?_
    refine wpAny_ready (rs := [2]) (by kernel_rfl) (by simp) ?_
    refine AllReady.cons rfl (fun K hK => ?_) AllReady.nil
    go_simp
    go_wp2_with fail
    refine (HT.out _).mono ?_
    rintro e w2 ⟨rfl, hb2⟩
    have HB2 := hid hb2
    have HE2 := hid (BE.later (w := w.drew) HE.out hb2)
    have c0 : w2.cell? ⟨bb, 0, none⟩ = some (.slice ao n c) := by rw [Lib.cell_of_heap HE2.out.1]; rfl
    have d1 : w2.cell? ⟨eb, 0, none⟩ = some (.int .i64 e0) := by rw [Lib.cell_of_heap HE2.out.2.1]; rfl
    have f0 : w2.frozen? ⟨bb, 0, none⟩ = false := Lib.frozen_of_heap HE2.out.1 0
    have f1 : w2.frozen? ⟨eb, 0, none⟩ = false := Lib.frozen_of_heap HE2.out.2.1 0
    clear hb2
    go_wp2_with fail
    refine wpAny_take (i := 3) (v := .tuple #[.slice none 0 0, .int .i64 k, .int .i64 p]) rfl (by kernel_rfl) (by kernel_rfl) (by kernel_rfl) (fun _ _ _ h => h) (Or.inl ⟨by rfl, by intro w; go_simp⟩) ?_
    refine wpAny_take (i := 4) (v := .slice none 0 0) rfl (by kernel_rfl) (by kernel_rfl) (by kernel_rfl) (fun _ _ _ h => h) (Or.inl ⟨by rfl, by intro w; go_simp⟩) ?_
    refine wpAny_take (i := 5) (v := .int .i64 k) rfl (by kernel_rfl) (by kernel_rfl) (by kernel_rfl) (fun _ _ _ h => h) (Or.inl ⟨by rfl, by intro w; go_simp⟩) ?_
    refine wpAny_take (i := 6) (v := .int .i64 p) rfl (by kernel_rfl) (by kernel_rfl) (by kernel_rfl) (fun _ _ _ h => h) (Or.inl ⟨by rfl, by intro w; go_simp⟩) ?_
    refine wpAny_ready (rs := [7]) (by kernel_rfl) (by simp) ?_
    refine AllReady.cons rfl (fun K hK => ?_) AllReady.nil
    go_simp
    refine hK _ _ ?_
    clear hK K
    refine wpAny_ready (rs := [8]) (by kernel_rfl) (by simp) ?_
    refine AllReady.cons rfl (fun K hK => ?_) AllReady.nil
    go_simp
    refine hK _ _ ?_
    clear hK K
    refine wpAny_done (by kernel_rfl) ?_ _
    exact ⟨rfl, _, rfl, _, results_none rfl _ _ _, rfl, rfl, HE2.out.put _ _, O2.sets ((Below.refl w.heap.size w).drew.trans HB2.out) _ _⟩
  · simp [wpOpS, go_sem, recoverD, hu, Try.ntmps33]
    refine wpAnyS_all (rs := [0]) (by kernel_rfl) (by simp) ?_
    intro i hi
    simp only [List.mem_cons, List.not_mem_nil, or_false] at hi
    subst hi
    simp [wpOpS, go_sem, c0]
    refine wpAny_toS (by rintro ⟨_, _, u', he, _⟩; cases he) _ _ _ _ ?_
    refine wpAny_ready (rs := [2]) (by kernel_rfl) (by simp) ?_
    refine AllReady.cons rfl (fun K hK => ?_) AllReady.nil
    go_simp
    go_wp2_with fail
    refine (HT.out _).mono ?_
    rintro e w2 ⟨rfl, hb2⟩
    have HB2 := hid hb2
    have HE2 := hid (BE.later (w := w.drew) HE.out hb2)
    have c0 : w2.cell? ⟨bb, 0, none⟩ = some (.slice ao n c) := by rw [Lib.cell_of_heap HE2.out.1]; rfl
    have d1 : w2.cell? ⟨eb, 0, none⟩ = some (.int .i64 e0) := by rw [Lib.cell_of_heap HE2.out.2.1]; rfl
    have f0 : w2.frozen? ⟨bb, 0, none⟩ = false := Lib.frozen_of_heap HE2.out.1 0
    have f1 : w2.frozen? ⟨eb, 0, none⟩ = false := Lib.frozen_of_heap HE2.out.2.1 0
    clear hb2
    go_wp2_with fail
    refine wpAny_take (i := 3) (v := .tuple #[.slice none 0 0, .int .i64 k, .int .i64 p]) rfl (by kernel_rfl) (by kernel_rfl) (by kernel_rfl) (fun _ _ _ h => h) (Or.inl ⟨by rfl, by intro w; go_simp⟩) ?_
    refine wpAny_take (i := 4) (v := .slice none 0 0) rfl (by kernel_rfl) (by kernel_rfl) (by kernel_rfl) (fun _ _ _ h => h) (Or.inl ⟨by rfl, by intro w; go_simp⟩) ?_
    refine wpAny_take (i := 5) (v := .int .i64 k) rfl (by kernel_rfl) (by kernel_rfl) (by kernel_rfl) (fun _ _ _ h => h) (Or.inl ⟨by rfl, by intro w; go_simp⟩) ?_
    refine wpAny_take (i := 6) (v := .int .i64 p) rfl (by kernel_rfl) (by kernel_rfl) (by kernel_rfl) (fun _ _ _ h => h) (Or.inl ⟨by rfl, by intro w; go_simp⟩) ?_
    refine wpAny_ready (rs := [7]) (by kernel_rfl) (by simp) ?_
    refine AllReady.cons rfl (fun K hK => ?_) AllReady.nil
    go_simp
    refine hK _ _ ?_
    clear hK K
    refine wpAny_ready (rs := [8]) (by kernel_rfl) (by simp) ?_
    refine AllReady.cons rfl (fun K hK => ?_) AllReady.nil
    go_simp
    refine hK _ _ ?_
    clear hK K
    refine wpAny_done (by kernel_rfl) ?_ _
    exact ⟨rfl, _, rfl, _, results_none rfl _ _ _, rfl, rfl, HE2.out.put _ _, O2.sets ((Below.refl w.heap.size w).drew.trans HB2.out) _ _⟩
set_option maxHeartbeats 4000000 in
theorem wreply_any (rb : Nat) (r : Ry) (ao : Option Addr) (cap : Nat) (w : World) {wb most : Nat} {v : Value} {l : List UInt8} (h : WR w wb v l most) (hm : most ≤ 1000000000) (hrb : rb < wb) (ht : w.heap[rb]? = some (.cells #[.string r.id, .int .i64 r.err, .int .i64 r.line, .slice ao r.levels.length cap, .int .i64 r.now] 28 (0, 0))) (hL : LV w wb ao r.levels) (ho : RpOk r) :
    Calls Try.prog 34 #[iw wb, .pointer (some ⟨rb, 0, none⟩)] w fun e w' => Wp wb v l most (82 :: rpB r) (.returned (.tuple #[])) w e w' := by
  have hmf : ∀ (fn : Fn) (first cap : Array Value) (w : World), (Instr.makeFunc fn first cap).run Try.prog w = .ok (.func fn first cap) w := fun _ _ _ _ => rfl
  have hme := me_key
  have HK := hid (show Calls Try.prog 111 #[.pointer (some ⟨wb, 0, none⟩), .int .u8 82] w fun e w' => Wp wb v l most [82] (.returned (.tuple #[])) w e w' from wkey_any 82 w h hm)
  have H := hid h
  have HTp := hid (fun (v1 : Value) (w1 : World) (hs : WS wb v w v1 w1) => (hs.block rb (Array.getElem?_eq_some_iff.1 ht).1 (by omega) (fun e => by have := h.2.block_ge rb e; omega)).trans ht)
  have HLp := hid (fun (v1 : Value) (w1 : World) (hs : WS wb v w v1 w1) => hL.old hs h)
  have HOk := hid ho
  obtain ⟨X, hX⟩ : ∃ X, rpB r = X := ⟨_, rfl⟩
  rw [hX]
  have HX := hid hX
  clear h ht hL ho hX
  go_enter Try.func34, Try.ntmps34
  go_wp2_with fail
  refine Calls.mono HK.out ?_
  rintro e w0 ⟨v0, hs, ⟨hf, rfl, hr⟩ | ⟨hf, rfl⟩⟩
  rotate_left
  · go_wp2_with fail
    refine ⟨rfl, v0, hs, .inr ⟨?_, rfl⟩⟩
    simp only [List.length_cons, List.length_nil] at *; omega
  have HS0 := hid hs
  have HR0 := hid hr
  have HF0 := hid hf
  clear hs hr HK hf hme
  have ht : w0.heap[rb]? = some (.cells #[.string r.id, .int .i64 r.err, .int .i64 r.line, .slice ao r.levels.length cap, .int .i64 r.now] 28 (0, 0)) := HTp.out v0 w0 HS0.out
  have cj : w0.cell? ⟨rb, 0, none⟩ = some (.string r.id) := by rw [Lib.cell_of_heap ht]; rfl
  have HC := hid (fun q => wtext_any ⟨rb, 0, none⟩ r.id (w0.drewN q) (most := most) (v := v0) (wb := wb) HR0.out hm cj HOk.out.b0.1)
  have hna := na_text wb
  have hme := me_text
  clear ht cj
  go_wp2_with fail
  refine wp_region_any (by kernel_rfl) ?_
  try (change wpAny _ _ _ _ _ _ _ (World.drew _))
  refine wpAny_take (i := 0) (v := iw wb) rfl (by kernel_rfl) (by kernel_rfl) (by kernel_rfl) (fun _ _ _ h => h) (Or.inl ⟨by rfl, by intro w; go_simp⟩) ?_
  refine wpAny_take (i := 1) (v := .pointer (some ⟨rb, 0, none⟩)) rfl (by kernel_rfl) (by kernel_rfl) (by kernel_rfl) (fun _ _ _ h => h) (Or.inl ⟨by rfl, by intro w; go_simp⟩) ?_
  refine wpAny_take (i := 2) (v := .pointer (some ⟨rb, 0, none⟩)) rfl (by kernel_rfl) (by kernel_rfl) (by kernel_rfl) (fun _ _ _ h => h) (Or.inl ⟨by rfl, by intro w; go_simp⟩) ?_
  refine wpAny_take (i := 3) (v := .pointer (some ⟨rb, 0, none⟩)) rfl (by kernel_rfl) (by kernel_rfl) (by kernel_rfl) (fun _ _ _ h => h) (Or.inl ⟨by rfl, by intro w; go_simp⟩) ?_
  refine wpAny_ready (rs := [4]) (by kernel_rfl) (by simp) ?_
  refine AllReady.cons rfl (fun K hK => ?_) AllReady.nil
  go_simp
  refine hK _ _ ?_
  clear hK K
  refine wpAny_take (i := 5) (v := .func (.method "larder/codec.text") #[iw wb] #[]) rfl (by kernel_rfl) (by kernel_rfl) (by kernel_rfl) (fun _ _ _ h => h) (Or.inl ⟨by rfl, by intro w; go_simp⟩) ?_
  refine wpAny_take (i := 6) (v := iw wb) rfl (by kernel_rfl) (by kernel_rfl) (by kernel_rfl) (fun _ _ _ h => h) (Or.inl ⟨by rfl, by intro w; go_simp⟩) ?_
  refine wpAny_ready (rs := [7]) (by kernel_rfl) (by simp) ?_
  refine AllReady.cons rfl (fun K hK => ?_) AllReady.nil
  go_simp
  go_wp2_with fail
  refine (HC.out _).mono ?_
  rintro e w1 ⟨v1, hs, ⟨hf, rfl, hr⟩ | ⟨hf, rfl⟩⟩
  rotate_left
  · go_wp2_with fail
    refine ⟨rfl, v1, HS0.out.trans ((WS.drewN wb v0 w0 1).trans hs), .inr ⟨?_, rfl⟩⟩
    have hx := congrArg List.length HX.out
    unfold rpB txB at hx
    try unfold txB at hf
    simp only [List.length_append, List.length_cons, List.length_nil] at *
    omega
  have HS1 := hid (HS0.out.trans ((WS.drewN wb v0 w0 1).trans hs))
  have HR1 := hid hr
  have HF1 := hid hf
  clear hs hr hf HC hna hme HS0 HR0
  go_wp2_with fail
  refine wpAny_done (by kernel_rfl) ?_ _
  have ht : w1.heap[rb]? = some (.cells #[.string r.id, .int .i64 r.err, .int .i64 r.line, .slice ao r.levels.length cap, .int .i64 r.now] 28 (0, 0)) := HTp.out v1 w1 HS1.out
  have cj : w1.cell? ⟨rb, 1, none⟩ = some (.int .i64 r.err) := by rw [Lib.cell_of_heap ht]; rfl
  obtain ⟨We, hWe⟩ : ∃ We, w1.alloc (.cells #[.int .i64 r.err] 3) = We := ⟨_, rfl⟩
  have hBe : Below w1.heap.size w1 We := by rw [← hWe]; exact (Below.refl _ _).alloc (Nat.le_refl _) _
  have HSe := hid (WS.below (wb := wb) (v := v1) hBe)
  have hnew : We.heap[w1.heap.size]? = some (.cells #[.int .i64 r.err] 3 (0, 0)) := by rw [← hWe]; exact heap_alloc_new w1 _
  have ce : We.cell? ⟨w1.heap.size, 0, none⟩ = some (.int .i64 r.err) := by rw [Lib.cell_of_heap hnew]; rfl
  have HCe := hid ce
  have HBx := hid HR1.out.box
  have HC := hid (wwhole_any ⟨w1.heap.size, 0, none⟩ r.err We (most := most) (v := v1) (wb := wb) (HR1.out.later hBe) hm ce HOk.out.b1.1 HOk.out.b1.2)
  have hme := me_whole
  clear hBe hnew ce ht
  go_wp2_with fail
  try rw [hWe]
  refine Calls.mono HC.out ?_
  rintro e w2 ⟨v2, hs, ⟨hf, rfl, hr⟩ | ⟨hf, rfl⟩⟩
  rotate_left
  · go_wp2_with fail
    refine ⟨rfl, v2, HS1.out.trans (HSe.out.trans hs), .inr ⟨?_, rfl⟩⟩
    have hx := congrArg List.length HX.out
    unfold rpB txB at hx
    try unfold txB at hf
    simp only [List.length_append, List.length_cons, List.length_nil] at *
    omega
  have HS2 := hid (HS1.out.trans (HSe.out.trans hs))
  have HR2 := hid hr
  have HF2 := hid hf
  have ht : w2.heap[rb]? = some (.cells #[.string r.id, .int .i64 r.err, .int .i64 r.line, .slice ao r.levels.length cap, .int .i64 r.now] 28 (0, 0)) := HTp.out v2 w2 HS2.out
  have cn : w2.cell? ⟨rb, 1, none⟩ = some (.int .i64 r.err) := by rw [Lib.cell_of_heap ht]; rfl
  have fn : w2.frozen? ⟨rb, 1, none⟩ = false := Lib.frozen_of_heap ht 1
  have cl := Wp.cell hs w1.heap.size 0 _ HCe.out HBx.out.1 HBx.out.2
  have hself : w2.setCell ⟨rb, 1, none⟩ (.int .i64 r.err) = w2 := setCell_self ht rfl
  clear hs hr hf HC hme HS1 HR1 HSe HCe HBx hWe cj ht
  go_wp2_with fail
  try rw [hself]
  clear cn fn cl hself
  have ht : w2.heap[rb]? = some (.cells #[.string r.id, .int .i64 r.err, .int .i64 r.line, .slice ao r.levels.length cap, .int .i64 r.now] 28 (0, 0)) := HTp.out v2 w2 HS2.out
  have cj : w2.cell? ⟨rb, 2, none⟩ = some (.int .i64 r.line) := by rw [Lib.cell_of_heap ht]; rfl
  have HC := hid (fun q => wwhole_any ⟨rb, 2, none⟩ r.line (w2.drewN q) (most := most) (v := v2) (wb := wb) HR2.out hm cj HOk.out.b2.1 HOk.out.b2.2)
  have hna := na_whole wb
  have hme := me_whole
  clear ht cj
  go_wp2_with fail
  refine wp_region_any (by kernel_rfl) ?_
  try (change wpAny _ _ _ _ _ _ _ (World.drew _))
  refine wpAny_take (i := 0) (v := iw wb) rfl (by kernel_rfl) (by kernel_rfl) (by kernel_rfl) (fun _ _ _ h => h) (Or.inl ⟨by rfl, by intro w; go_simp⟩) ?_
  refine wpAny_take (i := 1) (v := .pointer (some ⟨rb, 0, none⟩)) rfl (by kernel_rfl) (by kernel_rfl) (by kernel_rfl) (fun _ _ _ h => h) (Or.inl ⟨by rfl, by intro w; go_simp⟩) ?_
  refine wpAny_take (i := 2) (v := .pointer (some ⟨rb, 0, none⟩)) rfl (by kernel_rfl) (by kernel_rfl) (by kernel_rfl) (fun _ _ _ h => h) (Or.inl ⟨by rfl, by intro w; go_simp⟩) ?_
  refine wpAny_take (i := 3) (v := .pointer (some ⟨rb, 2, none⟩)) rfl (by kernel_rfl) (by kernel_rfl) (by kernel_rfl) (fun _ _ _ h => h) (Or.inl ⟨by rfl, by intro w; go_simp⟩) ?_
  refine wpAny_ready (rs := [4]) (by kernel_rfl) (by simp) ?_
  refine AllReady.cons rfl (fun K hK => ?_) AllReady.nil
  go_simp
  refine hK _ _ ?_
  clear hK K
  refine wpAny_take (i := 5) (v := .func (.method "larder/codec.whole") #[iw wb] #[]) rfl (by kernel_rfl) (by kernel_rfl) (by kernel_rfl) (fun _ _ _ h => h) (Or.inl ⟨by rfl, by intro w; go_simp⟩) ?_
  refine wpAny_take (i := 6) (v := iw wb) rfl (by kernel_rfl) (by kernel_rfl) (by kernel_rfl) (fun _ _ _ h => h) (Or.inl ⟨by rfl, by intro w; go_simp⟩) ?_
  refine wpAny_ready (rs := [7]) (by kernel_rfl) (by simp) ?_
  refine AllReady.cons rfl (fun K hK => ?_) AllReady.nil
  go_simp
  go_wp2_with fail
  refine (HC.out _).mono ?_
  rintro e w3 ⟨v3, hs, ⟨hf, rfl, hr⟩ | ⟨hf, rfl⟩⟩
  rotate_left
  · go_wp2_with fail
    refine ⟨rfl, v3, HS2.out.trans ((WS.drewN wb v2 w2 1).trans hs), .inr ⟨?_, rfl⟩⟩
    have hx := congrArg List.length HX.out
    unfold rpB txB at hx
    try unfold txB at hf
    simp only [List.length_append, List.length_cons, List.length_nil] at *
    omega
  have HS3 := hid (HS2.out.trans ((WS.drewN wb v2 w2 1).trans hs))
  have HR3 := hid hr
  have HF3 := hid hf
  clear hs hr hf HC hna hme HS2 HR2
  go_wp2_with fail
  refine wpAny_done (by kernel_rfl) ?_ _
  have ht : w3.heap[rb]? = some (.cells #[.string r.id, .int .i64 r.err, .int .i64 r.line, .slice ao r.levels.length cap, .int .i64 r.now] 28 (0, 0)) := HTp.out v3 w3 HS3.out
  have cj : w3.cell? ⟨rb, 3, none⟩ = some (.slice ao r.levels.length cap) := by rw [Lib.cell_of_heap ht]; rfl
  have HC := hid (wlevels_any rb 3 cap ao r.levels w3 HR3.out hm cj hrb HOk.out.b0.2 (HLp.out v3 w3 HS3.out))
  clear ht cj
  go_wp2_with fail
  refine Calls.mono HC.out ?_
  rintro e w4 ⟨v4, hs, ⟨hf, rfl, hr⟩ | ⟨hf, rfl⟩⟩
  rotate_left
  · go_wp2_with fail
    refine ⟨rfl, v4, HS3.out.trans hs, .inr ⟨?_, rfl⟩⟩
    have hx := congrArg List.length HX.out
    unfold rpB txB at hx
    try unfold txB at hf
    simp only [List.length_append, List.length_cons, List.length_nil] at *
    omega
  have HS4 := hid (HS3.out.trans hs)
  have HR4 := hid hr
  have HF4 := hid hf
  clear hs hr hf HC HS3 HR3
  have ht : w4.heap[rb]? = some (.cells #[.string r.id, .int .i64 r.err, .int .i64 r.line, .slice ao r.levels.length cap, .int .i64 r.now] 28 (0, 0)) := HTp.out v4 w4 HS4.out
  have cj : w4.cell? ⟨rb, 4, none⟩ = some (.int .i64 r.now) := by rw [Lib.cell_of_heap ht]; rfl
  have HC := hid (fun q => wwhole_any ⟨rb, 4, none⟩ r.now (w4.drewN q) (most := most) (v := v4) (wb := wb) HR4.out hm cj HOk.out.b3.1 HOk.out.b3.2)
  have hna := na_whole wb
  have hme := me_whole
  clear ht cj
  go_wp2_with fail
  refine wp_region_any (by kernel_rfl) ?_
  try (change wpAny _ _ _ _ _ _ _ (World.drew _))
  refine wpAny_take (i := 0) (v := iw wb) rfl (by kernel_rfl) (by kernel_rfl) (by kernel_rfl) (fun _ _ _ h => h) (Or.inl ⟨by rfl, by intro w; go_simp⟩) ?_
  refine wpAny_take (i := 1) (v := .pointer (some ⟨rb, 0, none⟩)) rfl (by kernel_rfl) (by kernel_rfl) (by kernel_rfl) (fun _ _ _ h => h) (Or.inl ⟨by rfl, by intro w; go_simp⟩) ?_
  refine wpAny_take (i := 2) (v := .pointer (some ⟨rb, 0, none⟩)) rfl (by kernel_rfl) (by kernel_rfl) (by kernel_rfl) (fun _ _ _ h => h) (Or.inl ⟨by rfl, by intro w; go_simp⟩) ?_
  refine wpAny_take (i := 3) (v := .pointer (some ⟨rb, 4, none⟩)) rfl (by kernel_rfl) (by kernel_rfl) (by kernel_rfl) (fun _ _ _ h => h) (Or.inl ⟨by rfl, by intro w; go_simp⟩) ?_
  refine wpAny_ready (rs := [4]) (by kernel_rfl) (by simp) ?_
  refine AllReady.cons rfl (fun K hK => ?_) AllReady.nil
  go_simp
  refine hK _ _ ?_
  clear hK K
  refine wpAny_take (i := 5) (v := .func (.method "larder/codec.whole") #[iw wb] #[]) rfl (by kernel_rfl) (by kernel_rfl) (by kernel_rfl) (fun _ _ _ h => h) (Or.inl ⟨by rfl, by intro w; go_simp⟩) ?_
  refine wpAny_take (i := 6) (v := iw wb) rfl (by kernel_rfl) (by kernel_rfl) (by kernel_rfl) (fun _ _ _ h => h) (Or.inl ⟨by rfl, by intro w; go_simp⟩) ?_
  refine wpAny_ready (rs := [7]) (by kernel_rfl) (by simp) ?_
  refine AllReady.cons rfl (fun K hK => ?_) AllReady.nil
  go_simp
  go_wp2_with fail
  refine (HC.out _).mono ?_
  rintro e w5 ⟨v5, hs, ⟨hf, rfl, hr⟩ | ⟨hf, rfl⟩⟩
  rotate_left
  · go_wp2_with fail
    refine ⟨rfl, v5, HS4.out.trans ((WS.drewN wb v4 w4 1).trans hs), .inr ⟨?_, rfl⟩⟩
    have hx := congrArg List.length HX.out
    unfold rpB txB at hx
    try unfold txB at hf
    simp only [List.length_append, List.length_cons, List.length_nil] at *
    omega
  have HS5 := hid (HS4.out.trans ((WS.drewN wb v4 w4 1).trans hs))
  have HR5 := hid hr
  have HF5 := hid hf
  clear hs hr hf HC hna hme HS4 HR4
  go_wp2_with fail
  refine wpAny_done (by kernel_rfl) ?_ _
  go_wp2_with fail
  go_end0
  refine ⟨v5, HS5.out, .inl ⟨?_, rfl, ?_⟩⟩
  · have hx := congrArg List.length HX.out
    have hf := HF5.out
    unfold rpB txB at hx
    simp only [List.length_append, List.length_cons, List.length_nil] at *
    omega
  · have hr := HR5.out
    rw [← HX.out]
    unfold rpB txB
    simp only [List.append_assoc, List.cons_append, List.nil_append] at hr ⊢
    exact hr
set_option maxHeartbeats 2000000 in
theorem putReply_any (r : Ry) (ao : Option Addr) (cap : Nat) (w : World) (ho : RpOk r) (hL : LV w w.heap.size ao r.levels) :
    Calls Try.prog 9 #[rpV r ao cap] w fun e w' => Wrt (82 :: rpB r) 4096 w e w' := by
  obtain ⟨M, hM⟩ : ∃ M, rpB r = M := ⟨_, rfl⟩
  rw [hM]
  have hmf : ∀ (fn : Fn) (first cap : Array Value) (w : World), (Instr.makeFunc fn first cap).run Try.prog w = .ok (.func fn first cap) w := fun _ _ _ _ => rfl
  unfold rpV
  obtain ⟨W1, hW1⟩ : ∃ W1, w.alloc (.cells #[.string r.id, .int .i64 r.err, .int .i64 r.line, .slice ao r.levels.length cap, .int .i64 r.now] 28) = W1 := ⟨_, rfl⟩
  obtain ⟨W2, hW2⟩ : ∃ W2, W1.alloc (.cells #[.slice none 0 0] 47) = W2 := ⟨_, rfl⟩
  obtain ⟨W3, hW3⟩ : ∃ W3, W2.alloc (.cells #[.int .i64 0] 25) = W3 := ⟨_, rfl⟩
  obtain ⟨W4, hW4⟩ : ∃ W4, W3.alloc (.cells #[.slice none 0 0, .int .i64 4096] 86) = W4 := ⟨_, rfl⟩
  have z1 : W1.heap.size = w.heap.size + 1 := by rw [← hW1, World.size_alloc]
  have z2 : W2.heap.size = w.heap.size + 2 := by rw [← hW2, World.size_alloc, z1]
  have z3 : W3.heap.size = w.heap.size + 3 := by rw [← hW3, World.size_alloc, z2]
  have hb1 : Below w.heap.size w W1 := by rw [← hW1]; exact (Below.refl _ _).alloc (Nat.le_refl _) _
  have hb2 : Below W1.heap.size W1 W2 := by rw [← hW2]; exact (Below.refl _ _).alloc (Nat.le_refl _) _
  have hb3 : Below W2.heap.size W2 W3 := by rw [← hW3]; exact (Below.refl _ _).alloc (Nat.le_refl _) _
  have hb4 : Below W3.heap.size W3 W4 := by rw [← hW4]; exact (Below.refl _ _).alloc (Nat.le_refl _) _
  have b24 : Below W2.heap.size W2 W4 := hb3.trans (hb4.mono (by omega))
  have b14 : Below W1.heap.size W1 W4 := hb2.trans (b24.mono (by omega))
  have b04 : Below w.heap.size w W4 := hb1.trans (b14.mono (by omega))
  have hrq : W4.heap[w.heap.size]? = some (.cells #[.string r.id, .int .i64 r.err, .int .i64 r.line, .slice ao r.levels.length cap, .int .i64 r.now] 28 (0, 0)) := (b14.block _ (by omega)).trans (by rw [← hW1]; exact heap_alloc_new w _)
  have HBE := hid (show BE W4 (w.heap.size + 1) (w.heap.size + 2) (.slice none 0 0) 0 from ⟨(b24.block _ (by omega)).trans (by rw [← hW2, ← z1]; exact heap_alloc_new W1 _), (hb4.block _ (by omega)).trans (by rw [← hW3, ← z2]; exact heap_alloc_new W2 _), by omega⟩)
  have HWR := hid (show WR W4 (w.heap.size + 3) (.slice none 0 0) [] 4096 from ⟨by rw [← hW4, ← z3]; exact heap_alloc_new W3 _, Owns.nil _ _⟩)
  have HRe := hid (wreply_any w.heap.size r ao cap W4 HWR.out (by omega) (by omega) hrq (hL.below b04 (by omega)) ho)
  rw [hM] at HRe
  have B4 := hid b04
  clear hb1 hb2 hb3 hb4 b24 b14 b04 hrq hL ho
  go_enter_defers Try.func9, Try.ntmps9
  go_wp2_with fail
  refine Calls.mono HRe.out ?_
  rintro e w5 ⟨v5, hs, ⟨hf, rfl, hr⟩ | ⟨hf, rfl⟩⟩
  · have hbe : BE w5 (w.heap.size + 1) (w.heap.size + 2) (.slice none 0 0) 0 := ⟨(hs.block _ (Array.getElem?_eq_some_iff.1 HBE.out.1).1 (by omega) (by simp [Value.ownBlock])).trans HBE.out.1, (hs.block _ (Array.getElem?_eq_some_iff.1 HBE.out.2.1).1 (by omega) (by simp [Value.ownBlock])).trans HBE.out.2.1, by omega⟩
    have HB5 := hid hbe
    have HR5 := hid hr
    have HS5 := hid hs
    have c0 : w5.cell? ⟨w.heap.size + 3, 0, none⟩ = some v5 := by rw [Lib.cell_of_heap hr.1]; rfl
    have k0 : w5.cell? ⟨w.heap.size + 1, 0, none⟩ = some (.slice none 0 0) := by rw [Lib.cell_of_heap hbe.1]; rfl
    have k1 : w5.cell? ⟨w.heap.size + 2, 0, none⟩ = some (.int .i64 0) := by rw [Lib.cell_of_heap hbe.2.1]; rfl
    have f0 : w5.frozen? ⟨w.heap.size + 1, 0, none⟩ = false := Lib.frozen_of_heap hbe.1 0
    have f1 : w5.frozen? ⟨w.heap.size + 2, 0, none⟩ = false := Lib.frozen_of_heap hbe.2.1 0
    obtain ⟨ao5, cap5, hv5⟩ := hr.2.reads.form
    clear hbe hr hs HRe
    subst hv5
    go_wp2_with fail
    refine leaves_cons (f := 33) (args := #[.pointer (some ⟨w.heap.size + 1, 0, none⟩), .pointer (some ⟨w.heap.size + 2, 0, none⟩)]) (by simp) (by simp [go_sem]) ?_
    refine (dRpl_nil (w.heap.size + 1) (w.heap.size + 2) _ 0 _ (HB5.out.put _ 0) ⟨_, _, _, rfl⟩).mono ?_
    rintro e u' w6 ⟨rfl, rfl, hbe, ho2⟩
    have q0 : w6.cell? ⟨w.heap.size + 1, 0, none⟩ = some (.slice ao5 (M.length + 1) cap5) := by rw [Lib.cell_of_heap hbe.1]; rfl
    have q1 : w6.cell? ⟨w.heap.size + 2, 0, none⟩ = some (.int .i64 0) := by rw [Lib.cell_of_heap hbe.2.1]; rfl
    have hO5 : Owns w5 (w.heap.size + 4) (.slice ao5 (M.length + 1) cap5) (82 :: M) := HR5.out.2
    have hO6 := ho2.own (ownsRow_setCell_below (ownsRow_setCell_below hO5 (by show w.heap.size + 1 < _; omega) _) (by show w.heap.size + 2 < _; omega) _) (by omega) (by omega)
    have hz := B4.out.size
    have hz4 := HS5.out.size
    have B5 := B4.out.trans (HS5.out.lower HWR.out (show w.heap.size ≤ w.heap.size + 3 by omega))
    have B6 := ((B5.setCell (show w.heap.size ≤ w.heap.size + 1 by omega) (.slice ao5 (M.length + 1) cap5)).setCell (show w.heap.size ≤ w.heap.size + 2 by omega) (.int .i64 0)).trans (ho2.below (by omega) (by omega) (by simp; omega))
    have HW := hid (Wrt.yes (m := 82 :: M) (most := 4096) (by simpa using hf) (hO6.mono (by omega)) B6)
    clear hO5 hO6 B5 B6 hbe ho2
    simp [Leaves, settle, results, Try.results9, go_sem, q0, q1]
    exact HW.out
  · have hbe : BE w5 (w.heap.size + 1) (w.heap.size + 2) (.slice none 0 0) 0 := ⟨(hs.block _ (Array.getElem?_eq_some_iff.1 HBE.out.1).1 (by omega) (by simp [Value.ownBlock])).trans HBE.out.1, (hs.block _ (Array.getElem?_eq_some_iff.1 HBE.out.2.1).1 (by omega) (by simp [Value.ownBlock])).trans HBE.out.2.1, by omega⟩
    have HB5 := hid hbe
    have HS5 := hid hs
    clear hbe hs HRe
    go_wp2_with fail
    refine leaves_cons (f := 33) (args := #[.pointer (some ⟨w.heap.size + 1, 0, none⟩), .pointer (some ⟨w.heap.size + 2, 0, none⟩)]) (by simp) (by simp [go_sem]) ?_
    refine (dRpl_flt (w.heap.size + 1) (w.heap.size + 2) _ 0 1 0 [] _ HB5.out ⟨_, _, _, rfl⟩).mono ?_
    rintro e u' w6 ⟨rfl, rfl, hbe, ho2⟩
    have q0 : w6.cell? ⟨w.heap.size + 1, 0, none⟩ = some (.slice none 0 0) := by rw [Lib.cell_of_heap hbe.1]; rfl
    have q1 : w6.cell? ⟨w.heap.size + 2, 0, none⟩ = some (.int .i64 1) := by rw [Lib.cell_of_heap hbe.2.1]; rfl
    have hz := B4.out.size
    have hz4 := HS5.out.size
    have B5 := B4.out.trans (HS5.out.lower HWR.out (show w.heap.size ≤ w.heap.size + 3 by omega))
    have B6 := B5.trans (ho2.below (by omega) (by omega) (by omega))
    have HW := hid (Wrt.no (m := 82 :: M) (most := 4096) (by simp at hf ⊢; omega) B6)
    clear B5 B6 hbe ho2
    simp [Leaves, settle, results, Try.results9, go_sem, q0, q1]
    exact HW.out
end Go.Proofs.Ytfhicemfhkhjaab
