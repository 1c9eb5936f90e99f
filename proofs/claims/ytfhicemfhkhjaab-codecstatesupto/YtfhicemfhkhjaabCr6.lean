/-
  codec: Request: what it tells.
-/
import Derived.Test.YtfhicemfhkhjaabCr5
namespace Go.Proofs.Ytfhicemfhkhjaab
open Go.RowKit
set_option maxRecDepth 100000

set_option maxHeartbeats 1000000 in
theorem toldQ_nil (s0 s1 : ByteArray) (n0 n1 n2 : Int) (ao : Option Addr) (n c : Nat) (w : World) : Calls Try.prog 40 #[.agg #[.string s0, .int .i64 n0, .slice ao n c, .string s1, .int .i64 n1, .int .i64 n2], .nilIface] w fun e w' => e = .returned (.tuple #[.agg #[.string s0, .int .i64 n0, .slice ao n c, .string s1, .int .i64 n1, .int .i64 n2], .int .i64 0, .int .i64 0]) ∧ Below w.heap.size w w' := by
  go_enter Try.func40, Try.ntmps40
  go_wp2
  simp [bodyPost, results, Try.results40, go_sem, asAddr]
  exact ((Below.refl _ _).alloc (Nat.le_refl _) _).alloc (by simp) _
set_option maxHeartbeats 1000000 in
theorem toldQ_flt (s0 s1 : ByteArray) (n0 n1 n2 k p : Int) (ao : Option Addr) (n c : Nat) (w : World) : Calls Try.prog 40 #[.agg #[.string s0, .int .i64 n0, .slice ao n c, .string s1, .int .i64 n1, .int .i64 n2], .iface 127 (.agg #[.int .i64 k, .int .i64 p])] w fun e w' => e = .returned (.tuple #[.agg #[.string ⟨#[]⟩, .int .i64 0, .slice none 0 0, .string ⟨#[]⟩, .int .i64 0, .int .i64 0], .int .i64 k, .int .i64 p]) ∧ Below w.heap.size w w' := by
  have hta := fault_is (.agg #[.int .i64 k, .int .i64 p])
  go_enter Try.func40, Try.ntmps40
  go_wp2
  go_region
  all_goals
    go_wp2
    simp [bodyPost, results, Try.results40, go_sem, asAddr]
    exact (((((Below.refl _ _).alloc (Nat.le_refl _) _).alloc (by simp) _).alloc (by simp; omega) _).alloc (by simp; omega) _).drew
/-- the three results of a call that reads a request: in blocks qb, eb, pb -/
def QE (w : World) (qb eb pb : Nat) (row : Array Value) (e p : Int) : Prop := w.heap[qb]? = some (.cells row 24 (0, 0)) ∧ w.heap[eb]? = some (.cells #[.int .i64 e] 25 (0, 0)) ∧ w.heap[pb]? = some (.cells #[.int .i64 p] 3 (0, 0)) ∧ qb < eb ∧ eb < pb
theorem QE.later {w w' : World} {qb eb pb : Nat} {row : Array Value} {e p : Int} (h : QE w qb eb pb row e p) (k : Below w.heap.size w w') : QE w' qb eb pb row e p :=
  ⟨(k.block qb (Array.getElem?_eq_some_iff.1 h.1).1).trans h.1, (k.block eb (Array.getElem?_eq_some_iff.1 h.2.1).1).trans h.2.1, (k.block pb (Array.getElem?_eq_some_iff.1 h.2.2.1).1).trans h.2.2.1, h.2.2.2⟩
/-- nothing but three blocks has turned -/
def O3 (a b c : Nat) (w w' : World) : Prop := w'.os = w.os ∧ w'.tape = w.tape ∧ w'.output = w.output ∧ w.heap.size ≤ w'.heap.size ∧ ∀ k, k < w.heap.size → k ≠ a → k ≠ b → k ≠ c → w'.heap[k]? = w.heap[k]?
theorem QE.put {w : World} {qb eb pb : Nat} {b0 b1 b2 b3 b4 b5 : Value} {e p : Int} (h : QE w qb eb pb #[b0, b1, b2, b3, b4, b5] e p) (a0 a1 a2 a3 a4 a5 : Value) (e' p' : Int) : QE ((((((((w.setCell ⟨qb, 0, none⟩ a0).setCell ⟨qb, 1, none⟩ a1).setCell ⟨qb, 2, none⟩ a2).setCell ⟨qb, 3, none⟩ a3).setCell ⟨qb, 4, none⟩ a4).setCell ⟨qb, 5, none⟩ a5).setCell ⟨eb, 0, none⟩ (.int .i64 e')).setCell ⟨pb, 0, none⟩ (.int .i64 p')) qb eb pb #[a0, a1, a2, a3, a4, a5] e' p' := by
  obtain ⟨h1, h2, h3, h4, h5⟩ := h
  have g0 := heap_setCell_same w qb 0 _ _ a0 h1
  have g1 := heap_setCell_same _ qb 1 _ _ a1 g0
  have g2 := heap_setCell_same _ qb 2 _ _ a2 g1
  have g3 := heap_setCell_same _ qb 3 _ _ a3 g2
  have g4 := heap_setCell_same _ qb 4 _ _ a4 g3
  have g5 := heap_setCell_same _ qb 5 _ _ a5 g4
  refine ⟨?_, ?_, ?_, h4, h5⟩
  · rw [heap_setCell_other _ ⟨pb, 0, none⟩ qb _ (by show qb ≠ pb; omega), heap_setCell_other _ ⟨eb, 0, none⟩ qb _ (by show qb ≠ eb; omega)]
    exact g5
  · rw [heap_setCell_other _ ⟨pb, 0, none⟩ eb _ (by show eb ≠ pb; omega)]
    refine heap_setCell_same _ eb 0 _ _ _ (show _ = some (Obj.cells #[.int .i64 e] 25 (0, 0)) from ?_)
    rw [heap_setCell_other _ ⟨qb, 5, none⟩ eb _ (by show eb ≠ qb; omega), heap_setCell_other _ ⟨qb, 4, none⟩ eb _ (by show eb ≠ qb; omega), heap_setCell_other _ ⟨qb, 3, none⟩ eb _ (by show eb ≠ qb; omega), heap_setCell_other _ ⟨qb, 2, none⟩ eb _ (by show eb ≠ qb; omega), heap_setCell_other _ ⟨qb, 1, none⟩ eb _ (by show eb ≠ qb; omega), heap_setCell_other _ ⟨qb, 0, none⟩ eb _ (by show eb ≠ qb; omega)]
    exact h2
  · refine heap_setCell_same _ pb 0 _ _ _ (show _ = some (Obj.cells #[.int .i64 p] 3 (0, 0)) from ?_)
    rw [heap_setCell_other _ ⟨eb, 0, none⟩ pb _ (by show pb ≠ eb; omega), heap_setCell_other _ ⟨qb, 5, none⟩ pb _ (by show pb ≠ qb; omega), heap_setCell_other _ ⟨qb, 4, none⟩ pb _ (by show pb ≠ qb; omega), heap_setCell_other _ ⟨qb, 3, none⟩ pb _ (by show pb ≠ qb; omega), heap_setCell_other _ ⟨qb, 2, none⟩ pb _ (by show pb ≠ qb; omega), heap_setCell_other _ ⟨qb, 1, none⟩ pb _ (by show pb ≠ qb; omega), heap_setCell_other _ ⟨qb, 0, none⟩ pb _ (by show pb ≠ qb; omega)]
    exact h3
theorem O3.set {a b c : Nat} {w0 w : World} (h : O3 a b c w0 w) (x : Nat) (i : Nat) (v : Value) (hx : x = a ∨ x = b ∨ x = c) : O3 a b c w0 (w.setCell ⟨x, i, none⟩ v) := by
  obtain ⟨h1, h2, h3, h4, h5⟩ := h
  refine ⟨h1, h2, h3, by simpa using h4, fun k hk k1 k2 k3 => ?_⟩
  rw [heap_setCell_other _ ⟨x, i, none⟩ k _ (by show k ≠ x; omega)]
  exact h5 k hk k1 k2 k3
theorem QE.o3 {w0 w : World} {qb eb pb : Nat} (h : Below w0.heap.size w0 w) (a0 a1 a2 a3 a4 a5 : Value) (e' p' : Int) : O3 qb eb pb w0 ((((((((w.setCell ⟨qb, 0, none⟩ a0).setCell ⟨qb, 1, none⟩ a1).setCell ⟨qb, 2, none⟩ a2).setCell ⟨qb, 3, none⟩ a3).setCell ⟨qb, 4, none⟩ a4).setCell ⟨qb, 5, none⟩ a5).setCell ⟨eb, 0, none⟩ (.int .i64 e')).setCell ⟨pb, 0, none⟩ (.int .i64 p')) := by
  have h0 : O3 qb eb pb w0 w := ⟨h.os, h.tape, h.output, h.size, fun k hk _ _ _ => h.block k hk⟩
  exact (((((((h0.set qb 0 a0 (Or.inl rfl)).set qb 1 a1 (Or.inl rfl)).set qb 2 a2 (Or.inl rfl)).set qb 3 a3 (Or.inl rfl)).set qb 4 a4 (Or.inl rfl)).set qb 5 a5 (Or.inl rfl)).set eb 0 _ (Or.inr (Or.inl rfl))).set pb 0 _ (Or.inr (Or.inr rfl))
set_option maxHeartbeats 4000000 in
theorem dQ_nil (qb eb pb : Nat) (s0 s1 : ByteArray) (n0 n1 n2 e0 p0 : Int) (ao : Option Addr) (n c : Nat) (w : World) (h : QE w qb eb pb #[.string s0, .int .i64 n0, .slice ao n c, .string s1, .int .i64 n1, .int .i64 n2] e0 p0) :
    CallsD Try.prog 39 #[.pointer (some ⟨qb, 0, none⟩), .pointer (some ⟨eb, 0, none⟩), .pointer (some ⟨pb, 0, none⟩)] .returning w fun e u' w' => e = .returned (.tuple #[]) ∧ u' = .returning ∧ QE w' qb eb pb #[.string s0, .int .i64 n0, .slice ao n c, .string s1, .int .i64 n1, .int .i64 n2] 0 0 ∧ O3 qb eb pb w w' := by
  refine callsD_of_wpS Try.func39 rfl fun c₀ cs hu => ?_
  have c0 : w.cell? ⟨qb, 0, none⟩ = some (.string s0) := by rw [Lib.cell_of_heap h.1]; rfl
  have c1 : w.cell? ⟨qb, 1, none⟩ = some (.int .i64 n0) := by rw [Lib.cell_of_heap h.1]; rfl
  have c2 : w.cell? ⟨qb, 2, none⟩ = some (.slice ao n c) := by rw [Lib.cell_of_heap h.1]; rfl
  have c3 : w.cell? ⟨qb, 3, none⟩ = some (.string s1) := by rw [Lib.cell_of_heap h.1]; rfl
  have c4 : w.cell? ⟨qb, 4, none⟩ = some (.int .i64 n1) := by rw [Lib.cell_of_heap h.1]; rfl
  have c5 : w.cell? ⟨qb, 5, none⟩ = some (.int .i64 n2) := by rw [Lib.cell_of_heap h.1]; rfl
  have HT := hid (fun w => toldQ_nil s0 s1 n0 n1 n2 ao n c w)
  have HE := hid h
  have h4 := h.2.2.2.1
  have h5 := h.2.2.2.2
  have k1 : ¬ eb = qb := by omega
  have k2 : ¬ pb = qb := by omega
  have k3 : ¬ pb = eb := by omega
  have k4 : ¬ qb = eb := by omega
  have k5 : ¬ qb = pb := by omega
  have k6 : ¬ eb = pb := by omega
  clear h
  refine wpS_region_any (by kernel_rfl) ?_
  refine wpAnyS_all (rs := [0, 1]) (by kernel_rfl) (by simp) ?_
  intro i hi
  simp only [List.mem_cons, List.not_mem_nil, or_false] at hi
  rcases hi with rfl | rfl
  · simp [wpOpS, go_sem, Try.ntmps39, c0, c1, c2, c3, c4, c5]
    refine wpAnyS_all (rs := [1]) (by kernel_rfl) (by simp) ?_
    intro i hi
    simp only [List.mem_cons, List.not_mem_nil, or_false] at hi
    subst hi
    simp [wpOpS, go_sem, recoverD, hu]
    refine wpAny_toS (by rintro ⟨_, _, u', he, _⟩; cases he) _ _ _ _ ?_
    refine wpAny_ready (rs := [2]) (by kernel_rfl) (by simp) ?_
    refine AllReady.cons rfl (fun K hK => ?_) AllReady.nil
    go_simp
    go_wp2_with fail
    refine (HT.out _).mono ?_
    rintro e w2 ⟨rfl, hb2⟩
    have HB2 := hid (show Below w.heap.size w w2 from (Below.refl w.heap.size w).drew.trans hb2)
    have HE2 := hid (HE.out.later HB2.out)
    clear hb2 c0 c1 c2 c3 c4 c5
    have c0 : w2.cell? ⟨qb, 0, none⟩ = some (.string s0) := by rw [Lib.cell_of_heap HE2.out.1]; rfl
    have f0 : w2.frozen? ⟨qb, 0, none⟩ = false := Lib.frozen_of_heap HE2.out.1 0
    have c1 : w2.cell? ⟨qb, 1, none⟩ = some (.int .i64 n0) := by rw [Lib.cell_of_heap HE2.out.1]; rfl
    have f1 : w2.frozen? ⟨qb, 1, none⟩ = false := Lib.frozen_of_heap HE2.out.1 1
    have c2 : w2.cell? ⟨qb, 2, none⟩ = some (.slice ao n c) := by rw [Lib.cell_of_heap HE2.out.1]; rfl
    have f2 : w2.frozen? ⟨qb, 2, none⟩ = false := Lib.frozen_of_heap HE2.out.1 2
    have c3 : w2.cell? ⟨qb, 3, none⟩ = some (.string s1) := by rw [Lib.cell_of_heap HE2.out.1]; rfl
    have f3 : w2.frozen? ⟨qb, 3, none⟩ = false := Lib.frozen_of_heap HE2.out.1 3
    have c4 : w2.cell? ⟨qb, 4, none⟩ = some (.int .i64 n1) := by rw [Lib.cell_of_heap HE2.out.1]; rfl
    have f4 : w2.frozen? ⟨qb, 4, none⟩ = false := Lib.frozen_of_heap HE2.out.1 4
    have c5 : w2.cell? ⟨qb, 5, none⟩ = some (.int .i64 n2) := by rw [Lib.cell_of_heap HE2.out.1]; rfl
    have f5 : w2.frozen? ⟨qb, 5, none⟩ = false := Lib.frozen_of_heap HE2.out.1 5
    have d0 : w2.cell? ⟨eb, 0, none⟩ = some (.int .i64 e0) := by rw [Lib.cell_of_heap HE2.out.2.1]; rfl
    have d1 : w2.cell? ⟨pb, 0, none⟩ = some (.int .i64 p0) := by rw [Lib.cell_of_heap HE2.out.2.2.1]; rfl
    have f6 : w2.frozen? ⟨eb, 0, none⟩ = false := Lib.frozen_of_heap HE2.out.2.1 0
    have f7 : w2.frozen? ⟨pb, 0, none⟩ = false := Lib.frozen_of_heap HE2.out.2.2.1 0
    go_wp2_with fail
    refine wpAny_take (i := 3) (v := .tuple #[.agg #[.string s0, .int .i64 n0, .slice ao n c, .string s1, .int .i64 n1, .int .i64 n2], .int .i64 0, .int .i64 0]) rfl (by kernel_rfl) (by kernel_rfl) (by kernel_rfl) (fun _ _ _ h => h) (Or.inl ⟨by rfl, by intro w; go_simp⟩) ?_
    refine wpAny_take (i := 4) (v := .agg #[.string s0, .int .i64 n0, .slice ao n c, .string s1, .int .i64 n1, .int .i64 n2]) rfl (by kernel_rfl) (by kernel_rfl) (by kernel_rfl) (fun _ _ _ h => h) (Or.inl ⟨by rfl, by intro w; go_simp⟩) ?_
    refine wpAny_take (i := 5) (v := .int .i64 0) rfl (by kernel_rfl) (by kernel_rfl) (by kernel_rfl) (fun _ _ _ h => h) (Or.inl ⟨by rfl, by intro w; go_simp⟩) ?_
    refine wpAny_take (i := 6) (v := .int .i64 0) rfl (by kernel_rfl) (by kernel_rfl) (by kernel_rfl) (fun _ _ _ h => h) (Or.inl ⟨by rfl, by intro w; go_simp⟩) ?_
    refine wpAny_ready (rs := [7]) (by kernel_rfl) (by simp) ?_
    refine AllReady.cons rfl (fun K hK => ?_) AllReady.nil
    go_simp
    refine hK _ _ ?_
    clear hK K
    refine wpAny_ready (rs := [8]) (by kernel_rfl) (by simp) ?_
    refine AllReady.cons rfl (fun K hK => ?_) AllReady.nil
    go_simp
    refine hK _ _ ?_
    clear hK K
    refine wpAny_ready (rs := [9]) (by kernel_rfl) (by simp) ?_
    refine AllReady.cons rfl (fun K hK => ?_) AllReady.nil
    go_simp
    refine hK _ _ ?_
    clear hK K
    refine wpAny_done (by kernel_rfl) ?_ _
    exact ⟨rfl, .returning, by rw [← hu], _, results_none rfl _ _ _, rfl, rfl, HE2.out.put _ _ _ _ _ _ _ _, QE.o3 HB2.out _ _ _ _ _ _ _ _⟩
  · simp [wpOpS, go_sem, recoverD, hu, Try.ntmps39]
    refine wpAnyS_all (rs := [0]) (by kernel_rfl) (by simp) ?_
    intro i hi
    simp only [List.mem_cons, List.not_mem_nil, or_false] at hi
    subst hi
    simp [wpOpS, go_sem, c0, c1, c2, c3, c4, c5]
    refine wpAny_toS (by rintro ⟨_, _, u', he, _⟩; cases he) _ _ _ _ ?_
    refine wpAny_ready (rs := [2]) (by kernel_rfl) (by simp) ?_
    refine AllReady.cons rfl (fun K hK => ?_) AllReady.nil
    go_simp
    go_wp2_with fail
    refine (HT.out _).mono ?_
    rintro e w2 ⟨rfl, hb2⟩
    have HB2 := hid (show Below w.heap.size w w2 from (Below.refl w.heap.size w).drew.trans hb2)
    have HE2 := hid (HE.out.later HB2.out)
    clear hb2 c0 c1 c2 c3 c4 c5
    have c0 : w2.cell? ⟨qb, 0, none⟩ = some (.string s0) := by rw [Lib.cell_of_heap HE2.out.1]; rfl
    have f0 : w2.frozen? ⟨qb, 0, none⟩ = false := Lib.frozen_of_heap HE2.out.1 0
    have c1 : w2.cell? ⟨qb, 1, none⟩ = some (.int .i64 n0) := by rw [Lib.cell_of_heap HE2.out.1]; rfl
    have f1 : w2.frozen? ⟨qb, 1, none⟩ = false := Lib.frozen_of_heap HE2.out.1 1
    have c2 : w2.cell? ⟨qb, 2, none⟩ = some (.slice ao n c) := by rw [Lib.cell_of_heap HE2.out.1]; rfl
    have f2 : w2.frozen? ⟨qb, 2, none⟩ = false := Lib.frozen_of_heap HE2.out.1 2
    have c3 : w2.cell? ⟨qb, 3, none⟩ = some (.string s1) := by rw [Lib.cell_of_heap HE2.out.1]; rfl
    have f3 : w2.frozen? ⟨qb, 3, none⟩ = false := Lib.frozen_of_heap HE2.out.1 3
    have c4 : w2.cell? ⟨qb, 4, none⟩ = some (.int .i64 n1) := by rw [Lib.cell_of_heap HE2.out.1]; rfl
    have f4 : w2.frozen? ⟨qb, 4, none⟩ = false := Lib.frozen_of_heap HE2.out.1 4
    have c5 : w2.cell? ⟨qb, 5, none⟩ = some (.int .i64 n2) := by rw [Lib.cell_of_heap HE2.out.1]; rfl
    have f5 : w2.frozen? ⟨qb, 5, none⟩ = false := Lib.frozen_of_heap HE2.out.1 5
    have d0 : w2.cell? ⟨eb, 0, none⟩ = some (.int .i64 e0) := by rw [Lib.cell_of_heap HE2.out.2.1]; rfl
    have d1 : w2.cell? ⟨pb, 0, none⟩ = some (.int .i64 p0) := by rw [Lib.cell_of_heap HE2.out.2.2.1]; rfl
    have f6 : w2.frozen? ⟨eb, 0, none⟩ = false := Lib.frozen_of_heap HE2.out.2.1 0
    have f7 : w2.frozen? ⟨pb, 0, none⟩ = false := Lib.frozen_of_heap HE2.out.2.2.1 0
    go_wp2_with fail
    refine wpAny_take (i := 3) (v := .tuple #[.agg #[.string s0, .int .i64 n0, .slice ao n c, .string s1, .int .i64 n1, .int .i64 n2], .int .i64 0, .int .i64 0]) rfl (by kernel_rfl) (by kernel_rfl) (by kernel_rfl) (fun _ _ _ h => h) (Or.inl ⟨by rfl, by intro w; go_simp⟩) ?_
    refine wpAny_take (i := 4) (v := .agg #[.string s0, .int .i64 n0, .slice ao n c, .string s1, .int .i64 n1, .int .i64 n2]) rfl (by kernel_rfl) (by kernel_rfl) (by kernel_rfl) (fun _ _ _ h => h) (Or.inl ⟨by rfl, by intro w; go_simp⟩) ?_
    refine wpAny_take (i := 5) (v := .int .i64 0) rfl (by kernel_rfl) (by kernel_rfl) (by kernel_rfl) (fun _ _ _ h => h) (Or.inl ⟨by rfl, by intro w; go_simp⟩) ?_
    refine wpAny_take (i := 6) (v := .int .i64 0) rfl (by kernel_rfl) (by kernel_rfl) (by kernel_rfl) (fun _ _ _ h => h) (Or.inl ⟨by rfl, by intro w; go_simp⟩) ?_
    refine wpAny_ready (rs := [7]) (by kernel_rfl) (by simp) ?_
    refine AllReady.cons rfl (fun K hK => ?_) AllReady.nil
    go_simp
    refine hK _ _ ?_
    clear hK K
    refine wpAny_ready (rs := [8]) (by kernel_rfl) (by simp) ?_
    refine AllReady.cons rfl (fun K hK => ?_) AllReady.nil
    go_simp
    refine hK _ _ ?_
    clear hK K
    refine wpAny_ready (rs := [9]) (by kernel_rfl) (by simp) ?_
    refine AllReady.cons rfl (fun K hK => ?_) AllReady.nil
    go_simp
    refine hK _ _ ?_
    clear hK K
    refine wpAny_done (by kernel_rfl) ?_ _
    exact ⟨rfl, .returning, by rw [← hu], _, results_none rfl _ _ _, rfl, rfl, HE2.out.put _ _ _ _ _ _ _ _, QE.o3 HB2.out _ _ _ _ _ _ _ _⟩
set_option maxHeartbeats 4000000 in
theorem dQ_flt (qb eb pb : Nat) (s0 s1 : ByteArray) (n0 n1 n2 e0 p0 k p : Int) (ao : Option Addr) (n c : Nat) (older : List PanicEntry) (w : World) (h : QE w qb eb pb #[.string s0, .int .i64 n0, .slice ao n c, .string s1, .int .i64 n1, .int .i64 n2] e0 p0) :
    CallsD Try.prog 39 #[.pointer (some ⟨qb, 0, none⟩), .pointer (some ⟨eb, 0, none⟩), .pointer (some ⟨pb, 0, none⟩)] (.panicking ({ v := .iface 127 (.agg #[.int .i64 k, .int .i64 p]), recovered := false } :: older)) w fun e u' w' => e = .returned (.tuple #[]) ∧ u' = .panicking ({ v := .iface 127 (.agg #[.int .i64 k, .int .i64 p]), recovered := true } :: older) ∧ QE w' qb eb pb #[.string ⟨#[]⟩, .int .i64 0, .slice none 0 0, .string ⟨#[]⟩, .int .i64 0, .int .i64 0] k p ∧ O3 qb eb pb w w' := by
  refine callsD_of_wpS Try.func39 rfl fun c₀ cs hu => ?_
  have c0 : w.cell? ⟨qb, 0, none⟩ = some (.string s0) := by rw [Lib.cell_of_heap h.1]; rfl
  have c1 : w.cell? ⟨qb, 1, none⟩ = some (.int .i64 n0) := by rw [Lib.cell_of_heap h.1]; rfl
  have c2 : w.cell? ⟨qb, 2, none⟩ = some (.slice ao n c) := by rw [Lib.cell_of_heap h.1]; rfl
  have c3 : w.cell? ⟨qb, 3, none⟩ = some (.string s1) := by rw [Lib.cell_of_heap h.1]; rfl
  have c4 : w.cell? ⟨qb, 4, none⟩ = some (.int .i64 n1) := by rw [Lib.cell_of_heap h.1]; rfl
  have c5 : w.cell? ⟨qb, 5, none⟩ = some (.int .i64 n2) := by rw [Lib.cell_of_heap h.1]; rfl
  have HT := hid (fun w => toldQ_flt s0 s1 n0 n1 n2 k p ao n c w)
  have HE := hid h
  have h4 := h.2.2.2.1
  have h5 := h.2.2.2.2
  have k1 : ¬ eb = qb := by omega
  have k2 : ¬ pb = qb := by omega
  have k3 : ¬ pb = eb := by omega
  have k4 : ¬ qb = eb := by omega
  have k5 : ¬ qb = pb := by omega
  have k6 : ¬ eb = pb := by omega
  clear h
  refine wpS_region_any (by kernel_rfl) ?_
  refine wpAnyS_all (rs := [0, 1]) (by kernel_rfl) (by simp) ?_
  intro i hi
  simp only [List.mem_cons, List.not_mem_nil, or_false] at hi
  rcases hi with rfl | rfl
  · simp [wpOpS, go_sem, Try.ntmps39, c0, c1, c2, c3, c4, c5]
    refine wpAnyS_all (rs := [1]) (by kernel_rfl) (by simp) ?_
    intro i hi
    simp only [List.mem_cons, List.not_mem_nil, or_false] at hi
    subst hi
    simp [wpOpS, go_sem, recoverD, hu]
    refine wpAny_toS (by rintro ⟨_, _, u', he, _⟩; cases he) _ _ _ _ ?_
    refine wpAny_ready (rs := [2]) (by kernel_rfl) (by simp) ?_
    refine AllReady.cons rfl (fun K hK => ?_) AllReady.nil
    go_simp
    go_wp2_with fail
    refine (HT.out _).mono ?_
    rintro e w2 ⟨rfl, hb2⟩
    have HB2 := hid (show Below w.heap.size w w2 from (Below.refl w.heap.size w).drew.trans hb2)
    have HE2 := hid (HE.out.later HB2.out)
    clear hb2 c0 c1 c2 c3 c4 c5
    have c0 : w2.cell? ⟨qb, 0, none⟩ = some (.string s0) := by rw [Lib.cell_of_heap HE2.out.1]; rfl
    have f0 : w2.frozen? ⟨qb, 0, none⟩ = false := Lib.frozen_of_heap HE2.out.1 0
    have c1 : w2.cell? ⟨qb, 1, none⟩ = some (.int .i64 n0) := by rw [Lib.cell_of_heap HE2.out.1]; rfl
    have f1 : w2.frozen? ⟨qb, 1, none⟩ = false := Lib.frozen_of_heap HE2.out.1 1
    have c2 : w2.cell? ⟨qb, 2, none⟩ = some (.slice ao n c) := by rw [Lib.cell_of_heap HE2.out.1]; rfl
    have f2 : w2.frozen? ⟨qb, 2, none⟩ = false := Lib.frozen_of_heap HE2.out.1 2
    have c3 : w2.cell? ⟨qb, 3, none⟩ = some (.string s1) := by rw [Lib.cell_of_heap HE2.out.1]; rfl
    have f3 : w2.frozen? ⟨qb, 3, none⟩ = false := Lib.frozen_of_heap HE2.out.1 3
    have c4 : w2.cell? ⟨qb, 4, none⟩ = some (.int .i64 n1) := by rw [Lib.cell_of_heap HE2.out.1]; rfl
    have f4 : w2.frozen? ⟨qb, 4, none⟩ = false := Lib.frozen_of_heap HE2.out.1 4
    have c5 : w2.cell? ⟨qb, 5, none⟩ = some (.int .i64 n2) := by rw [Lib.cell_of_heap HE2.out.1]; rfl
    have f5 : w2.frozen? ⟨qb, 5, none⟩ = false := Lib.frozen_of_heap HE2.out.1 5
    have d0 : w2.cell? ⟨eb, 0, none⟩ = some (.int .i64 e0) := by rw [Lib.cell_of_heap HE2.out.2.1]; rfl
    have d1 : w2.cell? ⟨pb, 0, none⟩ = some (.int .i64 p0) := by rw [Lib.cell_of_heap HE2.out.2.2.1]; rfl
    have f6 : w2.frozen? ⟨eb, 0, none⟩ = false := Lib.frozen_of_heap HE2.out.2.1 0
    have f7 : w2.frozen? ⟨pb, 0, none⟩ = false := Lib.frozen_of_heap HE2.out.2.2.1 0
    go_wp2_with fail
    refine wpAny_take (i := 3) (v := .tuple #[.agg #[.string ⟨#[]⟩, .int .i64 0, .slice none 0 0, .string ⟨#[]⟩, .int .i64 0, .int .i64 0], .int .i64 k, .int .i64 p]) rfl (by kernel_rfl) (by kernel_rfl) (by kernel_rfl) (fun _ _ _ h => h) (Or.inl ⟨by rfl, by intro w; go_simp⟩) ?_
    refine wpAny_take (i := 4) (v := .agg #[.string ⟨#[]⟩, .int .i64 0, .slice none 0 0, .string ⟨#[]⟩, .int .i64 0, .int .i64 0]) rfl (by kernel_rfl) (by kernel_rfl) (by kernel_rfl) (fun _ _ _ h => h) (Or.inl ⟨by rfl, by intro w; go_simp⟩) ?_
    refine wpAny_take (i := 5) (v := .int .i64 k) rfl (by kernel_rfl) (by kernel_rfl) (by kernel_rfl) (fun _ _ _ h => h) (Or.inl ⟨by rfl, by intro w; go_simp⟩) ?_
    refine wpAny_take (i := 6) (v := .int .i64 p) rfl (by kernel_rfl) (by kernel_rfl) (by kernel_rfl) (fun _ _ _ h => h) (Or.inl ⟨by rfl, by intro w; go_simp⟩) ?_
    refine wpAny_ready (rs := [7]) (by kernel_rfl) (by simp) ?_
    refine AllReady.cons rfl (fun K hK => ?_) AllReady.nil
    go_simp
    refine hK _ _ ?_
    clear hK K
    refine wpAny_ready (rs := [8]) (by kernel_rfl) (by simp) ?_
    refine AllReady.cons rfl (fun K hK => ?_) AllReady.nil
    go_simp
    refine hK _ _ ?_
    clear hK K
    refine wpAny_ready (rs := [9]) (by kernel_rfl) (by simp) ?_
    refine AllReady.cons rfl (fun K hK => ?_) AllReady.nil
    go_simp
    refine hK _ _ ?_
    clear hK K
    refine wpAny_done (by kernel_rfl) ?_ _
    exact ⟨rfl, _, rfl, _, results_none rfl _ _ _, rfl, rfl, HE2.out.put _ _ _ _ _ _ _ _, QE.o3 HB2.out _ _ _ _ _ _ _ _⟩
  · simp [wpOpS, go_sem, recoverD, hu, Try.ntmps39]
    refine wpAnyS_all (rs := [0]) (by kernel_rfl) (by simp) ?_
    intro i hi
    simp only [List.mem_cons, List.not_mem_nil, or_false] at hi
    subst hi
    simp [wpOpS, go_sem, c0, c1, c2, c3, c4, c5]
    refine wpAny_toS (by rintro ⟨_, _, u', he, _⟩; cases he) _ _ _ _ ?_
    refine wpAny_ready (rs := [2]) (by kernel_rfl) (by simp) ?_
    refine AllReady.cons rfl (fun K hK => ?_) AllReady.nil
    go_simp
    go_wp2_with fail
    refine (HT.out _).mono ?_
    rintro e w2 ⟨rfl, hb2⟩
    have HB2 := hid (show Below w.heap.size w w2 from (Below.refl w.heap.size w).drew.trans hb2)
    have HE2 := hid (HE.out.later HB2.out)
    clear hb2 c0 c1 c2 c3 c4 c5
    have c0 : w2.cell? ⟨qb, 0, none⟩ = some (.string s0) := by rw [Lib.cell_of_heap HE2.out.1]; rfl
    have f0 : w2.frozen? ⟨qb, 0, none⟩ = false := Lib.frozen_of_heap HE2.out.1 0
    have c1 : w2.cell? ⟨qb, 1, none⟩ = some (.int .i64 n0) := by rw [Lib.cell_of_heap HE2.out.1]; rfl
    have f1 : w2.frozen? ⟨qb, 1, none⟩ = false := Lib.frozen_of_heap HE2.out.1 1
    have c2 : w2.cell? ⟨qb, 2, none⟩ = some (.slice ao n c) := by rw [Lib.cell_of_heap HE2.out.1]; rfl
    have f2 : w2.frozen? ⟨qb, 2, none⟩ = false := Lib.frozen_of_heap HE2.out.1 2
    have c3 : w2.cell? ⟨qb, 3, none⟩ = some (.string s1) := by rw [Lib.cell_of_heap HE2.out.1]; rfl
    have f3 : w2.frozen? ⟨qb, 3, none⟩ = false := Lib.frozen_of_heap HE2.out.1 3
    have c4 : w2.cell? ⟨qb, 4, none⟩ = some (.int .i64 n1) := by rw [Lib.cell_of_heap HE2.out.1]; rfl
    have f4 : w2.frozen? ⟨qb, 4, none⟩ = false := Lib.frozen_of_heap HE2.out.1 4
    have c5 : w2.cell? ⟨qb, 5, none⟩ = some (.int .i64 n2) := by rw [Lib.cell_of_heap HE2.out.1]; rfl
    have f5 : w2.frozen? ⟨qb, 5, none⟩ = false := Lib.frozen_of_heap HE2.out.1 5
    have d0 : w2.cell? ⟨eb, 0, none⟩ = some (.int .i64 e0) := by rw [Lib.cell_of_heap HE2.out.2.1]; rfl
    have d1 : w2.cell? ⟨pb, 0, none⟩ = some (.int .i64 p0) := by rw [Lib.cell_of_heap HE2.out.2.2.1]; rfl
    have f6 : w2.frozen? ⟨eb, 0, none⟩ = false := Lib.frozen_of_heap HE2.out.2.1 0
    have f7 : w2.frozen? ⟨pb, 0, none⟩ = false := Lib.frozen_of_heap HE2.out.2.2.1 0
    go_wp2_with fail
    refine wpAny_take (i := 3) (v := .tuple #[.agg #[.string ⟨#[]⟩, .int .i64 0, .slice none 0 0, .string ⟨#[]⟩, .int .i64 0, .int .i64 0], .int .i64 k, .int .i64 p]) rfl (by kernel_rfl) (by kernel_rfl) (by kernel_rfl) (fun _ _ _ h => h) (Or.inl ⟨by rfl, by intro w; go_simp⟩) ?_
    refine wpAny_take (i := 4) (v := .agg #[.string ⟨#[]⟩, .int .i64 0, .slice none 0 0, .string ⟨#[]⟩, .int .i64 0, .int .i64 0]) rfl (by kernel_rfl) (by kernel_rfl) (by kernel_rfl) (fun _ _ _ h => h) (Or.inl ⟨by rfl, by intro w; go_simp⟩) ?_
    refine wpAny_take (i := 5) (v := .int .i64 k) rfl (by kernel_rfl) (by kernel_rfl) (by kernel_rfl) (fun _ _ _ h => h) (Or.inl ⟨by rfl, by intro w; go_simp⟩) ?_
    refine wpAny_take (i := 6) (v := .int .i64 p) rfl (by kernel_rfl) (by kernel_rfl) (by kernel_rfl) (fun _ _ _ h => h) (Or.inl ⟨by rfl, by intro w; go_simp⟩) ?_
    refine wpAny_ready (rs := [7]) (by kernel_rfl) (by simp) ?_
    refine AllReady.cons rfl (fun K hK => ?_) AllReady.nil
    go_simp
    refine hK _ _ ?_
    clear hK K
    refine wpAny_ready (rs := [8]) (by kernel_rfl) (by simp) ?_
    refine AllReady.cons rfl (fun K hK => ?_) AllReady.nil
    go_simp
    refine hK _ _ ?_
    clear hK K
    refine wpAny_ready (rs := [9]) (by kernel_rfl) (by simp) ?_
    refine AllReady.cons rfl (fun K hK => ?_) AllReady.nil
    go_simp
    refine hK _ _ ?_
    clear hK K
    refine wpAny_done (by kernel_rfl) ?_ _
    exact ⟨rfl, _, rfl, _, results_none rfl _ _ _, rfl, rfl, HE2.out.put _ _ _ _ _ _ _ _, QE.o3 HB2.out _ _ _ _ _ _ _ _⟩
end Go.Proofs.Ytfhicemfhkhjaab
