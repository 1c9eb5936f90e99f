/-
  Rp3: codec: Reply's closure. Laid by mkrp3.py.
  Rp4: codec: Reply. Laid by mkrp4.py.
-/
import Derived.Test.YtfhicemfhkhjaabRp2
import Derived.Test.YtfhicemfhkhjaabCr6
import Derived.Test.YtfhicemfhkhjaabCr7
namespace Go.Proofs.Ytfhicemfhkhjaab
open Go.RowKit
set_option maxRecDepth 100000

set_option maxHeartbeats 1000000 in
theorem toldY_nil (s0 : ByteArray) (n0 : Int) (n1 : Int) (a9 : Option Addr) (n9 c9 : Nat) (n2 : Int) (w : World) : Calls Try.prog 44 #[.agg #[.string s0, .int .i64 n0, .int .i64 n1, .slice a9 n9 c9, .int .i64 n2], .nilIface] w fun e w' => e = .returned (.tuple #[.agg #[.string s0, .int .i64 n0, .int .i64 n1, .slice a9 n9 c9, .int .i64 n2], .int .i64 0, .int .i64 0]) ∧ Below w.heap.size w w' := by
  go_enter Try.func44, Try.ntmps44
  go_wp2
  simp [bodyPost, results, Try.results44, go_sem, asAddr]
  exact ((Below.refl _ _).alloc (Nat.le_refl _) _).alloc (by simp) _
set_option maxHeartbeats 1000000 in
theorem toldY_flt (s0 : ByteArray) (n0 : Int) (n1 : Int) (a9 : Option Addr) (n9 c9 : Nat) (n2 : Int) (k p : Int) (w : World) : Calls Try.prog 44 #[.agg #[.string s0, .int .i64 n0, .int .i64 n1, .slice a9 n9 c9, .int .i64 n2], .iface 127 (.agg #[.int .i64 k, .int .i64 p])] w fun e w' => e = .returned (.tuple #[.agg #[.string ⟨#[]⟩, .int .i64 0, .int .i64 0, .slice none 0 0, .int .i64 0], .int .i64 k, .int .i64 p]) ∧ Below w.heap.size w w' := by
  have hta := fault_is (.agg #[.int .i64 k, .int .i64 p])
  go_enter Try.func44, Try.ntmps44
  go_wp2
  go_region
  all_goals
    go_wp2
    simp [bodyPost, results, Try.results44, go_sem, asAddr]
    exact (((((Below.refl _ _).alloc (Nat.le_refl _) _).alloc (by simp) _).alloc (by simp; omega) _).alloc (by simp; omega) _).drew
/-- the three results of a call that reads a reply -/
def RY (w : World) (qb eb pb : Nat) (row : Array Value) (e p : Int) : Prop := w.heap[qb]? = some (.cells row 28 (0, 0)) ∧ w.heap[eb]? = some (.cells #[.int .i64 e] 25 (0, 0)) ∧ w.heap[pb]? = some (.cells #[.int .i64 p] 3 (0, 0)) ∧ qb < eb ∧ eb < pb
theorem RY.later {w w' : World} {qb eb pb : Nat} {row : Array Value} {e p : Int} (h : RY w qb eb pb row e p) (k : Below w.heap.size w w') : RY w' qb eb pb row e p :=
  ⟨(k.block qb (Array.getElem?_eq_some_iff.1 h.1).1).trans h.1, (k.block eb (Array.getElem?_eq_some_iff.1 h.2.1).1).trans h.2.1, (k.block pb (Array.getElem?_eq_some_iff.1 h.2.2.1).1).trans h.2.2.1, h.2.2.2⟩
theorem RY.put {w : World} {qb eb pb : Nat} {b0 b1 b2 b3 b4 : Value} {e p : Int} (h : RY w qb eb pb #[b0, b1, b2, b3, b4] e p) (a0 a1 a2 a3 a4 : Value) (e' p' : Int) : RY (((((((w.setCell ⟨qb, 0, none⟩ a0).setCell ⟨qb, 1, none⟩ a1).setCell ⟨qb, 2, none⟩ a2).setCell ⟨qb, 3, none⟩ a3).setCell ⟨qb, 4, none⟩ a4).setCell ⟨eb, 0, none⟩ (.int .i64 e')).setCell ⟨pb, 0, none⟩ (.int .i64 p')) qb eb pb #[a0, a1, a2, a3, a4] e' p' := by
  obtain ⟨h1, h2, h3, h4, h5⟩ := h
  have g0 : (w.setCell ⟨qb, 0, none⟩ a0).heap[qb]? = some (.cells #[a0, b1, b2, b3, b4] 28 (0, 0)) := heap_setCell_same _ qb 0 _ _ a0 h1
  have g1 : ((w.setCell ⟨qb, 0, none⟩ a0).setCell ⟨qb, 1, none⟩ a1).heap[qb]? = some (.cells #[a0, a1, b2, b3, b4] 28 (0, 0)) := heap_setCell_same _ qb 1 _ _ a1 g0
  have g2 : (((w.setCell ⟨qb, 0, none⟩ a0).setCell ⟨qb, 1, none⟩ a1).setCell ⟨qb, 2, none⟩ a2).heap[qb]? = some (.cells #[a0, a1, a2, b3, b4] 28 (0, 0)) := heap_setCell_same _ qb 2 _ _ a2 g1
  have g3 : ((((w.setCell ⟨qb, 0, none⟩ a0).setCell ⟨qb, 1, none⟩ a1).setCell ⟨qb, 2, none⟩ a2).setCell ⟨qb, 3, none⟩ a3).heap[qb]? = some (.cells #[a0, a1, a2, a3, b4] 28 (0, 0)) := heap_setCell_same _ qb 3 _ _ a3 g2
  have g4 : (((((w.setCell ⟨qb, 0, none⟩ a0).setCell ⟨qb, 1, none⟩ a1).setCell ⟨qb, 2, none⟩ a2).setCell ⟨qb, 3, none⟩ a3).setCell ⟨qb, 4, none⟩ a4).heap[qb]? = some (.cells #[a0, a1, a2, a3, a4] 28 (0, 0)) := heap_setCell_same _ qb 4 _ _ a4 g3
  refine ⟨?_, ?_, ?_, h4, h5⟩
  · rw [heap_setCell_other _ ⟨pb, 0, none⟩ qb _ (by show qb ≠ pb; omega), heap_setCell_other _ ⟨eb, 0, none⟩ qb _ (by show qb ≠ eb; omega)]
    exact g4
  · rw [heap_setCell_other _ ⟨pb, 0, none⟩ eb _ (by show eb ≠ pb; omega)]
    refine heap_setCell_same _ eb 0 _ _ _ (show _ = some (Obj.cells #[.int .i64 e] 25 (0, 0)) from ?_)
    rw [heap_setCell_other _ ⟨qb, 4, none⟩ eb _ (by show eb ≠ qb; omega), heap_setCell_other _ ⟨qb, 3, none⟩ eb _ (by show eb ≠ qb; omega), heap_setCell_other _ ⟨qb, 2, none⟩ eb _ (by show eb ≠ qb; omega), heap_setCell_other _ ⟨qb, 1, none⟩ eb _ (by show eb ≠ qb; omega), heap_setCell_other _ ⟨qb, 0, none⟩ eb _ (by show eb ≠ qb; omega)]
    exact h2
  · refine heap_setCell_same _ pb 0 _ _ _ (show _ = some (Obj.cells #[.int .i64 p] 3 (0, 0)) from ?_)
    rw [heap_setCell_other _ ⟨eb, 0, none⟩ pb _ (by show pb ≠ eb; omega), heap_setCell_other _ ⟨qb, 4, none⟩ pb _ (by show pb ≠ qb; omega), heap_setCell_other _ ⟨qb, 3, none⟩ pb _ (by show pb ≠ qb; omega), heap_setCell_other _ ⟨qb, 2, none⟩ pb _ (by show pb ≠ qb; omega), heap_setCell_other _ ⟨qb, 1, none⟩ pb _ (by show pb ≠ qb; omega), heap_setCell_other _ ⟨qb, 0, none⟩ pb _ (by show pb ≠ qb; omega)]
    exact h3
theorem RY.o3 {w0 w : World} {qb eb pb : Nat} (h : Below w0.heap.size w0 w) (a0 a1 a2 a3 a4 : Value) (e' p' : Int) : O3 qb eb pb w0 (((((((w.setCell ⟨qb, 0, none⟩ a0).setCell ⟨qb, 1, none⟩ a1).setCell ⟨qb, 2, none⟩ a2).setCell ⟨qb, 3, none⟩ a3).setCell ⟨qb, 4, none⟩ a4).setCell ⟨eb, 0, none⟩ (.int .i64 e')).setCell ⟨pb, 0, none⟩ (.int .i64 p')) := by
  have h0 : O3 qb eb pb w0 w := ⟨h.os, h.tape, h.output, h.size, fun k hk _ _ _ => h.block k hk⟩
  exact ((((((h0.set qb 0 a0 (Or.inl rfl)).set qb 1 a1 (Or.inl rfl)).set qb 2 a2 (Or.inl rfl)).set qb 3 a3 (Or.inl rfl)).set qb 4 a4 (Or.inl rfl)).set eb 0 _ (Or.inr (Or.inl rfl))).set pb 0 _ (Or.inr (Or.inr rfl))
set_option maxHeartbeats 4000000 in
theorem dY_nil (qb eb pb : Nat) (s0 : ByteArray) (n0 : Int) (n1 : Int) (a9 : Option Addr) (n9 c9 : Nat) (n2 : Int) (e0 p0 : Int) (w : World) (h : RY w qb eb pb #[.string s0, .int .i64 n0, .int .i64 n1, .slice a9 n9 c9, .int .i64 n2] e0 p0) :
    CallsD Try.prog 43 #[.pointer (some ⟨qb, 0, none⟩), .pointer (some ⟨eb, 0, none⟩), .pointer (some ⟨pb, 0, none⟩)] .returning w fun e u' w' => e = .returned (.tuple #[]) ∧ u' = .returning ∧ RY w' qb eb pb #[.string s0, .int .i64 n0, .int .i64 n1, .slice a9 n9 c9, .int .i64 n2] 0 0 ∧ O3 qb eb pb w w' := by
  refine callsD_of_wpS Try.func43 rfl fun c₀ cs hu => ?_
  have c0 : w.cell? ⟨qb, 0, none⟩ = some (.string s0) := by rw [Lib.cell_of_heap h.1]; rfl
  have c1 : w.cell? ⟨qb, 1, none⟩ = some (.int .i64 n0) := by rw [Lib.cell_of_heap h.1]; rfl
  have c2 : w.cell? ⟨qb, 2, none⟩ = some (.int .i64 n1) := by rw [Lib.cell_of_heap h.1]; rfl
  have c3 : w.cell? ⟨qb, 3, none⟩ = some (.slice a9 n9 c9) := by rw [Lib.cell_of_heap h.1]; rfl
  have c4 : w.cell? ⟨qb, 4, none⟩ = some (.int .i64 n2) := by rw [Lib.cell_of_heap h.1]; rfl
  have HT := hid (fun w => toldY_nil s0 n0 n1 a9 n9 c9 n2 w)
  have HE := hid h
  have h4 := h.2.2.2.1
  have h5 := h.2.2.2.2
  have k1 : ¬ eb = qb := by omega
  have k2 : ¬ pb = qb := by omega
  have k3 : ¬ pb = eb := by omega
  have k4 : ¬ qb = eb := by omega
  have k5 : ¬ qb = pb := by omega
  have k6 : ¬ eb = pb := by omega
  clear h
  refine wpS_region_any (by kernel_rfl) ?_
  refine wpAnyS_all (rs := [0, 1]) (by kernel_rfl) (by simp) ?_
  intro i hi
  simp only [List.mem_cons, List.not_mem_nil, or_false] at hi
  rcases hi with rfl | rfl
  · simp [wpOpS, go_sem, Try.ntmps43, c0, c1, c2, c3, c4]
    refine wpAnyS_all (rs := [1]) (by kernel_rfl) (by simp) ?_
    intro i hi
    simp only [List.mem_cons, List.not_mem_nil, or_false] at hi
    subst hi
    simp [wpOpS, go_sem, recoverD, hu]
    refine wpAny_toS (by rintro ⟨_, _, u', he, _⟩; cases he) _ _ _ _ ?_
    refine wpAny_ready (rs := [2]) (by kernel_rfl) (by simp) ?_
    refine AllReady.cons rfl (fun K hK => ?_) AllReady.nil
    go_simp
    go_wp2_with fail
    refine (HT.out _).mono ?_
    rintro e w2 ⟨rfl, hb2⟩
    have HB2 := hid (show Below w.heap.size w w2 from (Below.refl w.heap.size w).drew.trans hb2)
    have HE2 := hid (HE.out.later HB2.out)
    clear hb2 c0 c1 c2 c3 c4
    have c0 : w2.cell? ⟨qb, 0, none⟩ = some (.string s0) := by rw [Lib.cell_of_heap HE2.out.1]; rfl
    have f0 : w2.frozen? ⟨qb, 0, none⟩ = false := Lib.frozen_of_heap HE2.out.1 0
    have c1 : w2.cell? ⟨qb, 1, none⟩ = some (.int .i64 n0) := by rw [Lib.cell_of_heap HE2.out.1]; rfl
    have f1 : w2.frozen? ⟨qb, 1, none⟩ = false := Lib.frozen_of_heap HE2.out.1 1
    have c2 : w2.cell? ⟨qb, 2, none⟩ = some (.int .i64 n1) := by rw [Lib.cell_of_heap HE2.out.1]; rfl
    have f2 : w2.frozen? ⟨qb, 2, none⟩ = false := Lib.frozen_of_heap HE2.out.1 2
    have c3 : w2.cell? ⟨qb, 3, none⟩ = some (.slice a9 n9 c9) := by rw [Lib.cell_of_heap HE2.out.1]; rfl
    have f3 : w2.frozen? ⟨qb, 3, none⟩ = false := Lib.frozen_of_heap HE2.out.1 3
    have c4 : w2.cell? ⟨qb, 4, none⟩ = some (.int .i64 n2) := by rw [Lib.cell_of_heap HE2.out.1]; rfl
    have f4 : w2.frozen? ⟨qb, 4, none⟩ = false := Lib.frozen_of_heap HE2.out.1 4
    have d0 : w2.cell? ⟨eb, 0, none⟩ = some (.int .i64 e0) := by rw [Lib.cell_of_heap HE2.out.2.1]; rfl
    have d1 : w2.cell? ⟨pb, 0, none⟩ = some (.int .i64 p0) := by rw [Lib.cell_of_heap HE2.out.2.2.1]; rfl
    have fe : w2.frozen? ⟨eb, 0, none⟩ = false := Lib.frozen_of_heap HE2.out.2.1 0
    have fp : w2.frozen? ⟨pb, 0, none⟩ = false := Lib.frozen_of_heap HE2.out.2.2.1 0
    go_wp2_with fail
    refine wpAny_take (i := 3) (v := .tuple #[.agg #[.string s0, .int .i64 n0, .int .i64 n1, .slice a9 n9 c9, .int .i64 n2], .int .i64 0, .int .i64 0]) rfl (by kernel_rfl) (by kernel_rfl) (by kernel_rfl) (fun _ _ _ h => h) (Or.inl ⟨by rfl, by intro w; go_simp⟩) ?_
    refine wpAny_take (i := 4) (v := .agg #[.string s0, .int .i64 n0, .int .i64 n1, .slice a9 n9 c9, .int .i64 n2]) rfl (by kernel_rfl) (by kernel_rfl) (by kernel_rfl) (fun _ _ _ h => h) (Or.inl ⟨by rfl, by intro w; go_simp⟩) ?_
    refine wpAny_take (i := 5) (v := .int .i64 0) rfl (by kernel_rfl) (by kernel_rfl) (by kernel_rfl) (fun _ _ _ h => h) (Or.inl ⟨by rfl, by intro w; go_simp⟩) ?_
    refine wpAny_take (i := 6) (v := .int .i64 0) rfl (by kernel_rfl) (by kernel_rfl) (by kernel_rfl) (fun _ _ _ h => h) (Or.inl ⟨by rfl, by intro w; go_simp⟩) ?_
    refine wpAny_ready (rs := [7]) (by kernel_rfl) (by simp) ?_
    refine AllReady.cons rfl (fun K hK => ?_) AllReady.nil
    go_simp
    refine hK _ _ ?_
    clear hK K
    refine wpAny_ready (rs := [8]) (by kernel_rfl) (by simp) ?_
    refine AllReady.cons rfl (fun K hK => ?_) AllReady.nil
    go_simp
    refine hK _ _ ?_
    clear hK K
    refine wpAny_ready (rs := [9]) (by kernel_rfl) (by simp) ?_
    refine AllReady.cons rfl (fun K hK => ?_) AllReady.nil
    go_simp
    refine hK _ _ ?_
    clear hK K
    refine wpAny_done (by kernel_rfl) ?_ _
    exact ⟨rfl, .returning, by rw [← hu], _, results_none rfl _ _ _, rfl, rfl, HE2.out.put _ _ _ _ _ _ _, RY.o3 HB2.out _ _ _ _ _ _ _⟩
  · simp [wpOpS, go_sem, recoverD, hu, Try.ntmps43]
    refine wpAnyS_all (rs := [0]) (by kernel_rfl) (by simp) ?_
    intro i hi
    simp only [List.mem_cons, List.not_mem_nil, or_false] at hi
    subst hi
    simp [wpOpS, go_sem, c0, c1, c2, c3, c4]
    refine wpAny_toS (by rintro ⟨_, _, u', he, _⟩; cases he) _ _ _ _ ?_
    refine wpAny_ready (rs := [2]) (by kernel_rfl) (by simp) ?_
    refine AllReady.cons rfl (fun K hK => ?_) AllReady.nil
    go_simp
    go_wp2_with fail
    refine (HT.out _).mono ?_
    rintro e w2 ⟨rfl, hb2⟩
    have HB2 := hid (show Below w.heap.size w w2 from (Below.refl w.heap.size w).drew.trans hb2)
    have HE2 := hid (HE.out.later HB2.out)
    clear hb2 c0 c1 c2 c3 c4
    have c0 : w2.cell? ⟨qb, 0, none⟩ = some (.string s0) := by rw [Lib.cell_of_heap HE2.out.1]; rfl
    have f0 : w2.frozen? ⟨qb, 0, none⟩ = false := Lib.frozen_of_heap HE2.out.1 0
    have c1 : w2.cell? ⟨qb, 1, none⟩ = some (.int .i64 n0) := by rw [Lib.cell_of_heap HE2.out.1]; rfl
    have f1 : w2.frozen? ⟨qb, 1, none⟩ = false := Lib.frozen_of_heap HE2.out.1 1
    have c2 : w2.cell? ⟨qb, 2, none⟩ = some (.int .i64 n1) := by rw [Lib.cell_of_heap HE2.out.1]; rfl
    have f2 : w2.frozen? ⟨qb, 2, none⟩ = false := Lib.frozen_of_heap HE2.out.1 2
    have c3 : w2.cell? ⟨qb, 3, none⟩ = some (.slice a9 n9 c9) := by rw [Lib.cell_of_heap HE2.out.1]; rfl
    have f3 : w2.frozen? ⟨qb, 3, none⟩ = false := Lib.frozen_of_heap HE2.out.1 3
    have c4 : w2.cell? ⟨qb, 4, none⟩ = some (.int .i64 n2) := by rw [Lib.cell_of_heap HE2.out.1]; rfl
    have f4 : w2.frozen? ⟨qb, 4, none⟩ = false := Lib.frozen_of_heap HE2.out.1 4
    have d0 : w2.cell? ⟨eb, 0, none⟩ = some (.int .i64 e0) := by rw [Lib.cell_of_heap HE2.out.2.1]; rfl
    have d1 : w2.cell? ⟨pb, 0, none⟩ = some (.int .i64 p0) := by rw [Lib.cell_of_heap HE2.out.2.2.1]; rfl
    have fe : w2.frozen? ⟨eb, 0, none⟩ = false := Lib.frozen_of_heap HE2.out.2.1 0
    have fp : w2.frozen? ⟨pb, 0, none⟩ = false := Lib.frozen_of_heap HE2.out.2.2.1 0
    go_wp2_with fail
    refine wpAny_take (i := 3) (v := .tuple #[.agg #[.string s0, .int .i64 n0, .int .i64 n1, .slice a9 n9 c9, .int .i64 n2], .int .i64 0, .int .i64 0]) rfl (by kernel_rfl) (by kernel_rfl) (by kernel_rfl) (fun _ _ _ h => h) (Or.inl ⟨by rfl, by intro w; go_simp⟩) ?_
    refine wpAny_take (i := 4) (v := .agg #[.string s0, .int .i64 n0, .int .i64 n1, .slice a9 n9 c9, .int .i64 n2]) rfl (by kernel_rfl) (by kernel_rfl) (by kernel_rfl) (fun _ _ _ h => h) (Or.inl ⟨by rfl, by intro w; go_simp⟩) ?_
    refine wpAny_take (i := 5) (v := .int .i64 0) rfl (by kernel_rfl) (by kernel_rfl) (by kernel_rfl) (fun _ _ _ h => h) (Or.inl ⟨by rfl, by intro w; go_simp⟩) ?_
    refine wpAny_take (i := 6) (v := .int .i64 0) rfl (by kernel_rfl) (by kernel_rfl) (by kernel_rfl) (fun _ _ _ h => h) (Or.inl ⟨by rfl, by intro w; go_simp⟩) ?_
    refine wpAny_ready (rs := [7]) (by kernel_rfl) (by simp) ?_
    refine AllReady.cons rfl (fun K hK => ?_) AllReady.nil
    go_simp
    refine hK _ _ ?_
    clear hK K
    refine wpAny_ready (rs := [8]) (by kernel_rfl) (by simp) ?_
    refine AllReady.cons rfl (fun K hK => ?_) AllReady.nil
    go_simp
    refine hK _ _ ?_
    clear hK K
    refine wpAny_ready (rs := [9]) (by kernel_rfl) (by simp) ?_
    refine AllReady.cons rfl (fun K hK => ?_) AllReady.nil
    go_simp
    refine hK _ _ ?_
    clear hK K
    refine wpAny_done (by kernel_rfl) ?_ _
    exact ⟨rfl, .returning, by rw [← hu], _, results_none rfl _ _ _, rfl, rfl, HE2.out.put _ _ _ _ _ _ _, RY.o3 HB2.out _ _ _ _ _ _ _⟩
set_option maxHeartbeats 4000000 in
theorem dY_flt (qb eb pb : Nat) (s0 : ByteArray) (n0 : Int) (n1 : Int) (a9 : Option Addr) (n9 c9 : Nat) (n2 : Int) (e0 p0 k p : Int) (older : List PanicEntry) (w : World) (h : RY w qb eb pb #[.string s0, .int .i64 n0, .int .i64 n1, .slice a9 n9 c9, .int .i64 n2] e0 p0) :
    CallsD Try.prog 43 #[.pointer (some ⟨qb, 0, none⟩), .pointer (some ⟨eb, 0, none⟩), .pointer (some ⟨pb, 0, none⟩)] (.panicking ({ v := .iface 127 (.agg #[.int .i64 k, .int .i64 p]), recovered := false } :: older)) w fun e u' w' => e = .returned (.tuple #[]) ∧ u' = .panicking ({ v := .iface 127 (.agg #[.int .i64 k, .int .i64 p]), recovered := true } :: older) ∧ RY w' qb eb pb #[.string ⟨#[]⟩, .int .i64 0, .int .i64 0, .slice none 0 0, .int .i64 0] k p ∧ O3 qb eb pb w w' := by
  refine callsD_of_wpS Try.func43 rfl fun c₀ cs hu => ?_
  have c0 : w.cell? ⟨qb, 0, none⟩ = some (.string s0) := by rw [Lib.cell_of_heap h.1]; rfl
  have c1 : w.cell? ⟨qb, 1, none⟩ = some (.int .i64 n0) := by rw [Lib.cell_of_heap h.1]; rfl
  have c2 : w.cell? ⟨qb, 2, none⟩ = some (.int .i64 n1) := by rw [Lib.cell_of_heap h.1]; rfl
  have c3 : w.cell? ⟨qb, 3, none⟩ = some (.slice a9 n9 c9) := by rw [Lib.cell_of_heap h.1]; rfl
  have c4 : w.cell? ⟨qb, 4, none⟩ = some (.int .i64 n2) := by rw [Lib.cell_of_heap h.1]; rfl
  have HT := hid (fun w => toldY_flt s0 n0 n1 a9 n9 c9 n2 k p w)
  have HE := hid h
  have h4 := h.2.2.2.1
  have h5 := h.2.2.2.2
  have k1 : ¬ eb = qb := by omega
  have k2 : ¬ pb = qb := by omega
  have k3 : ¬ pb = eb := by omega
  have k4 : ¬ qb = eb := by omega
  have k5 : ¬ qb = pb := by omega
  have k6 : ¬ eb = pb := by omega
  clear h
  refine wpS_region_any (by kernel_rfl) ?_
  refine wpAnyS_all (rs := [0, 1]) (by kernel_rfl) (by simp) ?_
  intro i hi
  simp only [List.mem_cons, List.not_mem_nil, or_false] at hi
  rcases hi with rfl | rfl
  · simp [wpOpS, go_sem, Try.ntmps43, c0, c1, c2, c3, c4]
    refine wpAnyS_all (rs := [1]) (by kernel_rfl) (by simp) ?_
    intro i hi
    simp only [List.mem_cons, List.not_mem_nil, or_false] at hi
    subst hi
    simp [wpOpS, go_sem, recoverD, hu]
    refine wpAny_toS (by rintro ⟨_, _, u', he, _⟩; cases he) _ _ _ _ ?_
    refine wpAny_ready (rs := [2]) (by kernel_rfl) (by simp) ?_
    refine AllReady.cons rfl (fun K hK => ?_) AllReady.nil
    go_simp
    go_wp2_with fail
    refine (HT.out _).mono ?_
    rintro e w2 ⟨rfl, hb2⟩
    have HB2 := hid (show Below w.heap.size w w2 from (Below.refl w.heap.size w).drew.trans hb2)
    have HE2 := hid (HE.out.later HB2.out)
    clear hb2 c0 c1 c2 c3 c4
    have c0 : w2.cell? ⟨qb, 0, none⟩ = some (.string s0) := by rw [Lib.cell_of_heap HE2.out.1]; rfl
    have f0 : w2.frozen? ⟨qb, 0, none⟩ = false := Lib.frozen_of_heap HE2.out.1 0
    have c1 : w2.cell? ⟨qb, 1, none⟩ = some (.int .i64 n0) := by rw [Lib.cell_of_heap HE2.out.1]; rfl
    have f1 : w2.frozen? ⟨qb, 1, none⟩ = false := Lib.frozen_of_heap HE2.out.1 1
    have c2 : w2.cell? ⟨qb, 2, none⟩ = some (.int .i64 n1) := by rw [Lib.cell_of_heap HE2.out.1]; rfl
    have f2 : w2.frozen? ⟨qb, 2, none⟩ = false := Lib.frozen_of_heap HE2.out.1 2
    have c3 : w2.cell? ⟨qb, 3, none⟩ = some (.slice a9 n9 c9) := by rw [Lib.cell_of_heap HE2.out.1]; rfl
    have f3 : w2.frozen? ⟨qb, 3, none⟩ = false := Lib.frozen_of_heap HE2.out.1 3
    have c4 : w2.cell? ⟨qb, 4, none⟩ = some (.int .i64 n2) := by rw [Lib.cell_of_heap HE2.out.1]; rfl
    have f4 : w2.frozen? ⟨qb, 4, none⟩ = false := Lib.frozen_of_heap HE2.out.1 4
    have d0 : w2.cell? ⟨eb, 0, none⟩ = some (.int .i64 e0) := by rw [Lib.cell_of_heap HE2.out.2.1]; rfl
    have d1 : w2.cell? ⟨pb, 0, none⟩ = some (.int .i64 p0) := by rw [Lib.cell_of_heap HE2.out.2.2.1]; rfl
    have fe : w2.frozen? ⟨eb, 0, none⟩ = false := Lib.frozen_of_heap HE2.out.2.1 0
    have fp : w2.frozen? ⟨pb, 0, none⟩ = false := Lib.frozen_of_heap HE2.out.2.2.1 0
    go_wp2_with fail
    refine wpAny_take (i := 3) (v := .tuple #[.agg #[.string ⟨#[]⟩, .int .i64 0, .int .i64 0, .slice none 0 0, .int .i64 0], .int .i64 k, .int .i64 p]) rfl (by kernel_rfl) (by kernel_rfl) (by kernel_rfl) (fun _ _ _ h => h) (Or.inl ⟨by rfl, by intro w; go_simp⟩) ?_
    refine wpAny_take (i := 4) (v := .agg #[.string ⟨#[]⟩, .int .i64 0, .int .i64 0, .slice none 0 0, .int .i64 0]) rfl (by kernel_rfl) (by kernel_rfl) (by kernel_rfl) (fun _ _ _ h => h) (Or.inl ⟨by rfl, by intro w; go_simp⟩) ?_
    refine wpAny_take (i := 5) (v := .int .i64 k) rfl (by kernel_rfl) (by kernel_rfl) (by kernel_rfl) (fun _ _ _ h => h) (Or.inl ⟨by rfl, by intro w; go_simp⟩) ?_
    refine wpAny_take (i := 6) (v := .int .i64 p) rfl (by kernel_rfl) (by kernel_rfl) (by kernel_rfl) (fun _ _ _ h => h) (Or.inl ⟨by rfl, by intro w; go_simp⟩) ?_
    refine wpAny_ready (rs := [7]) (by kernel_rfl) (by simp) ?_
    refine AllReady.cons rfl (fun K hK => ?_) AllReady.nil
    go_simp
    refine hK _ _ ?_
    clear hK K
    refine wpAny_ready (rs := [8]) (by kernel_rfl) (by simp) ?_
    refine AllReady.cons rfl (fun K hK => ?_) AllReady.nil
    go_simp
    refine hK _ _ ?_
    clear hK K
    refine wpAny_ready (rs := [9]) (by kernel_rfl) (by simp) ?_
    refine AllReady.cons rfl (fun K hK => ?_) AllReady.nil
    go_simp
    refine hK _ _ ?_
    clear hK K
    refine wpAny_done (by kernel_rfl) ?_ _
    exact ⟨rfl, _, rfl, _, results_none rfl _ _ _, rfl, rfl, HE2.out.put _ _ _ _ _ _ _, RY.o3 HB2.out _ _ _ _ _ _ _⟩
  · simp [wpOpS, go_sem, recoverD, hu, Try.ntmps43]
    refine wpAnyS_all (rs := [0]) (by kernel_rfl) (by simp) ?_
    intro i hi
    simp only [List.mem_cons, List.not_mem_nil, or_false] at hi
    subst hi
    simp [wpOpS, go_sem, c0, c1, c2, c3, c4]
    refine wpAny_toS (by rintro ⟨_, _, u', he, _⟩; cases he) _ _ _ _ ?_
    refine wpAny_ready (rs := [2]) (by kernel_rfl) (by simp) ?_
    refine AllReady.cons rfl (fun K hK => ?_) AllReady.nil
    go_simp
    go_wp2_with fail
    refine (HT.out _).mono ?_
    rintro e w2 ⟨rfl, hb2⟩
    have HB2 := hid (show Below w.heap.size w w2 from (Below.refl w.heap.size w).drew.trans hb2)
    have HE2 := hid (HE.out.later HB2.out)
    clear hb2 c0 c1 c2 c3 c4
    have c0 : w2.cell? ⟨qb, 0, none⟩ = some (.string s0) := by rw [Lib.cell_of_heap HE2.out.1]; rfl
    have f0 : w2.frozen? ⟨qb, 0, none⟩ = false := Lib.frozen_of_heap HE2.out.1 0
    have c1 : w2.cell? ⟨qb, 1, none⟩ = some (.int .i64 n0) := by rw [Lib.cell_of_heap HE2.out.1]; rfl
    have f1 : w2.frozen? ⟨qb, 1, none⟩ = false := Lib.frozen_of_heap HE2.out.1 1
    have c2 : w2.cell? ⟨qb, 2, none⟩ = some (.int .i64 n1) := by rw [Lib.cell_of_heap HE2.out.1]; rfl
    have f2 : w2.frozen? ⟨qb, 2, none⟩ = false := Lib.frozen_of_heap HE2.out.1 2
    have c3 : w2.cell? ⟨qb, 3, none⟩ = some (.slice a9 n9 c9) := by rw [Lib.cell_of_heap HE2.out.1]; rfl
    have f3 : w2.frozen? ⟨qb, 3, none⟩ = false := Lib.frozen_of_heap HE2.out.1 3
    have c4 : w2.cell? ⟨qb, 4, none⟩ = some (.int .i64 n2) := by rw [Lib.cell_of_heap HE2.out.1]; rfl
    have f4 : w2.frozen? ⟨qb, 4, none⟩ = false := Lib.frozen_of_heap HE2.out.1 4
    have d0 : w2.cell? ⟨eb, 0, none⟩ = some (.int .i64 e0) := by rw [Lib.cell_of_heap HE2.out.2.1]; rfl
    have d1 : w2.cell? ⟨pb, 0, none⟩ = some (.int .i64 p0) := by rw [Lib.cell_of_heap HE2.out.2.2.1]; rfl
    have fe : w2.frozen? ⟨eb, 0, none⟩ = false := Lib.frozen_of_heap HE2.out.2.1 0
    have fp : w2.frozen? ⟨pb, 0, none⟩ = false := Lib.frozen_of_heap HE2.out.2.2.1 0
    go_wp2_with fail
    refine wpAny_take (i := 3) (v := .tuple #[.agg #[.string ⟨#[]⟩, .int .i64 0, .int .i64 0, .slice none 0 0, .int .i64 0], .int .i64 k, .int .i64 p]) rfl (by kernel_rfl) (by kernel_rfl) (by kernel_rfl) (fun _ _ _ h => h) (Or.inl ⟨by rfl, by intro w; go_simp⟩) ?_
    refine wpAny_take (i := 4) (v := .agg #[.string ⟨#[]⟩, .int .i64 0, .int .i64 0, .slice none 0 0, .int .i64 0]) rfl (by kernel_rfl) (by kernel_rfl) (by kernel_rfl) (fun _ _ _ h => h) (Or.inl ⟨by rfl, by intro w; go_simp⟩) ?_
    refine wpAny_take (i := 5) (v := .int .i64 k) rfl (by kernel_rfl) (by kernel_rfl) (by kernel_rfl) (fun _ _ _ h => h) (Or.inl ⟨by rfl, by intro w; go_simp⟩) ?_
    refine wpAny_take (i := 6) (v := .int .i64 p) rfl (by kernel_rfl) (by kernel_rfl) (by kernel_rfl) (fun _ _ _ h => h) (Or.inl ⟨by rfl, by intro w; go_simp⟩) ?_
    refine wpAny_ready (rs := [7]) (by kernel_rfl) (by simp) ?_
    refine AllReady.cons rfl (fun K hK => ?_) AllReady.nil
    go_simp
    refine hK _ _ ?_
    clear hK K
    refine wpAny_ready (rs := [8]) (by kernel_rfl) (by simp) ?_
    refine AllReady.cons rfl (fun K hK => ?_) AllReady.nil
    go_simp
    refine hK _ _ ?_
    clear hK K
    refine wpAny_ready (rs := [9]) (by kernel_rfl) (by simp) ?_
    refine AllReady.cons rfl (fun K hK => ?_) AllReady.nil
    go_simp
    refine hK _ _ ?_
    clear hK K
    refine wpAny_done (by kernel_rfl) ?_ _
    exact ⟨rfl, _, rfl, _, results_none rfl _ _ _, rfl, rfl, HE2.out.put _ _ _ _ _ _ _, RY.o3 HB2.out _ _ _ _ _ _ _⟩
end Go.Proofs.Ytfhicemfhkhjaab

namespace Go.Proofs.Ytfhicemfhkhjaab
open Go.RowKit
set_option maxRecDepth 100000

/-- what the bytes l are read as: the error, its place, the reply -/
def rps (l : List UInt8) : Nat × Nat × Ry :=
  if 4096 < l.length then (1, 0, rp0)
  else if (fKp l 4096).1 ≠ 0 then ((fKp l 4096).1, (fKp l 4096).2.1, rp0)
  else if (fKp l 4096).2.1 < l.length then (4, (fKp l 4096).2.1, rp0)
  else (0, 0, (fKp l 4096).2.2)
/-- what Reply answers -/
def Rdp (l : List UInt8) (w : World) (e : Ending) (w' : World) : Prop :=
  ∃ v', e = .returned (.tuple #[.agg (rpC (rps l).2.2 v'), .int .i64 ((rps l).1 : Int), .int .i64 ((rps l).2.1 : Int)]) ∧ OLv w' w.heap.size v' (rps l).2.2.levels ∧ Below w.heap.size w w'
theorem Rdp.no {l : List UInt8} {k p : Nat} {w w' : World} (h : rps l = (k, p, rp0)) (hb : Below w.heap.size w w') : Rdp l w (.returned (.tuple #[.agg #[.string ⟨#[]⟩, .int .i64 0, .int .i64 0, .slice none 0 0, .int .i64 0], .int .i64 (k : Int), .int .i64 (p : Int)])) w' :=
  ⟨.slice none 0 0, by rw [h]; rfl, by rw [h]; exact World.ownsRow_nil _ _ _ _, hb⟩
theorem Rdp.yes {l : List UInt8} {r : Ry} {v : Value} {w w' : World} (h : rps l = (0, 0, r)) (ho : OLv w' w.heap.size v r.levels) (hb : Below w.heap.size w w') : Rdp l w (.returned (.tuple #[.agg #[.string r.id, .int .i64 r.err, .int .i64 r.line, v, .int .i64 r.now], .int .i64 0, .int .i64 0])) w' :=
  ⟨v, by rw [h]; rfl, by rw [h]; exact ho, hb⟩
theorem O3.ownV {a b c base : Nat} {w w' : World} {v : Value} {L : List Lv} (h : O3 a b c w w') (ho : OLv w base v L) (ha : a < base) (hb : b < base) (hc : c < base) : OLv w' base v L := by
  refine ⟨ho.1, ?_⟩
  rcases ho.2 with g | ⟨x, y, z, g1, g2, g3, g4⟩
  · exact .inl g
  · exact .inr ⟨x, y, z, g1, g2, (h.2.2.2.2 x (Array.getElem?_eq_some_iff.1 g3).1 (by omega) (by omega) (by omega)).trans g3, g4⟩
theorem OLv.lower {w : World} {B B' : Nat} {v : Value} {L : List Lv} (h : OLv w B v L) (hb : B' ≤ B) : OLv w B' v L := by
  refine ⟨h.1, ?_⟩
  rcases h.2 with g | ⟨x, y, z, g1, g2, g3⟩
  · exact .inl g
  · exact .inr ⟨x, y, z, g1, by omega, g3⟩
set_option maxHeartbeats 4000000 in
theorem reply_any (l : List UInt8) (v : Value) (w : World) (hr : Reads w v l) :
    Calls Try.prog 14 #[v] w fun e w' => Rdp l w e w' := by
  have hmf : ∀ (fn : Fn) (first cap : Array Value) (w : World), (Instr.makeFunc fn first cap).run Try.prog w = .ok (.func fn first cap) w := fun _ _ _ _ => rfl
  obtain ⟨W1, hW1⟩ : ∃ W1, w.alloc (.cells #[.string ⟨#[]⟩, .int .i64 0, .int .i64 0, .slice none 0 0, .int .i64 0] 28) = W1 := ⟨_, rfl⟩
  obtain ⟨W2, hW2⟩ : ∃ W2, W1.alloc (.cells #[.int .i64 0] 25) = W2 := ⟨_, rfl⟩
  obtain ⟨W3, hW3⟩ : ∃ W3, W2.alloc (.cells #[.int .i64 0] 3) = W3 := ⟨_, rfl⟩
  have z1 : W1.heap.size = w.heap.size + 1 := by rw [← hW1, World.size_alloc]
  have z2 : W2.heap.size = w.heap.size + 2 := by rw [← hW2, World.size_alloc, z1]
  have z3 : W3.heap.size = w.heap.size + 3 := by rw [← hW3, World.size_alloc, z2]
  have hb1 : Below w.heap.size w W1 := by rw [← hW1]; exact (Below.refl _ _).alloc (Nat.le_refl _) _
  have hb2 : Below W1.heap.size W1 W2 := by rw [← hW2]; exact (Below.refl _ _).alloc (Nat.le_refl _) _
  have hb3 : Below W2.heap.size W2 W3 := by rw [← hW3]; exact (Below.refl _ _).alloc (Nat.le_refl _) _
  have b13 : Below W1.heap.size W1 W3 := hb2.trans (hb3.mono (by omega))
  have b03 : Below w.heap.size w W3 := hb1.trans (b13.mono (by omega))
  have HE := hid (show RY W3 w.heap.size (w.heap.size + 1) (w.heap.size + 2) #[.string ⟨#[]⟩, .int .i64 0, .int .i64 0, .slice none 0 0, .int .i64 0] 0 0 from ⟨(b13.block _ (by omega)).trans (by rw [← hW1]; exact heap_alloc_new w _), (hb3.block _ (by omega)).trans (by rw [← hW2, ← z1]; exact heap_alloc_new W1 _), by rw [← hW3, ← z2]; exact heap_alloc_new W2 _, by omega, by omega⟩)
  have HB := hid b03
  have HR := hid (hr.below b03)
  have HN := hid (dnew_any v l 4096 W3 HR.out)
  have hwb : ∀ b off c, v = .slice (some ⟨b, off, none⟩) l.length c → 0 < l.length → b < w.heap.size := fun b off c hv h0 => by
    rcases hr with ⟨h1, _⟩ | ⟨b', off', c', h1, h2, h3⟩
    · rw [h1] at h0; exact absurd h0 (by simp)
    · rw [h1] at hv; injection hv with hv; injection hv with hv; injection hv with hv; subst hv; exact World.block_lt_of_cell? _ _ (h3 0 h0)
  have HHR := hid hr
  clear hb1 hb2 hb3 b13 b03 hr
  obtain ⟨aov, capv, rfl⟩ := HHR.out.form
  go_enter_defers Try.func14, Try.ntmps14
  go_wp2_with fail
  refine Calls.mono HN.out ?_
  rintro e w4 (⟨hle, rfl, hw4⟩ | ⟨hle, rfl, rfl⟩)
  rotate_left
  · clear HN
    go_wp2_with fail
    refine leaves_cons (f := 43) (args := #[.pointer (some ⟨w.heap.size, 0, none⟩), .pointer (some ⟨w.heap.size + 1, 0, none⟩), .pointer (some ⟨w.heap.size + 2, 0, none⟩)]) (by simp) (by simp [go_sem]) ?_
    refine (dY_flt w.heap.size (w.heap.size + 1) (w.heap.size + 2) _ _ _ _ _ _ _ 0 0 (1 : Nat) (0 : Nat) [] _ HE.out).mono ?_
    rintro e u' w9 ⟨rfl, rfl, hqe, ho3⟩
    have q0 : w9.cell? ⟨w.heap.size, 0, none⟩ = some (.string ⟨#[]⟩) := by rw [Lib.cell_of_heap hqe.1]; rfl
    have q1 : w9.cell? ⟨w.heap.size, 1, none⟩ = some (.int .i64 0) := by rw [Lib.cell_of_heap hqe.1]; rfl
    have q2 : w9.cell? ⟨w.heap.size, 2, none⟩ = some (.int .i64 0) := by rw [Lib.cell_of_heap hqe.1]; rfl
    have q3 : w9.cell? ⟨w.heap.size, 3, none⟩ = some (.slice none 0 0) := by rw [Lib.cell_of_heap hqe.1]; rfl
    have q4 : w9.cell? ⟨w.heap.size, 4, none⟩ = some (.int .i64 0) := by rw [Lib.cell_of_heap hqe.1]; rfl
    have q5 : w9.cell? ⟨w.heap.size + 1, 0, none⟩ = some (.int .i64 ((1 : Nat))) := by rw [Lib.cell_of_heap hqe.2.1]; rfl
    have q6 : w9.cell? ⟨w.heap.size + 2, 0, none⟩ = some (.int .i64 ((0 : Nat))) := by rw [Lib.cell_of_heap hqe.2.2.1]; rfl
    have HW := hid (Rdp.no (l := l) (k := (1 : Nat)) (p := (0 : Nat)) (if_pos hle) (HB.out.trans (ho3.below (Nat.le_refl _) (by omega) (by omega) HB.out.size)))
    clear hqe ho3
    simp [Leaves, settle, results, Try.results14, go_sem, q0, q1, q2, q3, q4, q5, q6]
    exact HW.out

  have z4 : w4.heap.size = w.heap.size + 4 := by rw [hw4, World.size_alloc, z3]
  have hb4 : Below W3.heap.size W3 w4 := by rw [hw4]; exact (Below.refl _ _).alloc (Nat.le_refl _) _
  have HE4 := hid (HE.out.later hb4)
  have HB4 := hid (HB.out.trans (hb4.mono (by omega)))
  have hRN : RN w4 (w.heap.size + 3) (.slice aov l.length capv) 4096 := by unfold RN; rw [hw4, ← z3]; exact heap_alloc_new W3 _
  obtain ⟨bb, off, cap, HQ⟩ : ∃ bb off cap, Hid (Calls Try.prog 34 #[ir (w.heap.size + 3), .pointer (some ⟨w.heap.size, 0, none⟩)] w4 fun e w' => Dp (w.heap.size + 3) bb off cap l 4096 w.heap.size w4 e w') := by
    by_cases h0 : 0 < l.length
    · obtain ⟨b, off, cap, hv, hc, hbs⟩ := (HR.out.below hb4).resolve_left (fun e => by rw [e.1] at h0; exact absurd h0 (by simp))
      have hbw := hwb b off cap hv h0
      injection hv with hv1 hv2 hv3
      subst hv1; subst hv3
      exact ⟨b, off, capv, hid (dreply_any w.heap.size (w.heap.size + 3) b off capv 4096 l w4 hRN hc h0 (by omega) hbs (by omega) (by omega) HE4.out.1 ⟨by omega, by omega⟩)⟩
    · obtain rfl : l = [] := List.eq_nil_of_length_eq_zero (by omega)
      exact ⟨0, 0, capv, hid (dreply_nil aov capv (w.heap.size + 3) 4096 w.heap.size 0 0 w4 hRN HE4.out.1)⟩
  have HZ := hid z4
  clear hRN hw4 hb4 HE HB HN HR HHR
  rw [z3]
  go_wp2_with fail
  refine Calls.mono HQ.out ?_
  rintro e w5 ⟨ht, ⟨he, rfl, hr5, v5, hq5, ho5⟩ | ⟨he, rfl, s0, n0, n1, a9, n9, c9, n2, hq5⟩⟩
  rotate_left
  · have HE := hid (show RY w5 w.heap.size (w.heap.size + 1) (w.heap.size + 2) #[.string s0, .int .i64 n0, .int .i64 n1, .slice a9 n9 c9, .int .i64 n2] 0 0 from ⟨hq5, (ht.block _ (by omega) (by omega) (by omega)).trans HE4.out.2.1, (ht.block _ (by omega) (by omega) (by omega)).trans HE4.out.2.2.1, by omega, by omega⟩)
    have HB := hid (HB4.out.trans (ht.lower (show w.heap.size ≤ _ by omega) (Nat.le_refl _) (by omega)))
    clear ht hq5
    go_wp2_with fail
    refine leaves_cons (f := 43) (args := #[.pointer (some ⟨w.heap.size, 0, none⟩), .pointer (some ⟨w.heap.size + 1, 0, none⟩), .pointer (some ⟨w.heap.size + 2, 0, none⟩)]) (by simp) (by simp [go_sem]) ?_
    refine (dY_flt w.heap.size (w.heap.size + 1) (w.heap.size + 2) _ _ _ _ _ _ _ 0 0 ((fKp l 4096).1 : Nat) ((fKp l 4096).2.1 : Nat) [] _ HE.out).mono ?_
    rintro e u' w9 ⟨rfl, rfl, hqe, ho3⟩
    have q0 : w9.cell? ⟨w.heap.size, 0, none⟩ = some (.string ⟨#[]⟩) := by rw [Lib.cell_of_heap hqe.1]; rfl
    have q1 : w9.cell? ⟨w.heap.size, 1, none⟩ = some (.int .i64 0) := by rw [Lib.cell_of_heap hqe.1]; rfl
    have q2 : w9.cell? ⟨w.heap.size, 2, none⟩ = some (.int .i64 0) := by rw [Lib.cell_of_heap hqe.1]; rfl
    have q3 : w9.cell? ⟨w.heap.size, 3, none⟩ = some (.slice none 0 0) := by rw [Lib.cell_of_heap hqe.1]; rfl
    have q4 : w9.cell? ⟨w.heap.size, 4, none⟩ = some (.int .i64 0) := by rw [Lib.cell_of_heap hqe.1]; rfl
    have q5 : w9.cell? ⟨w.heap.size + 1, 0, none⟩ = some (.int .i64 (((fKp l 4096).1 : Nat))) := by rw [Lib.cell_of_heap hqe.2.1]; rfl
    have q6 : w9.cell? ⟨w.heap.size + 2, 0, none⟩ = some (.int .i64 (((fKp l 4096).2.1 : Nat))) := by rw [Lib.cell_of_heap hqe.2.2.1]; rfl
    have HW := hid (Rdp.no (l := l) (k := ((fKp l 4096).1 : Nat)) (p := ((fKp l 4096).2.1 : Nat)) ((if_neg (by omega)).trans (if_pos he)) (HB.out.trans (ho3.below (Nat.le_refl _) (by omega) (by omega) HB.out.size)))
    clear hqe ho3
    simp [Leaves, settle, results, Try.results14, go_sem, q0, q1, q2, q3, q4, q5, q6]
    exact HW.out

  obtain ⟨a9, n9, c9, rfl⟩ := ho5.form
  obtain ⟨r9, h9⟩ : ∃ r, (fKp l 4096).2.2 = r := ⟨_, rfl⟩
  rw [h9] at hq5 ho5
  have HE := hid (show RY w5 w.heap.size (w.heap.size + 1) (w.heap.size + 2) #[.string r9.id, .int .i64 r9.err, .int .i64 r9.line, .slice a9 n9 c9, .int .i64 r9.now] 0 0 from ⟨hq5, (ht.block _ (by omega) (by omega) (by omega)).trans HE4.out.2.1, (ht.block _ (by omega) (by omega) (by omega)).trans HE4.out.2.2.1, by omega, by omega⟩)
  have HB := hid (HB4.out.trans (ht.lower (show w.heap.size ≤ _ by omega) (Nat.le_refl _) (by omega)))
  have HO := hid (show OLv w5 (w.heap.size + 4) (.slice a9 n9 c9) r9.levels by rw [← z4]; exact ho5)
  have HD := hid (dend_any w5 hr5)
  clear ht hr5 hq5 ho5 HQ HE4 HB4
  go_wp2_with fail
  refine Calls.mono HD.out ?_
  rintro e w6 ⟨q6, ⟨hi, rfl⟩ | ⟨hi, rfl⟩, hw6⟩
  rotate_left
  · replace HE := hid (show RY w6 w.heap.size (w.heap.size + 1) (w.heap.size + 2) #[.string r9.id, .int .i64 r9.err, .int .i64 r9.line, .slice a9 n9 c9, .int .i64 r9.now] 0 0 by rw [hw6]; exact HE.out)
    replace HB := hid (show Below w.heap.size w w6 by rw [hw6]; exact ⟨HB.out.os, HB.out.tape, HB.out.output, HB.out.size, HB.out.block⟩)
    clear hw6 HO HD
    go_wp2_with fail
    refine leaves_cons (f := 43) (args := #[.pointer (some ⟨w.heap.size, 0, none⟩), .pointer (some ⟨w.heap.size + 1, 0, none⟩), .pointer (some ⟨w.heap.size + 2, 0, none⟩)]) (by simp) (by simp [go_sem]) ?_
    refine (dY_flt w.heap.size (w.heap.size + 1) (w.heap.size + 2) _ _ _ _ _ _ _ 0 0 (4 : Nat) ((fKp l 4096).2.1 : Nat) [] _ HE.out).mono ?_
    rintro e u' w9 ⟨rfl, rfl, hqe, ho3⟩
    have q0 : w9.cell? ⟨w.heap.size, 0, none⟩ = some (.string ⟨#[]⟩) := by rw [Lib.cell_of_heap hqe.1]; rfl
    have q1 : w9.cell? ⟨w.heap.size, 1, none⟩ = some (.int .i64 0) := by rw [Lib.cell_of_heap hqe.1]; rfl
    have q2 : w9.cell? ⟨w.heap.size, 2, none⟩ = some (.int .i64 0) := by rw [Lib.cell_of_heap hqe.1]; rfl
    have q3 : w9.cell? ⟨w.heap.size, 3, none⟩ = some (.slice none 0 0) := by rw [Lib.cell_of_heap hqe.1]; rfl
    have q4 : w9.cell? ⟨w.heap.size, 4, none⟩ = some (.int .i64 0) := by rw [Lib.cell_of_heap hqe.1]; rfl
    have q5 : w9.cell? ⟨w.heap.size + 1, 0, none⟩ = some (.int .i64 ((4 : Nat))) := by rw [Lib.cell_of_heap hqe.2.1]; rfl
    have q6 : w9.cell? ⟨w.heap.size + 2, 0, none⟩ = some (.int .i64 (((fKp l 4096).2.1 : Nat))) := by rw [Lib.cell_of_heap hqe.2.2.1]; rfl
    have HW := hid (Rdp.no (l := l) (k := (4 : Nat)) (p := ((fKp l 4096).2.1 : Nat)) ((if_neg (by omega)).trans ((if_neg (fun e => e he)).trans (if_pos hi))) (HB.out.trans (ho3.below (Nat.le_refl _) (by omega) (by omega) HB.out.size)))
    clear hqe ho3
    simp [Leaves, settle, results, Try.results14, go_sem, q0, q1, q2, q3, q4, q5, q6]
    exact HW.out

  replace HE := hid (show RY w6 w.heap.size (w.heap.size + 1) (w.heap.size + 2) #[.string r9.id, .int .i64 r9.err, .int .i64 r9.line, .slice a9 n9 c9, .int .i64 r9.now] 0 0 by rw [hw6]; exact HE.out)
  replace HB := hid (show Below w.heap.size w w6 by rw [hw6]; exact ⟨HB.out.os, HB.out.tape, HB.out.output, HB.out.size, HB.out.block⟩)
  replace HO := hid (show OLv w6 (w.heap.size + 4) (.slice a9 n9 c9) r9.levels by rw [hw6]; exact HO.out)
  clear hw6 HD
  have c0 : w6.cell? ⟨w.heap.size, 0, none⟩ = some (.string r9.id) := by rw [Lib.cell_of_heap HE.out.1]; rfl
  have f0 : w6.frozen? ⟨w.heap.size, 0, none⟩ = false := Lib.frozen_of_heap HE.out.1 0
  have c1 : w6.cell? ⟨w.heap.size, 1, none⟩ = some (.int .i64 r9.err) := by rw [Lib.cell_of_heap HE.out.1]; rfl
  have f1 : w6.frozen? ⟨w.heap.size, 1, none⟩ = false := Lib.frozen_of_heap HE.out.1 1
  have c2 : w6.cell? ⟨w.heap.size, 2, none⟩ = some (.int .i64 r9.line) := by rw [Lib.cell_of_heap HE.out.1]; rfl
  have f2 : w6.frozen? ⟨w.heap.size, 2, none⟩ = false := Lib.frozen_of_heap HE.out.1 2
  have c3 : w6.cell? ⟨w.heap.size, 3, none⟩ = some (.slice a9 n9 c9) := by rw [Lib.cell_of_heap HE.out.1]; rfl
  have f3 : w6.frozen? ⟨w.heap.size, 3, none⟩ = false := Lib.frozen_of_heap HE.out.1 3
  have c4 : w6.cell? ⟨w.heap.size, 4, none⟩ = some (.int .i64 r9.now) := by rw [Lib.cell_of_heap HE.out.1]; rfl
  have f4 : w6.frozen? ⟨w.heap.size, 4, none⟩ = false := Lib.frozen_of_heap HE.out.1 4
  have c5 : w6.cell? ⟨w.heap.size + 1, 0, none⟩ = some (.int .i64 (0)) := by rw [Lib.cell_of_heap HE.out.2.1]; rfl
  have c6 : w6.cell? ⟨w.heap.size + 2, 0, none⟩ = some (.int .i64 (0)) := by rw [Lib.cell_of_heap HE.out.2.2.1]; rfl
  have f5 : w6.frozen? ⟨w.heap.size + 1, 0, none⟩ = false := Lib.frozen_of_heap HE.out.2.1 0
  have f6 : w6.frozen? ⟨w.heap.size + 2, 0, none⟩ = false := Lib.frozen_of_heap HE.out.2.2.1 0

  go_wp2_with fail
  refine leaves_cons (f := 43) (args := #[.pointer (some ⟨w.heap.size, 0, none⟩), .pointer (some ⟨w.heap.size + 1, 0, none⟩), .pointer (some ⟨w.heap.size + 2, 0, none⟩)]) (by simp) (by simp [go_sem]) ?_
  refine (dY_nil w.heap.size (w.heap.size + 1) (w.heap.size + 2) _ _ _ _ _ _ _ 0 0 _ (HE.out.put _ _ _ _ _ 0 0)).mono ?_
  rintro e u' w9 ⟨rfl, rfl, hqe, ho3⟩
  have q0 : w9.cell? ⟨w.heap.size, 0, none⟩ = some (.string r9.id) := by rw [Lib.cell_of_heap hqe.1]; rfl
  have q1 : w9.cell? ⟨w.heap.size, 1, none⟩ = some (.int .i64 r9.err) := by rw [Lib.cell_of_heap hqe.1]; rfl
  have q2 : w9.cell? ⟨w.heap.size, 2, none⟩ = some (.int .i64 r9.line) := by rw [Lib.cell_of_heap hqe.1]; rfl
  have q3 : w9.cell? ⟨w.heap.size, 3, none⟩ = some (.slice a9 n9 c9) := by rw [Lib.cell_of_heap hqe.1]; rfl
  have q4 : w9.cell? ⟨w.heap.size, 4, none⟩ = some (.int .i64 r9.now) := by rw [Lib.cell_of_heap hqe.1]; rfl
  have q5 : w9.cell? ⟨w.heap.size + 1, 0, none⟩ = some (.int .i64 (0)) := by rw [Lib.cell_of_heap hqe.2.1]; rfl
  have q6 : w9.cell? ⟨w.heap.size + 2, 0, none⟩ = some (.int .i64 (0)) := by rw [Lib.cell_of_heap hqe.2.2.1]; rfl

  have B6 := RY.o3 (qb := w.heap.size) (eb := w.heap.size + 1) (pb := w.heap.size + 2) (Below.refl w6.heap.size w6) (.string r9.id) (.int .i64 r9.err) (.int .i64 r9.line) (.slice a9 n9 c9) (.int .i64 r9.now) 0 0
  have hO9 := ho3.ownV (B6.ownV HO.out (by omega) (by omega) (by omega)) (by omega) (by omega) (by omega)
  have B7 := B6.below (B := w.heap.size) (Nat.le_refl _) (by omega) (by omega) HB.out.size
  have B9 := (HB.out.trans B7).trans (ho3.below (B := w.heap.size) (Nat.le_refl _) (by omega) (by omega) (HB.out.trans B7).size)
  have HW := hid (Rdp.yes (l := l) (r := r9) ((if_neg (by omega)).trans ((if_neg (fun e => e he)).trans ((if_neg (by omega)).trans (by rw [h9])))) (hO9.lower (show w.heap.size ≤ w.heap.size + 4 by omega)) B9)
  clear hO9 B6 B7 B9 hqe ho3
  simp [Leaves, settle, results, Try.results14, go_sem, q0, q1, q2, q3, q4, q5, q6]
  exact HW.out
end Go.Proofs.Ytfhicemfhkhjaab
