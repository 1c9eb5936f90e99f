/-
  codec: a request with a writer; what a fault is told as.
-/
import Derived.Test.YtfhicemfhkhjaabCw3
import Derived.Test.YtfhicemfhkhjaabRcv
namespace Go.Proofs.Ytfhicemfhkhjaab
open Go.RowKit
set_option maxRecDepth 100000

set_option maxHeartbeats 1000000 in
theorem wrequest_any (rb : Nat) (r : Rq) (w : World) {wb most : Nat} {v : Value} {l : List UInt8} (h : WR w wb v l most) (hm : most ≤ 1000000000) (m : RqM w wb rb 0 r) :
    Calls Try.prog 32 #[iw wb, .pointer (some ⟨rb, 0, none⟩)] w fun e w' => Wp wb v l most (81 :: rqB r) (.returned (.tuple #[])) w e w' := by
  have hme := me_key
  have HK := hid (show Calls Try.prog 111 #[.pointer (some ⟨wb, 0, none⟩), .int .u8 81] w fun e w' => Wp wb v l most [81] (.returned (.tuple #[])) w e w' from wkey_any 81 w h hm)
  have H := hid h
  have HM := hid m
  clear h m
  go_enter Try.func32, Try.ntmps32
  go_wp2_with fail
  refine Calls.mono HK.out ?_
  rintro e w1 ⟨v1, hs, ⟨hf1, rfl, hr⟩ | ⟨hf, rfl⟩⟩
  · have HS := hid hs
    have HF := hid (wfields_any rb 0 r w1 hr hm (HM.out.old hs H.out))
    clear hs hr HK
    go_wp2_with fail
    refine Calls.mono HF.out ?_
    rintro e w2 ⟨v2, hs2, ⟨hf2, rfl, hr2⟩ | ⟨hf2, rfl⟩⟩
    · go_wp2_with fail
      go_end0
      refine ⟨v2, HS.out.trans hs2, .inl ⟨?_, rfl, ?_⟩⟩
      · simp only [List.length_append, List.length_cons, List.length_nil] at *; omega
      · rw [List.append_assoc] at hr2; exact hr2
    · go_wp2_with fail
      refine ⟨rfl, v2, HS.out.trans hs2, .inr ⟨?_, rfl⟩⟩
      simp only [List.length_append, List.length_cons, List.length_nil] at *; omega
  · go_wp2_with fail
    refine ⟨rfl, v1, hs, .inr ⟨?_, rfl⟩⟩
    simp only [List.length_cons, List.length_nil] at *; omega
theorem fault_is (v : Value) (w : World) : (Instr.typeAssert (.iface 127 v) 20 127 false).run Try.prog w = .ok v w := by kernel_rfl
set_option maxHeartbeats 400000 in
theorem toldB_nil (v : Value) (w : World) : Calls Try.prog 31 #[v, .nilIface] w fun e w' => e = .returned (.tuple #[v, .int .i64 0, .int .i64 0]) ∧ w' = w := by
  go_enter Try.func31, Try.ntmps31
  go_wp2
  go_ret3
  exact ⟨rfl, rfl⟩
set_option maxHeartbeats 400000 in
theorem toldB_flt (v : Value) (k p : Int) (w : World) : Calls Try.prog 31 #[v, .iface 127 (.agg #[.int .i64 k, .int .i64 p])] w fun e w' => e = .returned (.tuple #[.slice none 0 0, .int .i64 k, .int .i64 p]) ∧ Below w.heap.size w w' := by
  have hta := fault_is (.agg #[.int .i64 k, .int .i64 p])
  have c0 : ∀ n, ((w.alloc (.cells #[.int .i64 k, .int .i64 p] 127)).drewN n).cell? ⟨w.heap.size, 0, none⟩ = some (.int .i64 k) := fun n => by simp
  go_enter Try.func31, Try.ntmps31
  go_wp2
  go_quiet (fail)
  go_wp2
  go_ret3
  exact ⟨rfl, below_drewN ((Below.refl _ _).alloc (Nat.le_refl _) _) nq⟩
/-- the two results of a call that writes: in blocks bb and eb -/
def BE (w : World) (bb eb : Nat) (v : Value) (e : Int) : Prop := w.heap[bb]? = some (.cells #[v] 47 (0, 0)) ∧ w.heap[eb]? = some (.cells #[.int .i64 e] 25 (0, 0)) ∧ bb < eb
theorem BE.put {w : World} {bb eb : Nat} {v : Value} {e : Int} (h : BE w bb eb v e) (v' : Value) (e' : Int) : BE ((w.setCell ⟨bb, 0, none⟩ v').setCell ⟨eb, 0, none⟩ (.int .i64 e')) bb eb v' e' := by
  have h1 := heap_setCell_same w bb 0 _ _ v' h.1
  have h2 := (heap_setCell_other w ⟨bb, 0, none⟩ eb v' (by show eb ≠ bb; have := h.2.2; omega)).trans h.2.1
  exact ⟨(heap_setCell_other _ ⟨eb, 0, none⟩ bb _ (by show bb ≠ eb; have := h.2.2; omega)).trans h1, heap_setCell_same _ eb 0 _ _ _ h2, h.2.2⟩
theorem BE.later {w w' : World} {bb eb : Nat} {v : Value} {e : Int} (h : BE w bb eb v e) (k : Below w.heap.size w w') : BE w' bb eb v e :=
  ⟨(k.block bb (Array.getElem?_eq_some_iff.1 h.1).1).trans h.1, (k.block eb (Array.getElem?_eq_some_iff.1 h.2.1).1).trans h.2.1, h.2.2⟩
/-- nothing but the blocks a and b has turned -/
def O2 (a b : Nat) (w w' : World) : Prop := w'.os = w.os ∧ w'.tape = w.tape ∧ w'.output = w.output ∧ w.heap.size ≤ w'.heap.size ∧ ∀ k, k < w.heap.size → k ≠ a → k ≠ b → w'.heap[k]? = w.heap[k]?
theorem O2.sets {a b : Nat} {w w2 : World} (h : Below w.heap.size w w2) (x y : Value) : O2 a b w ((w2.setCell ⟨a, 0, none⟩ x).setCell ⟨b, 0, none⟩ y) :=
  ⟨h.os, h.tape, h.output, Nat.le_trans h.size (by simp), fun k hk h1 h2 => (heap_setCell_other _ ⟨b, 0, none⟩ k y h2).trans ((heap_setCell_other _ ⟨a, 0, none⟩ k x h1).trans (h.block k hk))⟩
set_option maxHeartbeats 2000000 in
theorem dReq_nil (bb eb : Nat) (v : Value) (e0 : Int) (w : World) (h : BE w bb eb v e0) (hv : ∃ ao n c, v = .slice ao n c) :
    CallsD Try.prog 30 #[.pointer (some ⟨bb, 0, none⟩), .pointer (some ⟨eb, 0, none⟩)] .returning w fun e u' w' => e = .returned (.tuple #[]) ∧ u' = .returning ∧ BE w' bb eb v 0 ∧ O2 bb eb w w' := by
  obtain ⟨ao, n, c, rfl⟩ := hv
  refine callsD_of_wpS Try.func30 rfl fun c₀ cs hu => ?_
  have c0 : w.cell? ⟨bb, 0, none⟩ = some (.slice ao n c) := by rw [Lib.cell_of_heap h.1]; rfl
  have f0 : w.frozen? ⟨bb, 0, none⟩ = false := Lib.frozen_of_heap h.1 0
  have f1 : w.frozen? ⟨eb, 0, none⟩ = false := Lib.frozen_of_heap h.2.1 0
  have d1 : w.cell? ⟨eb, 0, none⟩ = some (.int .i64 e0) := by rw [Lib.cell_of_heap h.2.1]; rfl
  have HT := hid (fun w => toldB_nil (.slice ao n c) w)
  have HE := hid h
  have hne : bb ≠ eb := by have := h.2.2; omega
  have hne' : ¬ eb = bb := fun e => hne e.symm
  clear h
  refine wpS_region_any (by kernel_rfl) ?_
  refine wpAnyS_all (rs := [0, 1]) (by kernel_rfl) (by simp) ?_
  intro i hi
  simp only [List.mem_cons, List.not_mem_nil, or_false] at hi
  rcases hi with rfl | rfl
  · simp [wpOpS, go_sem, Try.ntmps30, c0]
    refine wpAnyS_all (rs := [1]) (by kernel_rfl) (by simp) ?_
    intro i hi
    simp only [List.mem_cons, List.not_mem_nil, or_false] at hi
    subst hi
    simp [wpOpS, go_sem, recoverD, hu]
    refine wpAny_toS (by rintro ⟨_, _, u', he, _⟩; cases he) _ _ _ _ ?_
    refine wpAny_ready (rs := [2]) (by kernel_rfl) (by simp) ?_
    refine AllReady.cons rfl (fun K hK => ?_) AllReady.nil
    go_simp
    go_wp2_with fail
    refine (HT.out _).mono ?_
    rintro e w2 ⟨rfl, rfl⟩
    go_wp2_with fail
    refine wpAny_take (i := 3) (v := .tuple #[.slice ao n c, .int .i64 0, .int .i64 0]) rfl (by kernel_rfl) (by kernel_rfl) (by kernel_rfl) (fun _ _ _ h => h) (Or.inl ⟨by rfl, by intro w; go_simp⟩) ?_
    refine wpAny_take (i := 4) (v := .slice ao n c) rfl (by kernel_rfl) (by kernel_rfl) (by kernel_rfl) (fun _ _ _ h => h) (Or.inl ⟨by rfl, by intro w; go_simp⟩) ?_
    refine wpAny_take (i := 5) (v := .int .i64 0) rfl (by kernel_rfl) (by kernel_rfl) (by kernel_rfl) (fun _ _ _ h => h) (Or.inl ⟨by rfl, by intro w; go_simp⟩) ?_
    refine wpAny_take (i := 6) (v := .int .i64 0) rfl (by kernel_rfl) (by kernel_rfl) (by kernel_rfl) (fun _ _ _ h => h) (Or.inl ⟨by rfl, by intro w; go_simp⟩) ?_
    refine wpAny_ready (rs := [7]) (by kernel_rfl) (by simp) ?_
    refine AllReady.cons rfl (fun K hK => ?_) AllReady.nil
    go_simp
    refine hK _ _ ?_
    clear hK K
    refine wpAny_ready (rs := [8]) (by kernel_rfl) (by simp) ?_
    refine AllReady.cons rfl (fun K hK => ?_) AllReady.nil
    go_simp
    refine hK _ _ ?_
    clear hK K
    refine wpAny_done (by kernel_rfl) ?_ _
    exact ⟨rfl, .returning, by rw [← hu], _, results_none rfl _ _ _, rfl, rfl, BE.put (w := w.drew) HE.out _ _, O2.sets (Below.refl _ w).drew _ _⟩
  · simp [wpOpS, go_sem, recoverD, hu, Try.ntmps30]
    refine wpAnyS_all (rs := [0]) (by kernel_rfl) (by simp) ?_
    intro i hi
    simp only [List.mem_cons, List.not_mem_nil, or_false] at hi
    subst hi
    simp [wpOpS, go_sem, c0]
    refine wpAny_toS (by rintro ⟨_, _, u', he, _⟩; cases he) _ _ _ _ ?_
    refine wpAny_ready (rs := [2]) (by kernel_rfl) (by simp) ?_
    refine AllReady.cons rfl (fun K hK => ?_) AllReady.nil
    go_simp
    go_wp2_with fail
    refine (HT.out _).mono ?_
    rintro e w2 ⟨rfl, rfl⟩
    go_wp2_with fail
    refine wpAny_take (i := 3) (v := .tuple #[.slice ao n c, .int .i64 0, .int .i64 0]) rfl (by kernel_rfl) (by kernel_rfl) (by kernel_rfl) (fun _ _ _ h => h) (Or.inl ⟨by rfl, by intro w; go_simp⟩) ?_
    refine wpAny_take (i := 4) (v := .slice ao n c) rfl (by kernel_rfl) (by kernel_rfl) (by kernel_rfl) (fun _ _ _ h => h) (Or.inl ⟨by rfl, by intro w; go_simp⟩) ?_
    refine wpAny_take (i := 5) (v := .int .i64 0) rfl (by kernel_rfl) (by kernel_rfl) (by kernel_rfl) (fun _ _ _ h => h) (Or.inl ⟨by rfl, by intro w; go_simp⟩) ?_
    refine wpAny_take (i := 6) (v := .int .i64 0) rfl (by kernel_rfl) (by kernel_rfl) (by kernel_rfl) (fun _ _ _ h => h) (Or.inl ⟨by rfl, by intro w; go_simp⟩) ?_
    refine wpAny_ready (rs := [7]) (by kernel_rfl) (by simp) ?_
    refine AllReady.cons rfl (fun K hK => ?_) AllReady.nil
    go_simp
    refine hK _ _ ?_
    clear hK K
    refine wpAny_ready (rs := [8]) (by kernel_rfl) (by simp) ?_
    refine AllReady.cons rfl (fun K hK => ?_) AllReady.nil
    go_simp
    refine hK _ _ ?_
    clear hK K
    refine wpAny_done (by kernel_rfl) ?_ _
    exact ⟨rfl, .returning, by rw [← hu], _, results_none rfl _ _ _, rfl, rfl, BE.put (w := w.drew) HE.out _ _, O2.sets (Below.refl _ w).drew _ _⟩
set_option maxHeartbeats 2000000 in
theorem dReq_flt (bb eb : Nat) (v : Value) (e0 k p : Int) (older : List PanicEntry) (w : World) (h : BE w bb eb v e0) (hv : ∃ ao n c, v = .slice ao n c) :
    CallsD Try.prog 30 #[.pointer (some ⟨bb, 0, none⟩), .pointer (some ⟨eb, 0, none⟩)] (.panicking ({ v := .iface 127 (.agg #[.int .i64 k, .int .i64 p]), recovered := false } :: older)) w fun e u' w' => e = .returned (.tuple #[]) ∧ u' = .panicking ({ v := .iface 127 (.agg #[.int .i64 k, .int .i64 p]), recovered := true } :: older) ∧ BE w' bb eb (.slice none 0 0) k ∧ O2 bb eb w w' := by
  obtain ⟨ao, n, c, rfl⟩ := hv
  refine callsD_of_wpS Try.func30 rfl fun c₀ cs hu => ?_
  have c0 : w.cell? ⟨bb, 0, none⟩ = some (.slice ao n c) := by rw [Lib.cell_of_heap h.1]; rfl
  have f0 : w.frozen? ⟨bb, 0, none⟩ = false := Lib.frozen_of_heap h.1 0
  have f1 : w.frozen? ⟨eb, 0, none⟩ = false := Lib.frozen_of_heap h.2.1 0
  have d1 : w.cell? ⟨eb, 0, none⟩ = some (.int .i64 e0) := by rw [Lib.cell_of_heap h.2.1]; rfl
  have HT := hid (fun w => toldB_flt (.slice ao n c) k p w)
  have HE := hid h
  have hne : bb ≠ eb := by have := h.2.2; omega
  have hne' : ¬ eb = bb := fun e => hne e.symm
  clear h
  refine wpS_region_any (by kernel_rfl) ?_
  refine wpAnyS_all (rs := [0, 1]) (by kernel_rfl) (by simp) ?_
  intro i hi
  simp only [List.mem_cons, List.not_mem_nil, or_false] at hi
  rcases hi with rfl | rfl
  · simp [wpOpS, go_sem, Try.ntmps30, c0]
    refine wpAnyS_all (rs := [1]) (by kernel_rfl) (by simp) ?_
    intro i hi
    simp only [List.mem_cons, List.not_mem_nil, or_false] at hi
    subst hi
    simp [wpOpS, go_sem, recoverD, hu]
    refine wpAny_toS (by rintro ⟨_, _, u', he, _⟩; cases he) _ _ _ _ ?_
    refine wpAny_ready (rs := [2]) (by kernel_rfl) (by simp) ?_
    refine AllReady.cons rfl (fun K hK => ?_) AllReady.nil
    go_simp
    go_wp2_with fail
    refine (HT.out _).mono ?_
    rintro e w2 ⟨rfl, hb2⟩
    have HB2 := hid hb2
    have HE2 := hid (BE.later (w := w.drew) HE.out hb2)
    have c0 : w2.cell? ⟨bb, 0, none⟩ = some (.slice ao n c) := by rw [Lib.cell_of_heap HE2.out.1]; rfl
    have d1 : w2.cell? ⟨eb, 0, none⟩ = some (.int .i64 e0) := by rw [Lib.cell_of_heap HE2.out.2.1]; rfl
    have f0 : w2.frozen? ⟨bb, 0, none⟩ = false := Lib.frozen_of_heap HE2.out.1 0
    have f1 : w2.frozen? ⟨eb, 0, none⟩ = false := Lib.frozen_of_heap HE2.out.2.1 0
    clear hb2
    go_wp2_with fail
    refine wpAny_take (i := 3) (v := .tuple #[.slice none 0 0, .int .i64 k, .int .i64 p]) rfl (by kernel_rfl) (by kernel_rfl) (by kernel_rfl) (fun _ _ _ h => h) (Or.inl ⟨by rfl, by intro w; go_simp⟩) ?_
    refine wpAny_take (i := 4) (v := .slice none 0 0) rfl (by kernel_rfl) (by kernel_rfl) (by kernel_rfl) (fun _ _ _ h => h) (Or.inl ⟨by rfl, by intro w; go_simp⟩) ?_
    refine wpAny_take (i := 5) (v := .int .i64 k) rfl (by kernel_rfl) (by kernel_rfl) (by kernel_rfl) (fun _ _ _ h => h) (Or.inl ⟨by rfl, by intro w; go_simp⟩) ?_
    refine wpAny_take (i := 6) (v := .int .i64 p) rfl (by kernel_rfl) (by kernel_rfl) (by kernel_rfl) (fun _ _ _ h => h) (Or.inl ⟨by rfl, by intro w; go_simp⟩) ?_
    refine wpAny_ready (rs := [7]) (by kernel_rfl) (by simp) ?_
    refine AllReady.cons rfl (fun K hK => ?_) AllReady.nil
    go_simp
    refine hK _ _ ?_
    clear hK K
    refine wpAny_ready (rs := [8]) (by kernel_rfl) (by simp) ?_
    refine AllReady.cons rfl (fun K hK => ?_) AllReady.nil
    go_simp
    refine hK _ _ ?_
    clear hK K
    refine wpAny_done (by kernel_rfl) ?_ _
    exact ⟨rfl, _, rfl, _, results_none rfl _ _ _, rfl, rfl, HE2.out.put _ _, O2.sets ((Below.refl w.heap.size w).drew.trans HB2.out) _ _⟩
  · simp [wpOpS, go_sem, recoverD, hu, Try.ntmps30]
    refine wpAnyS_all (rs := [0]) (by kernel_rfl) (by simp) ?_
    intro i hi
    simp only [List.mem_cons, List.not_mem_nil, or_false] at hi
    subst hi
    simp [wpOpS, go_sem, c0]
    refine wpAny_toS (by rintro ⟨_, _, u', he, _⟩; cases he) _ _ _ _ ?_
    refine wpAny_ready (rs := [2]) (by kernel_rfl) (by simp) ?_
    refine AllReady.cons rfl (fun K hK => ?_) AllReady.nil
    go_simp
    go_wp2_with fail
    refine (HT.out _).mono ?_
    rintro e w2 ⟨rfl, hb2⟩
    have HB2 := hid hb2
    have HE2 := hid (BE.later (w := w.drew) HE.out hb2)
    have c0 : w2.cell? ⟨bb, 0, none⟩ = some (.slice ao n c) := by rw [Lib.cell_of_heap HE2.out.1]; rfl
    have d1 : w2.cell? ⟨eb, 0, none⟩ = some (.int .i64 e0) := by rw [Lib.cell_of_heap HE2.out.2.1]; rfl
    have f0 : w2.frozen? ⟨bb, 0, none⟩ = false := Lib.frozen_of_heap HE2.out.1 0
    have f1 : w2.frozen? ⟨eb, 0, none⟩ = false := Lib.frozen_of_heap HE2.out.2.1 0
    clear hb2
    go_wp2_with fail
    refine wpAny_take (i := 3) (v := .tuple #[.slice none 0 0, .int .i64 k, .int .i64 p]) rfl (by kernel_rfl) (by kernel_rfl) (by kernel_rfl) (fun _ _ _ h => h) (Or.inl ⟨by rfl, by intro w; go_simp⟩) ?_
    refine wpAny_take (i := 4) (v := .slice none 0 0) rfl (by kernel_rfl) (by kernel_rfl) (by kernel_rfl) (fun _ _ _ h => h) (Or.inl ⟨by rfl, by intro w; go_simp⟩) ?_
    refine wpAny_take (i := 5) (v := .int .i64 k) rfl (by kernel_rfl) (by kernel_rfl) (by kernel_rfl) (fun _ _ _ h => h) (Or.inl ⟨by rfl, by intro w; go_simp⟩) ?_
    refine wpAny_take (i := 6) (v := .int .i64 p) rfl (by kernel_rfl) (by kernel_rfl) (by kernel_rfl) (fun _ _ _ h => h) (Or.inl ⟨by rfl, by intro w; go_simp⟩) ?_
    refine wpAny_ready (rs := [7]) (by kernel_rfl) (by simp) ?_
    refine AllReady.cons rfl (fun K hK => ?_) AllReady.nil
    go_simp
    refine hK _ _ ?_
    clear hK K
    refine wpAny_ready (rs := [8]) (by kernel_rfl) (by simp) ?_
    refine AllReady.cons rfl (fun K hK => ?_) AllReady.nil
    go_simp
    refine hK _ _ ?_
    clear hK K
    refine wpAny_done (by kernel_rfl) ?_ _
    exact ⟨rfl, _, rfl, _, results_none rfl _ _ _, rfl, rfl, HE2.out.put _ _, O2.sets ((Below.refl w.heap.size w).drew.trans HB2.out) _ _⟩
end Go.Proofs.Ytfhicemfhkhjaab
