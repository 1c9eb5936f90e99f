/-
  codec: records with a writer. Laid by mkrc1.py.
-/
import Derived.Test.YtfhicemfhkhjaabCx1
namespace Go.Proofs.Ytfhicemfhkhjaab
open Go.RowKit
set_option maxRecDepth 100000

set_option maxHeartbeats 2000000 in
theorem dRec_nil (bb eb : Nat) (v : Value) (e0 : Int) (w : World) (h : BE w bb eb v e0) (hv : ∃ ao n c, v = .slice ao n c) :
    CallsD Try.prog 37 #[.pointer (some ⟨bb, 0, none⟩), .pointer (some ⟨eb, 0, none⟩)] .returning w fun e u' w' => e = .returned (.tuple #[]) ∧ u' = .returning ∧ BE w' bb eb v 0 ∧ O2 bb eb w w' := by
  obtain ⟨ao, n, c, rfl⟩ := hv
  refine callsD_of_wpS Try.func37 rfl fun c₀ cs hu => ?_
  have c0 : w.cell? ⟨bb, 0, none⟩ = some (.slice ao n c) := by rw [Lib.cell_of_heap h.1]; rfl
  have f0 : w.frozen? ⟨bb, 0, none⟩ = false := Lib.frozen_of_heap h.1 0
  have f1 : w.frozen? ⟨eb, 0, none⟩ = false := Lib.frozen_of_heap h.2.1 0
  have d1 : w.cell? ⟨eb, 0, none⟩ = some (.int .i64 e0) := by rw [Lib.cell_of_heap h.2.1]; rfl
  have HT := hid (fun w => toldB_nil (.slice ao n c) w)
  have HE := hid h
  have hne : bb ≠ eb := by have := h.2.2; omega
  have hne' : ¬ eb = bb := fun e => hne e.symm
  clear h
  refine wpS_region_any (by kernel_rfl) ?_
  refine wpAnyS_all (rs := [0, 1]) (by kernel_rfl) (by simp) ?_
  intro i hi
  simp only [List.mem_cons, List.not_mem_nil, or_false] at hi
  rcases hi with rfl | rfl
  · simp [wpOpS, go_sem, Try.ntmps37, c0]
    refine wpAnyS_all (rs := [1]) (by kernel_rfl) (by simp) ?_
    intro i hi
    simp only [List.mem_cons, List.not_mem_nil, or_false] at hi
    subst hi
    simp [wpOpS, go_sem, recoverD, hu]
    refine wpAny_toS (by rintro ⟨_, _, u', he, _⟩; cases he) _ _ _ _ ?_
    refine wpAny_ready (rs := [2]) (by kernel_rfl) (by simp) ?_
    refine AllReady.cons rfl (fun K hK => ?_) AllReady.nil
    go_simp
    go_wp2_with fail
    refine (HT.out _).mono ?_
    rintro e w2 ⟨rfl, rfl⟩
    go_wp2_with fail
    refine wpAny_take (i := 3) (v := .tuple #[.slice ao n c, .int .i64 0, .int .i64 0]) rfl (by kernel_rfl) (by kernel_rfl) (by kernel_rfl) (fun _ _ _ h => h) (Or.inl ⟨by rfl, by intro w; go_simp⟩) ?_
    refine wpAny_take (i := 4) (v := .slice ao n c) rfl (by kernel_rfl) (by kernel_rfl) (by kernel_rfl) (fun _ _ _ h => h) (Or.inl ⟨by rfl, by intro w; go_simp⟩) ?_
    refine wpAny_take (i := 5) (v := .int .i64 0) rfl (by kernel_rfl) (by kernel_rfl) (by kernel_rfl) (fun _ _ _ h => h) (Or.inl ⟨by rfl, by intro w; go_simp⟩) ?_
    refine wpAny_take (i := 6) (v := .int .i64 0) rfl (by kernel_rfl) (by kernel_rfl) (by kernel_rfl) (fun _ _ _ h => h) (Or.inl ⟨by rfl, by intro w; go_simp⟩) ?_
    refine wpAny_ready (rs := [7]) (by kernel_rfl) (by simp) ?_
    refine AllReady.cons rfl (fun K hK => ?_) AllReady.nil
    go_simp
    refine hK _ _ ?_
    clear hK K
    refine wpAny_ready (rs := [8]) (by kernel_rfl) (by simp) ?_
    refine AllReady.cons rfl (fun K hK => ?_) AllReady.nil
    go_simp
    refine hK _ _ ?_
    clear hK K
    refine wpAny_done (by kernel_rfl) ?_ _
    exact ⟨rfl, .returning, by rw [← hu], _, results_none rfl _ _ _, rfl, rfl, BE.put (w := w.drew) HE.out _ _, O2.sets (Below.refl _ w).drew _ _⟩
  · simp [wpOpS, go_sem, recoverD, hu, Try.ntmps37]
    refine wpAnyS_all (rs := [0]) (by kernel_rfl) (by simp) ?_
    intro i hi
    simp only [List.mem_cons, List.not_mem_nil, or_false] at hi
    subst hi
    simp [wpOpS, go_sem, c0]
    refine wpAny_toS (by rintro ⟨_, _, u', he, _⟩; cases he) _ _ _ _ ?_
    refine wpAny_ready (rs := [2]) (by kernel_rfl) (by simp) ?_
    refine AllReady.cons rfl (fun K hK => ?_) AllReady.nil
    go_simp
    go_wp2_with fail
    refine (HT.out _).mono ?_
    rintro e w2 ⟨rfl, rfl⟩
    go_wp2_with fail
    refine wpAny_take (i := 3) (v := .tuple #[.slice ao n c, .int .i64 0, .int .i64 0]) rfl (by kernel_rfl) (by kernel_rfl) (by kernel_rfl) (fun _ _ _ h => h) (Or.inl ⟨by rfl, by intro w; go_simp⟩) ?_
    refine wpAny_take (i := 4) (v := .slice ao n c) rfl (by kernel_rfl) (by kernel_rfl) (by kernel_rfl) (fun _ _ _ h => h) (Or.inl ⟨by rfl, by intro w; go_simp⟩) ?_
    refine wpAny_take (i := 5) (v := .int .i64 0) rfl (by kernel_rfl) (by kernel_rfl) (by kernel_rfl) (fun _ _ _ h => h) (Or.inl ⟨by rfl, by intro w; go_simp⟩) ?_
    refine wpAny_take (i := 6) (v := .int .i64 0) rfl (by kernel_rfl) (by kernel_rfl) (by kernel_rfl) (fun _ _ _ h => h) (Or.inl ⟨by rfl, by intro w; go_simp⟩) ?_
    refine wpAny_ready (rs := [7]) (by kernel_rfl) (by simp) ?_
    refine AllReady.cons rfl (fun K hK => ?_) AllReady.nil
    go_simp
    refine hK _ _ ?_
    clear hK K
    refine wpAny_ready (rs := [8]) (by kernel_rfl) (by simp) ?_
    refine AllReady.cons rfl (fun K hK => ?_) AllReady.nil
    go_simp
    refine hK _ _ ?_
    clear hK K
    refine wpAny_done (by kernel_rfl) ?_ _
    exact ⟨rfl, .returning, by rw [← hu], _, results_none rfl _ _ _, rfl, rfl, BE.put (w := w.drew) HE.out _ _, O2.sets (Below.refl _ w).drew _ _⟩
set_option maxHeartbeats 2000000 in
theorem dRec_flt (bb eb : Nat) (v : Value) (e0 k p : Int) (older : List PanicEntry) (w : World) (h : BE w bb eb v e0) (hv : ∃ ao n c, v = .slice ao n c) :
    CallsD Try.prog 37 #[.pointer (some ⟨bb, 0, none⟩), .pointer (some ⟨eb, 0, none⟩)] (.panicking ({ v := .iface 127 (.agg #[.int .i64 k, .int .i64 p]), recovered := false } :: older)) w fun e u' w' => e = .returned (.tuple #[]) ∧ u' = .panicking ({ v := .iface 127 (.agg #[.int .i64 k, .int .i64 p]), recovered := true } :: older) ∧ BE w' bb eb (.slice none 0 0) k ∧ O2 bb eb w w' := by
  obtain ⟨ao, n, c, rfl⟩ := hv
  refine callsD_of_wpS Try.func37 rfl fun c₀ cs hu => ?_
  have c0 : w.cell? ⟨bb, 0, none⟩ = some (.slice ao n c) := by rw [Lib.cell_of_heap h.1]; rfl
  have f0 : w.frozen? ⟨bb, 0, none⟩ = false := Lib.frozen_of_heap h.1 0
  have f1 : w.frozen? ⟨eb, 0, none⟩ = false := Lib.frozen_of_heap h.2.1 0
  have d1 : w.cell? ⟨eb, 0, none⟩ = some (.int .i64 e0) := by rw [Lib.cell_of_heap h.2.1]; rfl
  have HT := hid (fun w => toldB_flt (.slice ao n c) k p w)
  have HE := hid h
  have hne : bb ≠ eb := by have := h.2.2; omega
  have hne' : ¬ eb = bb := fun e => hne e.symm
  clear h
  refine wpS_region_any (by kernel_rfl) ?_
  refine wpAnyS_all (rs := [0, 1]) (by kernel_rfl) (by simp) ?_
  intro i hi
  simp only [List.mem_cons, List.not_mem_nil, or_false] at hi
  rcases hi with rfl | rfl
  · simp [wpOpS, go_sem, Try.ntmps37, c0]
    refine wpAnyS_all (rs := [1]) (by kernel_rfl) (by simp) ?_
    intro i hi
    simp only [List.mem_cons, List.not_mem_nil, or_false] at hi
    subst hi
    simp [wpOpS, go_sem, recoverD, hu]
    refine wpAny_toS (by rintro ⟨_, _, u', he, _⟩; cases he) _ _ _ _ ?_
    refine wpAny_ready (rs := [2]) (by kernel_rfl) (by simp) ?_
    refine AllReady.cons rfl (fun K hK => ?_) AllReady.nil
    go_simp
    go_wp2_with fail
    refine (HT.out _).mono ?_
    rintro e w2 ⟨rfl, hb2⟩
    have HB2 := hid hb2
    have HE2 := hid (BE.later (w := w.drew) HE.out hb2)
    have c0 : w2.cell? ⟨bb, 0, none⟩ = some (.slice ao n c) := by rw [Lib.cell_of_heap HE2.out.1]; rfl
    have d1 : w2.cell? ⟨eb, 0, none⟩ = some (.int .i64 e0) := by rw [Lib.cell_of_heap HE2.out.2.1]; rfl
    have f0 : w2.frozen? ⟨bb, 0, none⟩ = false := Lib.frozen_of_heap HE2.out.1 0
    have f1 : w2.frozen? ⟨eb, 0, none⟩ = false := Lib.frozen_of_heap HE2.out.2.1 0
    clear hb2
    go_wp2_with fail
    refine wpAny_take (i := 3) (v := .tuple #[.slice none 0 0, .int .i64 k, .int .i64 p]) rfl (by kernel_rfl) (by kernel_rfl) (by kernel_rfl) (fun _ _ _ h => h) (Or.inl ⟨by rfl, by intro w; go_simp⟩) ?_
    refine wpAny_take (i := 4) (v := .slice none 0 0) rfl (by kernel_rfl) (by kernel_rfl) (by kernel_rfl) (fun _ _ _ h => h) (Or.inl ⟨by rfl, by intro w; go_simp⟩) ?_
    refine wpAny_take (i := 5) (v := .int .i64 k) rfl (by kernel_rfl) (by kernel_rfl) (by kernel_rfl) (fun _ _ _ h => h) (Or.inl ⟨by rfl, by intro w; go_simp⟩) ?_
    refine wpAny_take (i := 6) (v := .int .i64 p) rfl (by kernel_rfl) (by kernel_rfl) (by kernel_rfl) (fun _ _ _ h => h) (Or.inl ⟨by rfl, by intro w; go_simp⟩) ?_
    refine wpAny_ready (rs := [7]) (by kernel_rfl) (by simp) ?_
    refine AllReady.cons rfl (fun K hK => ?_) AllReady.nil
    go_simp
    refine hK _ _ ?_
    clear hK K
    refine wpAny_ready (rs := [8]) (by kernel_rfl) (by simp) ?_
    refine AllReady.cons rfl (fun K hK => ?_) AllReady.nil
    go_simp
    refine hK _ _ ?_
    clear hK K
    refine wpAny_done (by kernel_rfl) ?_ _
    exact ⟨rfl, _, rfl, _, results_none rfl _ _ _, rfl, rfl, HE2.out.put _ _, O2.sets ((Below.refl w.heap.size w).drew.trans HB2.out) _ _⟩
  · simp [wpOpS, go_sem, recoverD, hu, Try.ntmps37]
    refine wpAnyS_all (rs := [0]) (by kernel_rfl) (by simp) ?_
    intro i hi
    simp only [List.mem_cons, List.not_mem_nil, or_false] at hi
    subst hi
    simp [wpOpS, go_sem, c0]
    refine wpAny_toS (by rintro ⟨_, _, u', he, _⟩; cases he) _ _ _ _ ?_
    refine wpAny_ready (rs := [2]) (by kernel_rfl) (by simp) ?_
    refine AllReady.cons rfl (fun K hK => ?_) AllReady.nil
    go_simp
    go_wp2_with fail
    refine (HT.out _).mono ?_
    rintro e w2 ⟨rfl, hb2⟩
    have HB2 := hid hb2
    have HE2 := hid (BE.later (w := w.drew) HE.out hb2)
    have c0 : w2.cell? ⟨bb, 0, none⟩ = some (.slice ao n c) := by rw [Lib.cell_of_heap HE2.out.1]; rfl
    have d1 : w2.cell? ⟨eb, 0, none⟩ = some (.int .i64 e0) := by rw [Lib.cell_of_heap HE2.out.2.1]; rfl
    have f0 : w2.frozen? ⟨bb, 0, none⟩ = false := Lib.frozen_of_heap HE2.out.1 0
    have f1 : w2.frozen? ⟨eb, 0, none⟩ = false := Lib.frozen_of_heap HE2.out.2.1 0
    clear hb2
    go_wp2_with fail
    refine wpAny_take (i := 3) (v := .tuple #[.slice none 0 0, .int .i64 k, .int .i64 p]) rfl (by kernel_rfl) (by kernel_rfl) (by kernel_rfl) (fun _ _ _ h => h) (Or.inl ⟨by rfl, by intro w; go_simp⟩) ?_
    refine wpAny_take (i := 4) (v := .slice none 0 0) rfl (by kernel_rfl) (by kernel_rfl) (by kernel_rfl) (fun _ _ _ h => h) (Or.inl ⟨by rfl, by intro w; go_simp⟩) ?_
    refine wpAny_take (i := 5) (v := .int .i64 k) rfl (by kernel_rfl) (by kernel_rfl) (by kernel_rfl) (fun _ _ _ h => h) (Or.inl ⟨by rfl, by intro w; go_simp⟩) ?_
    refine wpAny_take (i := 6) (v := .int .i64 p) rfl (by kernel_rfl) (by kernel_rfl) (by kernel_rfl) (fun _ _ _ h => h) (Or.inl ⟨by rfl, by intro w; go_simp⟩) ?_
    refine wpAny_ready (rs := [7]) (by kernel_rfl) (by simp) ?_
    refine AllReady.cons rfl (fun K hK => ?_) AllReady.nil
    go_simp
    refine hK _ _ ?_
    clear hK K
    refine wpAny_ready (rs := [8]) (by kernel_rfl) (by simp) ?_
    refine AllReady.cons rfl (fun K hK => ?_) AllReady.nil
    go_simp
    refine hK _ _ ?_
    clear hK K
    refine wpAny_done (by kernel_rfl) ?_ _
    exact ⟨rfl, _, rfl, _, results_none rfl _ _ _, rfl, rfl, HE2.out.put _ _, O2.sets ((Below.refl w.heap.size w).drew.trans HB2.out) _ _⟩
set_option maxHeartbeats 2000000 in
theorem wrecord_any (rb : Nat) (r : Rq) (x : Int) (w : World) {wb most : Nat} {v : Value} {l : List UInt8} (h : WR w wb v l most) (hm : most ≤ 1000000000) (m : RqM w wb rb 1 r) (hx : w.cell? ⟨rb, 0, none⟩ = some (.int .i64 x)) (x0 : -9223372036854775808 ≤ x) (x1 : x ≤ 9223372036854775807) :
    Calls Try.prog 38 #[iw wb, .pointer (some ⟨rb, 0, none⟩)] w fun e w' => Wp wb v l most (83 :: (grp (foldI x) ++ rqB r)) (.returned (.tuple #[])) w e w' := by
  have hmf : ∀ (fn : Fn) (first cap : Array Value) (w : World), (Instr.makeFunc fn first cap).run Try.prog w = .ok (.func fn first cap) w := fun _ _ _ _ => rfl
  have hme := me_key
  have HK := hid (show Calls Try.prog 111 #[.pointer (some ⟨wb, 0, none⟩), .int .u8 83] w fun e w' => Wp wb v l most [83] (.returned (.tuple #[])) w e w' from wkey_any 83 w h hm)
  have H := hid h
  have HM := hid m
  have HX := hid hx
  have hrb := m.ahead
  clear h m hx
  go_enter Try.func38, Try.ntmps38
  go_wp2_with fail
  refine Calls.mono HK.out ?_
  rintro e w1 ⟨v1, hs, ⟨hf1, rfl, hr⟩ | ⟨hf, rfl⟩⟩
  rotate_left
  · go_wp2_with fail
    refine ⟨rfl, v1, hs, .inr ⟨?_, rfl⟩⟩
    simp only [List.length_cons, List.length_nil] at *; omega
  have HS := hid hs
  have HR1 := hid hr
  have hx1 := hs.old H.out rb 0 _ HX.out hrb
  have HM1 := hid (HM.out.old hs H.out)
  have HC1 := hid (fun q => wwhole_any ⟨rb, 0, none⟩ x (w1.drewN q) (most := most) (v := v1) (wb := wb) HR1.out hm hx1 x0 x1)
  have hna := na_whole wb
  have hme := me_whole
  clear hs hr HK hx1
  go_wp2_with fail
  refine wp_region_any (by kernel_rfl) ?_
  try (change wpAny _ _ _ _ _ _ _ (World.drew _))
  refine wpAny_take (i := 0) (v := iw wb) rfl (by kernel_rfl) (by kernel_rfl) (by kernel_rfl) (fun _ _ _ h => h) (Or.inl ⟨by rfl, by intro w; go_simp⟩) ?_
  refine wpAny_take (i := 1) (v := .pointer (some ⟨rb, 0, none⟩)) rfl (by kernel_rfl) (by kernel_rfl) (by kernel_rfl) (fun _ _ _ h => h) (Or.inl ⟨by rfl, by intro w; go_simp⟩) ?_
  refine wpAny_take (i := 2) (v := .pointer (some ⟨rb, 0, none⟩)) rfl (by kernel_rfl) (by kernel_rfl) (by kernel_rfl) (fun _ _ _ h => h) (Or.inl ⟨by rfl, by intro w; go_simp⟩) ?_
  refine wpAny_take (i := 3) (v := .pointer (some ⟨rb, 0, none⟩)) rfl (by kernel_rfl) (by kernel_rfl) (by kernel_rfl) (fun _ _ _ h => h) (Or.inl ⟨by rfl, by intro w; go_simp⟩) ?_
  refine wpAny_ready (rs := [4]) (by kernel_rfl) (by simp) ?_
  refine AllReady.cons rfl (fun K hK => ?_) AllReady.nil
  go_simp
  refine hK _ _ ?_
  clear hK K
  refine wpAny_take (i := 5) (v := .func (.method "larder/codec.whole") #[iw wb] #[]) rfl (by kernel_rfl) (by kernel_rfl) (by kernel_rfl) (fun _ _ _ h => h) (Or.inl ⟨by rfl, by intro w; go_simp⟩) ?_
  refine wpAny_take (i := 6) (v := iw wb) rfl (by kernel_rfl) (by kernel_rfl) (by kernel_rfl) (fun _ _ _ h => h) (Or.inl ⟨by rfl, by intro w; go_simp⟩) ?_
  refine wpAny_ready (rs := [7]) (by kernel_rfl) (by simp) ?_
  refine AllReady.cons rfl (fun K hK => ?_) AllReady.nil
  go_simp
  go_wp2_with fail
  refine (HC1.out _).mono ?_
  rintro e w2 ⟨v2, hs2, ⟨hf2, rfl, hr2⟩ | ⟨hf2, rfl⟩⟩
  rotate_left
  · go_wp2_with fail
    refine ⟨rfl, v2, HS.out.trans ((WS.drewN wb v1 w1 1).trans hs2), .inr ⟨?_, rfl⟩⟩
    simp only [List.length_append, List.length_cons, List.length_nil] at *
    omega
  go_wp2_with fail
  refine wpAny_done (by kernel_rfl) ?_ _
  have HS2 := hid (HS.out.trans ((WS.drewN wb v1 w1 1).trans hs2))
  have HF := hid (wfields_any rb 1 r w2 hr2 hm (HM1.out.old ((WS.drewN wb v1 w1 1).trans hs2) HR1.out))
  clear hs2 hr2 HC1 HS HR1 HM1 hna hme
  go_wp2_with fail
  refine Calls.mono HF.out ?_
  rintro e w3 ⟨v3, hs3, ⟨hf3, rfl, hr3⟩ | ⟨hf3, rfl⟩⟩
  · go_wp2_with fail
    go_end0
    refine ⟨v3, HS2.out.trans hs3, .inl ⟨?_, rfl, ?_⟩⟩
    · simp only [List.length_append, List.length_cons, List.length_nil] at *; omega
    · simp only [List.append_assoc, List.cons_append, List.nil_append] at hr3; exact hr3
  · go_wp2_with fail
    refine ⟨rfl, v3, HS2.out.trans hs3, .inr ⟨?_, rfl⟩⟩
    simp only [List.length_append, List.length_cons, List.length_nil] at *; omega
/-- a record as a value -/
def rcV (x : Int) (r : Rq) (ao : Option Addr) (cap : Nat) : Value := .agg #[.int .i64 x, .string r.id, .int .i64 r.kind, .slice ao r.lines.length cap, .string r.hold, .int .i64 r.ttl, .int .i64 r.now]
set_option maxHeartbeats 2000000 in
theorem putRecord_any (x : Int) (r : Rq) (ao : Option Addr) (cap : Nat) (w : World) (x0 : -9223372036854775808 ≤ x) (x1 : x ≤ 9223372036854775807) (ho : RqOk r) (hL : LL w w.heap.size ao r.lines) :
    Calls Try.prog 11 #[rcV x r ao cap] w fun e w' => Wrt (83 :: (grp (foldI x) ++ rqB r)) 4096 w e w' := by
  obtain ⟨M, hM⟩ : ∃ M, grp (foldI x) ++ rqB r = M := ⟨_, rfl⟩
  rw [hM]
  have hmf : ∀ (fn : Fn) (first cap : Array Value) (w : World), (Instr.makeFunc fn first cap).run Try.prog w = .ok (.func fn first cap) w := fun _ _ _ _ => rfl
  unfold rcV
  obtain ⟨W1, hW1⟩ : ∃ W1, w.alloc (.cells #[.int .i64 x, .string r.id, .int .i64 r.kind, .slice ao r.lines.length cap, .string r.hold, .int .i64 r.ttl, .int .i64 r.now] 54) = W1 := ⟨_, rfl⟩
  obtain ⟨W2, hW2⟩ : ∃ W2, W1.alloc (.cells #[.slice none 0 0] 47) = W2 := ⟨_, rfl⟩
  obtain ⟨W3, hW3⟩ : ∃ W3, W2.alloc (.cells #[.int .i64 0] 25) = W3 := ⟨_, rfl⟩
  obtain ⟨W4, hW4⟩ : ∃ W4, W3.alloc (.cells #[.slice none 0 0, .int .i64 4096] 86) = W4 := ⟨_, rfl⟩
  have z1 : W1.heap.size = w.heap.size + 1 := by rw [← hW1, World.size_alloc]
  have z2 : W2.heap.size = w.heap.size + 2 := by rw [← hW2, World.size_alloc, z1]
  have z3 : W3.heap.size = w.heap.size + 3 := by rw [← hW3, World.size_alloc, z2]
  have hb1 : Below w.heap.size w W1 := by rw [← hW1]; exact (Below.refl _ _).alloc (Nat.le_refl _) _
  have hb2 : Below W1.heap.size W1 W2 := by rw [← hW2]; exact (Below.refl _ _).alloc (Nat.le_refl _) _
  have hb3 : Below W2.heap.size W2 W3 := by rw [← hW3]; exact (Below.refl _ _).alloc (Nat.le_refl _) _
  have hb4 : Below W3.heap.size W3 W4 := by rw [← hW4]; exact (Below.refl _ _).alloc (Nat.le_refl _) _
  have b24 : Below W2.heap.size W2 W4 := hb3.trans (hb4.mono (by omega))
  have b14 : Below W1.heap.size W1 W4 := hb2.trans (b24.mono (by omega))
  have b04 : Below w.heap.size w W4 := hb1.trans (b14.mono (by omega))
  have hrq : W4.heap[w.heap.size]? = some (.cells #[.int .i64 x, .string r.id, .int .i64 r.kind, .slice ao r.lines.length cap, .string r.hold, .int .i64 r.ttl, .int .i64 r.now] 54 (0, 0)) := (b14.block _ (by omega)).trans (by rw [← hW1]; exact heap_alloc_new w _)
  have HM := hid (show RqM W4 (w.heap.size + 3) w.heap.size 1 r from ⟨by omega, by rw [cell_of_row _ _ _ _ _ _ hrq]; rfl, by rw [cell_of_row _ _ _ _ _ _ hrq]; rfl, ⟨ao, cap, by rw [cell_of_row _ _ _ _ _ _ hrq]; rfl, hL.below b04 (by omega)⟩, by rw [cell_of_row _ _ _ _ _ _ hrq]; rfl, by rw [cell_of_row _ _ _ _ _ _ hrq]; rfl, by rw [cell_of_row _ _ _ _ _ _ hrq]; rfl, ho.b0, ho.b1, ho.b2, ho.b3⟩)
  have HBE := hid (show BE W4 (w.heap.size + 1) (w.heap.size + 2) (.slice none 0 0) 0 from ⟨(b24.block _ (by omega)).trans (by rw [← hW2, ← z1]; exact heap_alloc_new W1 _), (hb4.block _ (by omega)).trans (by rw [← hW3, ← z2]; exact heap_alloc_new W2 _), by omega⟩)
  have HWR := hid (show WR W4 (w.heap.size + 3) (.slice none 0 0) [] 4096 from ⟨by rw [← hW4, ← z3]; exact heap_alloc_new W3 _, Owns.nil _ _⟩)
  have HRe := hid (wrecord_any w.heap.size r x W4 HWR.out (by omega) HM.out (by rw [cell_of_row _ _ _ _ _ _ hrq]; rfl) x0 x1)
  rw [hM] at HRe
  have B4 := hid b04
  clear hb1 hb2 hb3 hb4 b24 b14 b04 hrq hL ho
  go_enter_defers Try.func11, Try.ntmps11
  go_wp2_with fail
  refine Calls.mono HRe.out ?_
  rintro e w5 ⟨v5, hs, ⟨hf, rfl, hr⟩ | ⟨hf, rfl⟩⟩
  · have hbe : BE w5 (w.heap.size + 1) (w.heap.size + 2) (.slice none 0 0) 0 := ⟨(hs.block _ (Array.getElem?_eq_some_iff.1 HBE.out.1).1 (by omega) (by simp [Value.ownBlock])).trans HBE.out.1, (hs.block _ (Array.getElem?_eq_some_iff.1 HBE.out.2.1).1 (by omega) (by simp [Value.ownBlock])).trans HBE.out.2.1, by omega⟩
    have HB5 := hid hbe
    have HR5 := hid hr
    have HS5 := hid hs
    have c0 : w5.cell? ⟨w.heap.size + 3, 0, none⟩ = some v5 := by rw [Lib.cell_of_heap hr.1]; rfl
    have k0 : w5.cell? ⟨w.heap.size + 1, 0, none⟩ = some (.slice none 0 0) := by rw [Lib.cell_of_heap hbe.1]; rfl
    have k1 : w5.cell? ⟨w.heap.size + 2, 0, none⟩ = some (.int .i64 0) := by rw [Lib.cell_of_heap hbe.2.1]; rfl
    have f0 : w5.frozen? ⟨w.heap.size + 1, 0, none⟩ = false := Lib.frozen_of_heap hbe.1 0
    have f1 : w5.frozen? ⟨w.heap.size + 2, 0, none⟩ = false := Lib.frozen_of_heap hbe.2.1 0
    obtain ⟨ao5, cap5, hv5⟩ := hr.2.reads.form
    clear hbe hr hs HRe
    subst hv5
    go_wp2_with fail
    refine leaves_cons (f := 37) (args := #[.pointer (some ⟨w.heap.size + 1, 0, none⟩), .pointer (some ⟨w.heap.size + 2, 0, none⟩)]) (by simp) (by simp [go_sem]) ?_
    refine (dRec_nil (w.heap.size + 1) (w.heap.size + 2) _ 0 _ (HB5.out.put _ 0) ⟨_, _, _, rfl⟩).mono ?_
    rintro e u' w6 ⟨rfl, rfl, hbe, ho2⟩
    have q0 : w6.cell? ⟨w.heap.size + 1, 0, none⟩ = some (.slice ao5 (M.length + 1) cap5) := by rw [Lib.cell_of_heap hbe.1]; rfl
    have q1 : w6.cell? ⟨w.heap.size + 2, 0, none⟩ = some (.int .i64 0) := by rw [Lib.cell_of_heap hbe.2.1]; rfl
    have hO5 : Owns w5 (w.heap.size + 4) (.slice ao5 (M.length + 1) cap5) (83 :: M) := HR5.out.2
    have hO6 := ho2.own (ownsRow_setCell_below (ownsRow_setCell_below hO5 (by show w.heap.size + 1 < _; omega) _) (by show w.heap.size + 2 < _; omega) _) (by omega) (by omega)
    have hz := B4.out.size
    have hz4 := HS5.out.size
    have B5 := B4.out.trans (HS5.out.lower HWR.out (show w.heap.size ≤ w.heap.size + 3 by omega))
    have B6 := ((B5.setCell (show w.heap.size ≤ w.heap.size + 1 by omega) (.slice ao5 (M.length + 1) cap5)).setCell (show w.heap.size ≤ w.heap.size + 2 by omega) (.int .i64 0)).trans (ho2.below (by omega) (by omega) (by simp; omega))
    have HW := hid (Wrt.yes (m := 83 :: M) (most := 4096) (by simpa using hf) (hO6.mono (by omega)) B6)
    clear hO5 hO6 B5 B6 hbe ho2
    simp [Leaves, settle, results, Try.results11, go_sem, q0, q1]
    exact HW.out
  · have hbe : BE w5 (w.heap.size + 1) (w.heap.size + 2) (.slice none 0 0) 0 := ⟨(hs.block _ (Array.getElem?_eq_some_iff.1 HBE.out.1).1 (by omega) (by simp [Value.ownBlock])).trans HBE.out.1, (hs.block _ (Array.getElem?_eq_some_iff.1 HBE.out.2.1).1 (by omega) (by simp [Value.ownBlock])).trans HBE.out.2.1, by omega⟩
    have HB5 := hid hbe
    have HS5 := hid hs
    clear hbe hs HRe
    go_wp2_with fail
    refine leaves_cons (f := 37) (args := #[.pointer (some ⟨w.heap.size + 1, 0, none⟩), .pointer (some ⟨w.heap.size + 2, 0, none⟩)]) (by simp) (by simp [go_sem]) ?_
    refine (dRec_flt (w.heap.size + 1) (w.heap.size + 2) _ 0 1 0 [] _ HB5.out ⟨_, _, _, rfl⟩).mono ?_
    rintro e u' w6 ⟨rfl, rfl, hbe, ho2⟩
    have q0 : w6.cell? ⟨w.heap.size + 1, 0, none⟩ = some (.slice none 0 0) := by rw [Lib.cell_of_heap hbe.1]; rfl
    have q1 : w6.cell? ⟨w.heap.size + 2, 0, none⟩ = some (.int .i64 1) := by rw [Lib.cell_of_heap hbe.2.1]; rfl
    have hz := B4.out.size
    have hz4 := HS5.out.size
    have B5 := B4.out.trans (HS5.out.lower HWR.out (show w.heap.size ≤ w.heap.size + 3 by omega))
    have B6 := B5.trans (ho2.below (by omega) (by omega) (by omega))
    have HW := hid (Wrt.no (m := 83 :: M) (most := 4096) (by simp at hf ⊢; omega) B6)
    clear B5 B6 hbe ho2
    simp [Leaves, settle, results, Try.results11, go_sem, q0, q1]
    exact HW.out
end Go.Proofs.Ytfhicemfhkhjaab
