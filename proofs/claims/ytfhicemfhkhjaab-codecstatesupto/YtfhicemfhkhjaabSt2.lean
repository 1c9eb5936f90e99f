/-
  codec: a state with a writer, PutState. Laid by mkst2.py, mkcw2.py St2.
-/
import Derived.Test.YtfhicemfhkhjaabSt1
import Derived.Test.YtfhicemfhkhjaabRp1
namespace Go.Proofs.Ytfhicemfhkhjaab
open Go.RowKit
set_option maxRecDepth 100000

/-- a state -/
structure Sx where
  room : Int
  lsn : Int
  now : Int
  levels : List Lv
  holds : List Hl
  done : List Dn
/-- a state's fields as bytes -/
def sxB (s : Sx) : List UInt8 := grp (foldI s.room) ++ (grp (foldI s.lsn) ++ (grp (foldI s.now) ++ ((grp s.levels.length ++ lvB s.levels) ++ ((grp s.holds.length ++ hlB s.holds) ++ (grp s.done.length ++ dnB s.done)))))
/-- a state that may be -/
structure SxOk (s : Sx) : Prop where
  b0 : -9223372036854775808 ≤ s.room ∧ s.room ≤ 9223372036854775807
  b1 : -9223372036854775808 ≤ s.lsn ∧ s.lsn ≤ 9223372036854775807
  b2 : -9223372036854775808 ≤ s.now ∧ s.now ≤ 9223372036854775807
  b3 : s.levels.length ≤ 9223372036854775807
  b4 : s.holds.length ≤ 9223372036854775807
  b5 : s.done.length ≤ 9223372036854775807
theorem HLs.old {wb most : Nat} {v v' : Value} {l : List UInt8} {w w' : World} {ao : Option Addr} {L : List Hl} (h : HLs w wb ao L) (k : WS wb v w v' w') (hr : WR w wb v l most) : HLs w' wb ao L := fun i hi => by
  obtain ⟨g, off, e, m⟩ := h i hi
  exact ⟨g, off, e, m.old k hr⟩
theorem DLs.old {wb most : Nat} {v v' : Value} {l : List UInt8} {w w' : World} {ao : Option Addr} {L : List Dn} (h : DLs w wb ao L) (k : WS wb v w v' w') (hr : WR w wb v l most) : DLs w' wb ao L := fun i hi => by
  obtain ⟨g, off, e, m⟩ := h i hi
  exact ⟨g, off, e, m.old k hr⟩
theorem HLs.below {w w' : World} {B B' : Nat} {ao : Option Addr} {L : List Hl} (h : HLs w B ao L) (k : Below w.heap.size w w') (hb : B ≤ B') : HLs w' B' ao L := fun i hi => by
  obtain ⟨g, off, e, m⟩ := h i hi
  obtain ⟨ao, cap, e1, e2⟩ := m.c1
  have := m.ahead
  exact ⟨g, off, e, ⟨by omega, below_cells k _ _ m.c0, ⟨ao, cap, below_cells k _ _ e1, e2.below k hb⟩, below_cells k _ _ m.c2, m.b0, m.b1⟩⟩
theorem RqM.below {w w' : World} {B B' rb po : Nat} {r : Rq} (m : RqM w B rb po r) (k : Below w.heap.size w w') (hb : B ≤ B') : RqM w' B' rb po r := by
  obtain ⟨ao, cap, e1, e2⟩ := m.c2
  have := m.ahead
  exact ⟨by omega, below_cells k _ _ m.c0, below_cells k _ _ m.c1, ⟨ao, cap, below_cells k _ _ e1, e2.below k hb⟩, below_cells k _ _ m.c3, below_cells k _ _ m.c4, below_cells k _ _ m.c5, m.b0, m.b1, m.b2, m.b3⟩
theorem DLs.below {w w' : World} {B B' : Nat} {ao : Option Addr} {L : List Dn} (h : DLs w B ao L) (k : Below w.heap.size w w') (hb : B ≤ B') : DLs w' B' ao L := fun i hi => by
  obtain ⟨g, off, e, m⟩ := h i hi
  exact ⟨g, off, e, ⟨m.r.below k hb, below_cells k _ _ m.c6, m.b4⟩⟩
/-- a state in block sb, ahead of block B -/
structure SxM (w : World) (B sb : Nat) (s : Sx) (a1 : Option Addr) (p1 : Nat) (a2 : Option Addr) (p2 : Nat) (a3 : Option Addr) (p3 : Nat) : Prop where
  ahead : sb < B
  c0 : w.cell? ⟨sb, 0, none⟩ = some (.int .i64 s.room)
  c1 : w.cell? ⟨sb, 1, none⟩ = some (.int .i64 s.lsn)
  c2 : w.cell? ⟨sb, 2, none⟩ = some (.int .i64 s.now)
  c3 : w.cell? ⟨sb, 3, none⟩ = some (.slice a1 s.levels.length p1)
  c4 : w.cell? ⟨sb, 4, none⟩ = some (.slice a2 s.holds.length p2)
  c5 : w.cell? ⟨sb, 5, none⟩ = some (.slice a3 s.done.length p3)
  l1 : LV w B a1 s.levels
  l2 : HLs w B a2 s.holds
  l3 : DLs w B a3 s.done
  ok : SxOk s
theorem SxM.old {wb most sb p1 p2 p3 : Nat} {a1 a2 a3 : Option Addr} {v v' : Value} {l : List UInt8} {w w' : World} {s : Sx} (h : SxM w wb sb s a1 p1 a2 p2 a3 p3) (k : WS wb v w v' w') (hr : WR w wb v l most) : SxM w' wb sb s a1 p1 a2 p2 a3 p3 :=
  ⟨h.ahead, k.old hr _ _ _ h.c0 h.ahead, k.old hr _ _ _ h.c1 h.ahead, k.old hr _ _ _ h.c2 h.ahead, k.old hr _ _ _ h.c3 h.ahead, k.old hr _ _ _ h.c4 h.ahead, k.old hr _ _ _ h.c5 h.ahead, h.l1.old k hr, h.l2.old k hr, h.l3.old k hr, h.ok⟩
set_option maxHeartbeats 2000000 in
theorem dSta_nil (bb eb : Nat) (v : Value) (e0 : Int) (w : World) (h : BE w bb eb v e0) (hv : ∃ ao n c, v = .slice ao n c) :
    CallsD Try.prog 35 #[.pointer (some ⟨bb, 0, none⟩), .pointer (some ⟨eb, 0, none⟩)] .returning w fun e u' w' => e = .returned (.tuple #[]) ∧ u' = .returning ∧ BE w' bb eb v 0 ∧ O2 bb eb w w' := by
  obtain ⟨ao, n, c, rfl⟩ := hv
  refine callsD_of_wpS Try.func35 rfl fun c₀ cs hu => ?_
  have c0 : w.cell? ⟨bb, 0, none⟩ = some (.slice ao n c) := by rw [Lib.cell_of_heap h.1]; rfl
  have f0 : w.frozen? ⟨bb, 0, none⟩ = false := Lib.frozen_of_heap h.1 0
  have f1 : w.frozen? ⟨eb, 0, none⟩ = false := Lib.frozen_of_heap h.2.1 0
  have d1 : w.cell? ⟨eb, 0, none⟩ = some (.int .i64 e0) := by rw [Lib.cell_of_heap h.2.1]; rfl
  have HT := hid (fun w => toldB_nil (.slice ao n c) w)
  have HE := hid h
  have hne : bb ≠ eb := by have := h.2.2; omega
  have hne' : ¬ eb = bb := fun e => hne e.symm
  clear h
  refine wpS_region_any (by kernel_rfl) ?_
  refine wpAnyS_all (rs := [0, 1]) (by kernel_rfl) (by simp) ?_
  intro i hi
  simp only [List.mem_cons, List.not_mem_nil, or_false] at hi
  rcases hi with rfl | rfl
  · simp [wpOpS, go_sem, Try.ntmps35, c0]
    refine wpAnyS_all (rs := [1]) (by kernel_rfl) (by simp) ?_
    intro i hi
    simp only [List.mem_cons, List.not_mem_nil, or_false] at hi
    subst hi
    simp [wpOpS, go_sem, recoverD, hu]
    refine wpAny_toS (by rintro ⟨_, _, u', he, _⟩; cases he) _ _ _ _ ?_
    refine wpAny_ready (rs := [2]) (by kernel_rfl) (by simp) ?_
    refine AllReady.cons rfl (fun K hK => ?_) AllReady.nil
    go_simp
    go_wp2_with fail
    refine (HT.out _).mono ?_
    rintro e w2 ⟨rfl, rfl⟩
    go_wp2_with fail
    refine wpAny_take (i := 3) (v := .tuple #[.slice ao n c, .int .i64 0, .int .i64 0]) rfl (by kernel_rfl) (by kernel_rfl) (by kernel_rfl) (fun _ _ _ h => h) (Or.inl ⟨by rfl, by intro w; go_simp⟩) ?_
    refine wpAny_take (i := 4) (v := .slice ao n c) rfl (by kernel_rfl) (by kernel_rfl) (by kernel_rfl) (fun _ _ _ h => h) (Or.inl ⟨by rfl, by intro w; go_simp⟩) ?_
    refine wpAny_take (i := 5) (v := .int .i64 0) rfl (by kernel_rfl) (by kernel_rfl) (by kernel_rfl) (fun _ _ _ h => h) (Or.inl ⟨by rfl, by intro w; go_simp⟩) ?_
    refine wpAny_take (i := 6) (v := .int .i64 0) rfl (by kernel_rfl) (by kernel_rfl) (by kernel_rfl) (fun _ _ _ h => h) (Or.inl ⟨by rfl, by intro w; go_simp⟩) ?_
    refine wpAny_ready (rs := [7]) (by kernel_rfl) (by simp) ?_
    refine AllReady.cons rfl (fun K hK => ?_) AllReady.nil
    go_simp
    refine hK _ _ ?_
    clear hK K
    refine wpAny_ready (rs := [8]) (by kernel_rfl) (by simp) ?_
    refine AllReady.cons rfl (fun K hK => ?_) AllReady.nil
    go_simp
    refine hK _ _ ?_
    clear hK K
    refine wpAny_done (by kernel_rfl) ?_ _
    exact ⟨rfl, .returning, by rw [← hu], _, results_none rfl _ _ _, rfl, rfl, BE.put (w := w.drew) HE.out _ _, O2.sets (Below.refl _ w).drew _ _⟩
  · simp [wpOpS, go_sem, recoverD, hu, Try.ntmps35]
    refine wpAnyS_all (rs := [0]) (by kernel_rfl) (by simp) ?_
    intro i hi
    simp only [List.mem_cons, List.not_mem_nil, or_false] at hi
    subst hi
    simp [wpOpS, go_sem, c0]
    refine wpAny_toS (by rintro ⟨_, _, u', he, _⟩; cases he) _ _ _ _ ?_
    refine wpAny_ready (rs := [2]) (by kernel_rfl) (by simp) ?_
    refine AllReady.cons rfl (fun K hK => ?_) AllReady.nil
    go_simp
    go_wp2_with fail
    refine (HT.out _).mono ?_
    rintro e w2 ⟨rfl, rfl⟩
    go_wp2_with fail
    refine wpAny_take (i := 3) (v := .tuple #[.slice ao n c, .int .i64 0, .int .i64 0]) rfl (by kernel_rfl) (by kernel_rfl) (by kernel_rfl) (fun _ _ _ h => h) (Or.inl ⟨by rfl, by intro w; go_simp⟩) ?_
    refine wpAny_take (i := 4) (v := .slice ao n c) rfl (by kernel_rfl) (by kernel_rfl) (by kernel_rfl) (fun _ _ _ h => h) (Or.inl ⟨by rfl, by intro w; go_simp⟩) ?_
    refine wpAny_take (i := 5) (v := .int .i64 0) rfl (by kernel_rfl) (by kernel_rfl) (by kernel_rfl) (fun _ _ _ h => h) (Or.inl ⟨by rfl, by intro w; go_simp⟩) ?_
    refine wpAny_take (i := 6) (v := .int .i64 0) rfl (by kernel_rfl) (by kernel_rfl) (by kernel_rfl) (fun _ _ _ h => h) (Or.inl ⟨by rfl, by intro w; go_simp⟩) ?_
    refine wpAny_ready (rs := [7]) (by kernel_rfl) (by simp) ?_
    refine AllReady.cons rfl (fun K hK => ?_) AllReady.nil
    go_simp
    refine hK _ _ ?_
    clear hK K
    refine wpAny_ready (rs := [8]) (by kernel_rfl) (by simp) ?_
    refine AllReady.cons rfl (fun K hK => ?_) AllReady.nil
    go_simp
    refine hK _ _ ?_
    clear hK K
    refine wpAny_done (by kernel_rfl) ?_ _
    exact ⟨rfl, .returning, by rw [← hu], _, results_none rfl _ _ _, rfl, rfl, BE.put (w := w.drew) HE.out _ _, O2.sets (Below.refl _ w).drew _ _⟩
set_option maxHeartbeats 2000000 in
theorem dSta_flt (bb eb : Nat) (v : Value) (e0 k p : Int) (older : List PanicEntry) (w : World) (h : BE w bb eb v e0) (hv : ∃ ao n c, v = .slice ao n c) :
    CallsD Try.prog 35 #[.pointer (some ⟨bb, 0, none⟩), .pointer (some ⟨eb, 0, none⟩)] (.panicking ({ v := .iface 127 (.agg #[.int .i64 k, .int .i64 p]), recovered := false } :: older)) w fun e u' w' => e = .returned (.tuple #[]) ∧ u' = .panicking ({ v := .iface 127 (.agg #[.int .i64 k, .int .i64 p]), recovered := true } :: older) ∧ BE w' bb eb (.slice none 0 0) k ∧ O2 bb eb w w' := by
  obtain ⟨ao, n, c, rfl⟩ := hv
  refine callsD_of_wpS Try.func35 rfl fun c₀ cs hu => ?_
  have c0 : w.cell? ⟨bb, 0, none⟩ = some (.slice ao n c) := by rw [Lib.cell_of_heap h.1]; rfl
  have f0 : w.frozen? ⟨bb, 0, none⟩ = false := Lib.frozen_of_heap h.1 0
  have f1 : w.frozen? ⟨eb, 0, none⟩ = false := Lib.frozen_of_heap h.2.1 0
  have d1 : w.cell? ⟨eb, 0, none⟩ = some (.int .i64 e0) := by rw [Lib.cell_of_heap h.2.1]; rfl
  have HT := hid (fun w => toldB_flt (.slice ao n c) k p w)
  have HE := hid h
  have hne : bb ≠ eb := by have := h.2.2; omega
  have hne' : ¬ eb = bb := fun e => hne e.symm
  clear h
  refine wpS_region_any (by kernel_rfl) ?_
  refine wpAnyS_all (rs := [0, 1]) (by kernel_rfl) (by simp) ?_
  intro i hi
  simp only [List.mem_cons, List.not_mem_nil, or_false] at hi
  rcases hi with rfl | rfl
  · simp [wpOpS, go_sem, Try.ntmps35, c0]
    refine wpAnyS_all (rs := [1]) (by kernel_rfl) (by simp) ?_
    intro i hi
    simp only [List.mem_cons, List.not_mem_nil, or_false] at hi
    subst hi
    simp [wpOpS, go_sem, recoverD, hu]
    refine wpAny_toS (by rintro ⟨_, _, u', he, _⟩; cases he) _ _ _ _ ?_
    refine wpAny_ready (rs := [2]) (by kernel_rfl) (by simp) ?_
    refine AllReady.cons rfl (fun K hK => ?_) AllReady.nil
    go_simp
    go_wp2_with fail
    refine (HT.out _).mono ?_
    rintro e w2 ⟨rfl, hb2⟩
    have HB2 := hid hb2
    have HE2 := hid (BE.later (w := w.drew) HE.out hb2)
    have c0 : w2.cell? ⟨bb, 0, none⟩ = some (.slice ao n c) := by rw [Lib.cell_of_heap HE2.out.1]; rfl
    have d1 : w2.cell? ⟨eb, 0, none⟩ = some (.int .i64 e0) := by rw [Lib.cell_of_heap HE2.out.2.1]; rfl
    have f0 : w2.frozen? ⟨bb, 0, none⟩ = false := Lib.frozen_of_heap HE2.out.1 0
    have f1 : w2.frozen? ⟨eb, 0, none⟩ = false := Lib.frozen_of_heap HE2.out.2.1 0
    clear hb2
    go_wp2_with fail
    refine wpAny_take (i := 3) (v := .tuple #[.slice none 0 0, .int .i64 k, .int .i64 p]) rfl (by kernel_rfl) (by kernel_rfl) (by kernel_rfl) (fun _ _ _ h => h) (Or.inl ⟨by rfl, by intro w; go_simp⟩) ?_
    refine wpAny_take (i := 4) (v := .slice none 0 0) rfl (by kernel_rfl) (by kernel_rfl) (by kernel_rfl) (fun _ _ _ h => h) (Or.inl ⟨by rfl, by intro w; go_simp⟩) ?_
    refine wpAny_take (i := 5) (v := .int .i64 k) rfl (by kernel_rfl) (by kernel_rfl) (by kernel_rfl) (fun _ _ _ h => h) (Or.inl ⟨by rfl, by intro w; go_simp⟩) ?_
    refine wpAny_take (i := 6) (v := .int .i64 p) rfl (by kernel_rfl) (by kernel_rfl) (by kernel_rfl) (fun _ _ _ h => h) (Or.inl ⟨by rfl, by intro w; go_simp⟩) ?_
    refine wpAny_ready (rs := [7]) (by kernel_rfl) (by simp) ?_
    refine AllReady.cons rfl (fun K hK => ?_) AllReady.nil
    go_simp
    refine hK _ _ ?_
    clear hK K
    refine wpAny_ready (rs := [8]) (by kernel_rfl) (by simp) ?_
    refine AllReady.cons rfl (fun K hK => ?_) AllReady.nil
    go_simp
    refine hK _ _ ?_
    clear hK K
    refine wpAny_done (by kernel_rfl) ?_ _
    exact ⟨rfl, _, rfl, _, results_none rfl _ _ _, rfl, rfl, HE2.out.put _ _, O2.sets ((Below.refl w.heap.size w).drew.trans HB2.out) _ _⟩
  · simp [wpOpS, go_sem, recoverD, hu, Try.ntmps35]
    refine wpAnyS_all (rs := [0]) (by kernel_rfl) (by simp) ?_
    intro i hi
    simp only [List.mem_cons, List.not_mem_nil, or_false] at hi
    subst hi
    simp [wpOpS, go_sem, c0]
    refine wpAny_toS (by rintro ⟨_, _, u', he, _⟩; cases he) _ _ _ _ ?_
    refine wpAny_ready (rs := [2]) (by kernel_rfl) (by simp) ?_
    refine AllReady.cons rfl (fun K hK => ?_) AllReady.nil
    go_simp
    go_wp2_with fail
    refine (HT.out _).mono ?_
    rintro e w2 ⟨rfl, hb2⟩
    have HB2 := hid hb2
    have HE2 := hid (BE.later (w := w.drew) HE.out hb2)
    have c0 : w2.cell? ⟨bb, 0, none⟩ = some (.slice ao n c) := by rw [Lib.cell_of_heap HE2.out.1]; rfl
    have d1 : w2.cell? ⟨eb, 0, none⟩ = some (.int .i64 e0) := by rw [Lib.cell_of_heap HE2.out.2.1]; rfl
    have f0 : w2.frozen? ⟨bb, 0, none⟩ = false := Lib.frozen_of_heap HE2.out.1 0
    have f1 : w2.frozen? ⟨eb, 0, none⟩ = false := Lib.frozen_of_heap HE2.out.2.1 0
    clear hb2
    go_wp2_with fail
    refine wpAny_take (i := 3) (v := .tuple #[.slice none 0 0, .int .i64 k, .int .i64 p]) rfl (by kernel_rfl) (by kernel_rfl) (by kernel_rfl) (fun _ _ _ h => h) (Or.inl ⟨by rfl, by intro w; go_simp⟩) ?_
    refine wpAny_take (i := 4) (v := .slice none 0 0) rfl (by kernel_rfl) (by kernel_rfl) (by kernel_rfl) (fun _ _ _ h => h) (Or.inl ⟨by rfl, by intro w; go_simp⟩) ?_
    refine wpAny_take (i := 5) (v := .int .i64 k) rfl (by kernel_rfl) (by kernel_rfl) (by kernel_rfl) (fun _ _ _ h => h) (Or.inl ⟨by rfl, by intro w; go_simp⟩) ?_
    refine wpAny_take (i := 6) (v := .int .i64 p) rfl (by kernel_rfl) (by kernel_rfl) (by kernel_rfl) (fun _ _ _ h => h) (Or.inl ⟨by rfl, by intro w; go_simp⟩) ?_
    refine wpAny_ready (rs := [7]) (by kernel_rfl) (by simp) ?_
    refine AllReady.cons rfl (fun K hK => ?_) AllReady.nil
    go_simp
    refine hK _ _ ?_
    clear hK K
    refine wpAny_ready (rs := [8]) (by kernel_rfl) (by simp) ?_
    refine AllReady.cons rfl (fun K hK => ?_) AllReady.nil
    go_simp
    refine hK _ _ ?_
    clear hK K
    refine wpAny_done (by kernel_rfl) ?_ _
    exact ⟨rfl, _, rfl, _, results_none rfl _ _ _, rfl, rfl, HE2.out.put _ _, O2.sets ((Below.refl w.heap.size w).drew.trans HB2.out) _ _⟩
set_option maxHeartbeats 4000000 in
theorem wstate_any (sb p1 p2 p3 : Nat) (a1 a2 a3 : Option Addr) (s : Sx) (w : World) {wb most : Nat} {v : Value} {l : List UInt8} (h : WR w wb v l most) (hm : most ≤ 1000000000) (m : SxM w wb sb s a1 p1 a2 p2 a3 p3) :
    Calls Try.prog 36 #[iw wb, .pointer (some ⟨sb, 0, none⟩)] w fun e w' => Wp wb v l most (84 :: sxB s) (.returned (.tuple #[])) w e w' := by
  have hmf : ∀ (fn : Fn) (first cap : Array Value) (w : World), (Instr.makeFunc fn first cap).run Try.prog w = .ok (.func fn first cap) w := fun _ _ _ _ => rfl
  obtain ⟨cb, hcbd⟩ : ∃ cb, w.heap.size = cb := ⟨_, rfl⟩
  obtain ⟨W, hW⟩ : ∃ W, w.alloc (.cells #[iw wb] 129) = W := ⟨_, rfl⟩
  have hB : Below w.heap.size w W := by rw [← hW]; exact (Below.refl _ _).alloc (Nat.le_refl _) _
  have hws := WS.below (wb := wb) (v := v) hB
  have HS0 := hid hws
  have HR0 := hid (h.later hB)
  have HM0 := hid (m.old hws h)
  have HCB0 := hid (show W.cell? ⟨cb, 0, none⟩ = some (iw wb) by rw [← hW, ← hcbd, cell_of_row _ _ _ _ _ _ (heap_alloc_new w _)]; rfl)
  have HCW0 := hid (show cb ≠ wb ∧ v.ownBlock ≠ some cb by rw [← hcbd]; exact h.box)
  obtain ⟨X, hX⟩ : ∃ X, sxB s = X := ⟨_, rfl⟩
  rw [hX]
  have HX := hid hX
  have HC := hid (show Calls Try.prog 111 #[.pointer (some ⟨wb, 0, none⟩), .int .u8 84] W fun e w' => Wp wb v l most [84] (.returned (.tuple #[])) W e w' from wkey_any 84 W HR0.out hm)
  have hcb := HCB0.out
  have hme := me_key
  clear h m hB hws hX
  go_enter Try.func36, Try.ntmps36
  go_wp2_with fail
  try rw [hW]
  refine Calls.mono HC.out ?_
  rintro e w1 ⟨v1, hs, ⟨hf1, rfl, hr⟩ | ⟨hf, rfl⟩⟩
  rotate_left
  · go_wp2_with fail
    refine ⟨rfl, v1, HS0.out.trans hs, .inr ⟨?_, rfl⟩⟩
    simp only [List.length_cons, List.length_nil] at *
    omega
  have HS1 := hid (HS0.out.trans hs)
  have HR1 := hid hr
  have HM1 := hid (HM0.out.old hs HR0.out)
  have hw0 : cb < W.heap.size := World.block_lt_of_cell? _ _ HCB0.out
  have HCB1 := hid (Wp.cell hs cb 0 _ HCB0.out HCW0.out.1 HCW0.out.2)
  have HCW1 := hid (show cb ≠ wb ∧ v1.ownBlock ≠ some cb from ⟨HCW0.out.1, fun e => by
    rcases hs.own cb e with e | e
    · exact HCW0.out.2 e
    · have e : W.heap.size ≤ cb := e
      omega⟩)
  clear hs hr HC HS0 HR0 HM0 HCB0 HCW0 hcb hw0
  clear hme hW
  have hcb := HCB1.out
  have HC := hid (fun q => wwhole_any ⟨sb, 0, none⟩ s.room (w1.drewN q) (most := most) (v := v1) (wb := wb) HR1.out hm HM1.out.c0 HM1.out.ok.b0.1 HM1.out.ok.b0.2)
  have hna := na_whole wb
  have hme := me_whole
  go_wp2_with fail
  refine wp_region_any (by kernel_rfl) ?_
  try (change wpAny _ _ _ _ _ _ _ (World.drew _))
  refine wpAny_take (i := 1) (v := .pointer (some ⟨sb, 0, none⟩)) rfl (by kernel_rfl) (by kernel_rfl) (by kernel_rfl) (fun _ _ _ h => h) (Or.inl ⟨by rfl, by intro w; go_simp⟩) ?_
  refine wpAny_take (i := 2) (v := .pointer (some ⟨sb, 0, none⟩)) rfl (by kernel_rfl) (by kernel_rfl) (by kernel_rfl) (fun _ _ _ h => h) (Or.inl ⟨by rfl, by intro w; go_simp⟩) ?_
  refine wpAny_take (i := 3) (v := .pointer (some ⟨sb, 0, none⟩)) rfl (by kernel_rfl) (by kernel_rfl) (by kernel_rfl) (fun _ _ _ h => h) (Or.inl ⟨by rfl, by intro w; go_simp⟩) ?_
  refine wpAny_ready (rs := [0]) (by kernel_rfl) (by simp) ?_
  refine AllReady.cons rfl (fun K hK => ?_) AllReady.nil
  go_simp
  refine hK _ _ ?_
  clear hK K
  refine wpAny_ready (rs := [4]) (by kernel_rfl) (by simp) ?_
  refine AllReady.cons rfl (fun K hK => ?_) AllReady.nil
  go_simp
  refine hK _ _ ?_
  clear hK K
  refine wpAny_take (i := 5) (v := .func (.method "larder/codec.whole") #[iw wb] #[]) rfl (by kernel_rfl) (by kernel_rfl) (by kernel_rfl) (fun _ _ _ h => h) (Or.inl ⟨by rfl, by intro w; go_simp⟩) ?_
  refine wpAny_take (i := 6) (v := iw wb) rfl (by kernel_rfl) (by kernel_rfl) (by kernel_rfl) (fun _ _ _ h => h) (Or.inl ⟨by rfl, by intro w; go_simp⟩) ?_
  refine wpAny_ready (rs := [7]) (by kernel_rfl) (by simp) ?_
  refine AllReady.cons rfl (fun K hK => ?_) AllReady.nil
  go_simp
  go_wp2_with fail
  refine (HC.out _).mono ?_
  rintro e w2 ⟨v2, hs, ⟨hf2, rfl, hr⟩ | ⟨hf, rfl⟩⟩
  rotate_left
  · go_wp2_with fail
    refine ⟨rfl, v2, HS1.out.trans ((WS.drewN wb v1 w1 1).trans hs), .inr ⟨?_, rfl⟩⟩
    have hx := congrArg List.length HX.out
    unfold sxB at hx
    simp only [List.length_append, List.length_cons, List.length_nil] at *
    omega
  go_wp2_with fail
  refine wpAny_done (by kernel_rfl) ?_ _
  have HS2 := hid (HS1.out.trans ((WS.drewN wb v1 w1 1).trans hs))
  have HR2 := hid hr
  have HM2 := hid (HM1.out.old ((WS.drewN wb v1 w1 1).trans hs) HR1.out)
  have hw0 : cb < w1.heap.size := World.block_lt_of_cell? _ _ HCB1.out
  have HCB2 := hid (Wp.cell hs cb 0 _ HCB1.out HCW1.out.1 HCW1.out.2)
  have HCW2 := hid (show cb ≠ wb ∧ v2.ownBlock ≠ some cb from ⟨HCW1.out.1, fun e => by
    rcases hs.own cb e with e | e
    · exact HCW1.out.2 e
    · have e : w1.heap.size ≤ cb := e
      omega⟩)
  clear hs hr HC HS1 HR1 HM1 HCB1 HCW1 hcb hw0
  clear hna hme
  have hcb := HCB2.out
  have HC := hid (fun q => wwhole_any ⟨sb, 1, none⟩ s.lsn (w2.drewN q) (most := most) (v := v2) (wb := wb) HR2.out hm HM2.out.c1 HM2.out.ok.b1.1 HM2.out.ok.b1.2)
  have hna := na_whole wb
  have hme := me_whole
  go_wp2_with fail
  refine wp_region_any (by kernel_rfl) ?_
  try (change wpAny _ _ _ _ _ _ _ (World.drew _))
  refine wpAny_take (i := 1) (v := .pointer (some ⟨sb, 0, none⟩)) rfl (by kernel_rfl) (by kernel_rfl) (by kernel_rfl) (fun _ _ _ h => h) (Or.inl ⟨by rfl, by intro w; go_simp⟩) ?_
  refine wpAny_take (i := 2) (v := .pointer (some ⟨sb, 0, none⟩)) rfl (by kernel_rfl) (by kernel_rfl) (by kernel_rfl) (fun _ _ _ h => h) (Or.inl ⟨by rfl, by intro w; go_simp⟩) ?_
  refine wpAny_take (i := 3) (v := .pointer (some ⟨sb, 1, none⟩)) rfl (by kernel_rfl) (by kernel_rfl) (by kernel_rfl) (fun _ _ _ h => h) (Or.inl ⟨by rfl, by intro w; go_simp⟩) ?_
  refine wpAny_ready (rs := [0]) (by kernel_rfl) (by simp) ?_
  refine AllReady.cons rfl (fun K hK => ?_) AllReady.nil
  go_simp
  refine hK _ _ ?_
  clear hK K
  refine wpAny_ready (rs := [4]) (by kernel_rfl) (by simp) ?_
  refine AllReady.cons rfl (fun K hK => ?_) AllReady.nil
  go_simp
  refine hK _ _ ?_
  clear hK K
  refine wpAny_take (i := 5) (v := .func (.method "larder/codec.whole") #[iw wb] #[]) rfl (by kernel_rfl) (by kernel_rfl) (by kernel_rfl) (fun _ _ _ h => h) (Or.inl ⟨by rfl, by intro w; go_simp⟩) ?_
  refine wpAny_take (i := 6) (v := iw wb) rfl (by kernel_rfl) (by kernel_rfl) (by kernel_rfl) (fun _ _ _ h => h) (Or.inl ⟨by rfl, by intro w; go_simp⟩) ?_
  refine wpAny_ready (rs := [7]) (by kernel_rfl) (by simp) ?_
  refine AllReady.cons rfl (fun K hK => ?_) AllReady.nil
  go_simp
  go_wp2_with fail
  refine (HC.out _).mono ?_
  rintro e w3 ⟨v3, hs, ⟨hf3, rfl, hr⟩ | ⟨hf, rfl⟩⟩
  rotate_left
  · go_wp2_with fail
    refine ⟨rfl, v3, HS2.out.trans ((WS.drewN wb v2 w2 1).trans hs), .inr ⟨?_, rfl⟩⟩
    have hx := congrArg List.length HX.out
    unfold sxB at hx
    simp only [List.length_append, List.length_cons, List.length_nil] at *
    omega
  go_wp2_with fail
  refine wpAny_done (by kernel_rfl) ?_ _
  have HS3 := hid (HS2.out.trans ((WS.drewN wb v2 w2 1).trans hs))
  have HR3 := hid hr
  have HM3 := hid (HM2.out.old ((WS.drewN wb v2 w2 1).trans hs) HR2.out)
  have hw0 : cb < w2.heap.size := World.block_lt_of_cell? _ _ HCB2.out
  have HCB3 := hid (Wp.cell hs cb 0 _ HCB2.out HCW2.out.1 HCW2.out.2)
  have HCW3 := hid (show cb ≠ wb ∧ v3.ownBlock ≠ some cb from ⟨HCW2.out.1, fun e => by
    rcases hs.own cb e with e | e
    · exact HCW2.out.2 e
    · have e : w2.heap.size ≤ cb := e
      omega⟩)
  clear hs hr HC HS2 HR2 HM2 HCB2 HCW2 hcb hw0
  clear hna hme
  have hcb := HCB3.out
  have HC := hid (fun q => wwhole_any ⟨sb, 2, none⟩ s.now (w3.drewN q) (most := most) (v := v3) (wb := wb) HR3.out hm HM3.out.c2 HM3.out.ok.b2.1 HM3.out.ok.b2.2)
  have hna := na_whole wb
  have hme := me_whole
  go_wp2_with fail
  refine wp_region_any (by kernel_rfl) ?_
  try (change wpAny _ _ _ _ _ _ _ (World.drew _))
  refine wpAny_take (i := 1) (v := .pointer (some ⟨sb, 0, none⟩)) rfl (by kernel_rfl) (by kernel_rfl) (by kernel_rfl) (fun _ _ _ h => h) (Or.inl ⟨by rfl, by intro w; go_simp⟩) ?_
  refine wpAny_take (i := 2) (v := .pointer (some ⟨sb, 0, none⟩)) rfl (by kernel_rfl) (by kernel_rfl) (by kernel_rfl) (fun _ _ _ h => h) (Or.inl ⟨by rfl, by intro w; go_simp⟩) ?_
  refine wpAny_take (i := 3) (v := .pointer (some ⟨sb, 2, none⟩)) rfl (by kernel_rfl) (by kernel_rfl) (by kernel_rfl) (fun _ _ _ h => h) (Or.inl ⟨by rfl, by intro w; go_simp⟩) ?_
  refine wpAny_ready (rs := [0]) (by kernel_rfl) (by simp) ?_
  refine AllReady.cons rfl (fun K hK => ?_) AllReady.nil
  go_simp
  refine hK _ _ ?_
  clear hK K
  refine wpAny_ready (rs := [4]) (by kernel_rfl) (by simp) ?_
  refine AllReady.cons rfl (fun K hK => ?_) AllReady.nil
  go_simp
  refine hK _ _ ?_
  clear hK K
  refine wpAny_take (i := 5) (v := .func (.method "larder/codec.whole") #[iw wb] #[]) rfl (by kernel_rfl) (by kernel_rfl) (by kernel_rfl) (fun _ _ _ h => h) (Or.inl ⟨by rfl, by intro w; go_simp⟩) ?_
  refine wpAny_take (i := 6) (v := iw wb) rfl (by kernel_rfl) (by kernel_rfl) (by kernel_rfl) (fun _ _ _ h => h) (Or.inl ⟨by rfl, by intro w; go_simp⟩) ?_
  refine wpAny_ready (rs := [7]) (by kernel_rfl) (by simp) ?_
  refine AllReady.cons rfl (fun K hK => ?_) AllReady.nil
  go_simp
  go_wp2_with fail
  refine (HC.out _).mono ?_
  rintro e w4 ⟨v4, hs, ⟨hf4, rfl, hr⟩ | ⟨hf, rfl⟩⟩
  rotate_left
  · go_wp2_with fail
    refine ⟨rfl, v4, HS3.out.trans ((WS.drewN wb v3 w3 1).trans hs), .inr ⟨?_, rfl⟩⟩
    have hx := congrArg List.length HX.out
    unfold sxB at hx
    simp only [List.length_append, List.length_cons, List.length_nil] at *
    omega
  go_wp2_with fail
  refine wpAny_done (by kernel_rfl) ?_ _
  have HS4 := hid (HS3.out.trans ((WS.drewN wb v3 w3 1).trans hs))
  have HR4 := hid hr
  have HM4 := hid (HM3.out.old ((WS.drewN wb v3 w3 1).trans hs) HR3.out)
  have hw0 : cb < w3.heap.size := World.block_lt_of_cell? _ _ HCB3.out
  have HCB4 := hid (Wp.cell hs cb 0 _ HCB3.out HCW3.out.1 HCW3.out.2)
  have HCW4 := hid (show cb ≠ wb ∧ v4.ownBlock ≠ some cb from ⟨HCW3.out.1, fun e => by
    rcases hs.own cb e with e | e
    · exact HCW3.out.2 e
    · have e : w3.heap.size ≤ cb := e
      omega⟩)
  clear hs hr HC HS3 HR3 HM3 HCB3 HCW3 hcb hw0
  clear hna hme
  have hcb := HCB4.out
  have HC := hid (fun q => wlevels_any sb 3 p1 a1 s.levels (w4.drewN q) (most := most) (v := v4) (wb := wb) HR4.out hm HM4.out.c3 HM4.out.ahead HM4.out.ok.b3 (HM4.out.l1.old (WS.drewN wb v4 w4 q) HR4.out))
  go_wp2_with fail
  refine wp_region_any (by kernel_rfl) ?_
  try (change wpAny _ _ _ _ _ _ _ (World.drew _))
  refine wpAny_take (i := 1) (v := .pointer (some ⟨sb, 0, none⟩)) rfl (by kernel_rfl) (by kernel_rfl) (by kernel_rfl) (fun _ _ _ h => h) (Or.inl ⟨by rfl, by intro w; go_simp⟩) ?_
  refine wpAny_take (i := 2) (v := .pointer (some ⟨sb, 0, none⟩)) rfl (by kernel_rfl) (by kernel_rfl) (by kernel_rfl) (fun _ _ _ h => h) (Or.inl ⟨by rfl, by intro w; go_simp⟩) ?_
  refine wpAny_take (i := 3) (v := .pointer (some ⟨sb, 3, none⟩)) rfl (by kernel_rfl) (by kernel_rfl) (by kernel_rfl) (fun _ _ _ h => h) (Or.inl ⟨by rfl, by intro w; go_simp⟩) ?_
  refine wpAny_ready (rs := [0]) (by kernel_rfl) (by simp) ?_
  refine AllReady.cons rfl (fun K hK => ?_) AllReady.nil
  go_simp
  refine hK _ _ ?_
  clear hK K
  refine wpAny_ready (rs := [4]) (by kernel_rfl) (by simp) ?_
  refine AllReady.cons rfl (fun K hK => ?_) AllReady.nil
  go_simp
  go_wp2_with fail
  refine (HC.out _).mono ?_
  rintro e w5 ⟨v5, hs, ⟨hf5, rfl, hr⟩ | ⟨hf, rfl⟩⟩
  rotate_left
  · go_wp2_with fail
    refine ⟨rfl, v5, HS4.out.trans ((WS.drewN wb v4 w4 1).trans hs), .inr ⟨?_, rfl⟩⟩
    have hx := congrArg List.length HX.out
    unfold sxB at hx
    simp only [List.length_append, List.length_cons, List.length_nil] at *
    omega
  go_wp2_with fail
  refine wpAny_done (by kernel_rfl) ?_ _
  have HS5 := hid (HS4.out.trans ((WS.drewN wb v4 w4 1).trans hs))
  have HR5 := hid hr
  have HM5 := hid (HM4.out.old ((WS.drewN wb v4 w4 1).trans hs) HR4.out)
  have hw0 : cb < w4.heap.size := World.block_lt_of_cell? _ _ HCB4.out
  have HCB5 := hid (Wp.cell hs cb 0 _ HCB4.out HCW4.out.1 HCW4.out.2)
  have HCW5 := hid (show cb ≠ wb ∧ v5.ownBlock ≠ some cb from ⟨HCW4.out.1, fun e => by
    rcases hs.own cb e with e | e
    · exact HCW4.out.2 e
    · have e : w4.heap.size ≤ cb := e
      omega⟩)
  clear hs hr HC HS4 HR4 HM4 HCB4 HCW4 hcb hw0
  have hcb := HCB5.out
  have HC := hid (fun q => wheldlist_any sb 4 cb p2 a2 s.holds (w5.drewN q) (most := most) (v := v5) (wb := wb) HR5.out hm HCB5.out HCW5.out HM5.out.c4 HM5.out.ahead HM5.out.ok.b4 (HM5.out.l2.old (WS.drewN wb v5 w5 q) HR5.out))
  go_wp2_with fail
  refine wp_region_any (by kernel_rfl) ?_
  try (change wpAny _ _ _ _ _ _ _ (World.drew _))
  refine wpAny_take (i := 1) (v := .pointer (some ⟨sb, 0, none⟩)) rfl (by kernel_rfl) (by kernel_rfl) (by kernel_rfl) (fun _ _ _ h => h) (Or.inl ⟨by rfl, by intro w; go_simp⟩) ?_
  refine wpAny_take (i := 2) (v := .pointer (some ⟨sb, 0, none⟩)) rfl (by kernel_rfl) (by kernel_rfl) (by kernel_rfl) (fun _ _ _ h => h) (Or.inl ⟨by rfl, by intro w; go_simp⟩) ?_
  refine wpAny_take (i := 3) (v := .pointer (some ⟨sb, 4, none⟩)) rfl (by kernel_rfl) (by kernel_rfl) (by kernel_rfl) (fun _ _ _ h => h) (Or.inl ⟨by rfl, by intro w; go_simp⟩) ?_
  refine wpAny_take (i := 4) (v := .func (.func 75) #[] #[.pointer (some ⟨cb, 0, none⟩)]) rfl (by kernel_rfl) (by kernel_rfl) (by kernel_rfl) (fun _ _ _ h => h) (Or.inl ⟨by rfl, by intro w; go_simp⟩) ?_
  refine wpAny_ready (rs := [0]) (by kernel_rfl) (by simp) ?_
  refine AllReady.cons rfl (fun K hK => ?_) AllReady.nil
  go_simp
  refine hK _ _ ?_
  clear hK K
  refine wpAny_ready (rs := [5]) (by kernel_rfl) (by simp) ?_
  refine AllReady.cons rfl (fun K hK => ?_) AllReady.nil
  go_simp
  go_wp2_with fail
  refine (HC.out _).mono ?_
  rintro e w6 ⟨v6, hs, ⟨hf6, rfl, hr⟩ | ⟨hf, rfl⟩⟩
  rotate_left
  · go_wp2_with fail
    refine ⟨rfl, v6, HS5.out.trans ((WS.drewN wb v5 w5 1).trans hs), .inr ⟨?_, rfl⟩⟩
    have hx := congrArg List.length HX.out
    unfold sxB at hx
    simp only [List.length_append, List.length_cons, List.length_nil] at *
    omega
  go_wp2_with fail
  refine wpAny_done (by kernel_rfl) ?_ _
  have HS6 := hid (HS5.out.trans ((WS.drewN wb v5 w5 1).trans hs))
  have HR6 := hid hr
  have HM6 := hid (HM5.out.old ((WS.drewN wb v5 w5 1).trans hs) HR5.out)
  have hw0 : cb < w5.heap.size := World.block_lt_of_cell? _ _ HCB5.out
  have HCB6 := hid (Wp.cell hs cb 0 _ HCB5.out HCW5.out.1 HCW5.out.2)
  have HCW6 := hid (show cb ≠ wb ∧ v6.ownBlock ≠ some cb from ⟨HCW5.out.1, fun e => by
    rcases hs.own cb e with e | e
    · exact HCW5.out.2 e
    · have e : w5.heap.size ≤ cb := e
      omega⟩)
  clear hs hr HC HS5 HR5 HM5 HCB5 HCW5 hcb hw0
  have hcb := HCB6.out
  have HC := hid (fun q => wdonelist_any sb 5 cb p3 a3 s.done (w6.drewN q) (most := most) (v := v6) (wb := wb) HR6.out hm HCB6.out HCW6.out HM6.out.c5 HM6.out.ahead HM6.out.ok.b5 (HM6.out.l3.old (WS.drewN wb v6 w6 q) HR6.out))
  go_wp2_with fail
  refine wp_region_any (by kernel_rfl) ?_
  try (change wpAny _ _ _ _ _ _ _ (World.drew _))
  refine wpAny_take (i := 1) (v := .pointer (some ⟨sb, 0, none⟩)) rfl (by kernel_rfl) (by kernel_rfl) (by kernel_rfl) (fun _ _ _ h => h) (Or.inl ⟨by rfl, by intro w; go_simp⟩) ?_
  refine wpAny_take (i := 2) (v := .pointer (some ⟨sb, 0, none⟩)) rfl (by kernel_rfl) (by kernel_rfl) (by kernel_rfl) (fun _ _ _ h => h) (Or.inl ⟨by rfl, by intro w; go_simp⟩) ?_
  refine wpAny_take (i := 3) (v := .pointer (some ⟨sb, 5, none⟩)) rfl (by kernel_rfl) (by kernel_rfl) (by kernel_rfl) (fun _ _ _ h => h) (Or.inl ⟨by rfl, by intro w; go_simp⟩) ?_
  refine wpAny_take (i := 4) (v := .func (.func 78) #[] #[.pointer (some ⟨cb, 0, none⟩)]) rfl (by kernel_rfl) (by kernel_rfl) (by kernel_rfl) (fun _ _ _ h => h) (Or.inl ⟨by rfl, by intro w; go_simp⟩) ?_
  refine wpAny_ready (rs := [0]) (by kernel_rfl) (by simp) ?_
  refine AllReady.cons rfl (fun K hK => ?_) AllReady.nil
  go_simp
  refine hK _ _ ?_
  clear hK K
  refine wpAny_ready (rs := [5]) (by kernel_rfl) (by simp) ?_
  refine AllReady.cons rfl (fun K hK => ?_) AllReady.nil
  go_simp
  go_wp2_with fail
  refine (HC.out _).mono ?_
  rintro e w7 ⟨v7, hs, ⟨hf7, rfl, hr⟩ | ⟨hf, rfl⟩⟩
  rotate_left
  · go_wp2_with fail
    refine ⟨rfl, v7, HS6.out.trans ((WS.drewN wb v6 w6 1).trans hs), .inr ⟨?_, rfl⟩⟩
    have hx := congrArg List.length HX.out
    unfold sxB at hx
    simp only [List.length_append, List.length_cons, List.length_nil] at *
    omega
  go_wp2_with fail
  refine wpAny_done (by kernel_rfl) ?_ _
  have HS7 := hid (HS6.out.trans ((WS.drewN wb v6 w6 1).trans hs))
  have HR7 := hid hr
  have HM7 := hid (HM6.out.old ((WS.drewN wb v6 w6 1).trans hs) HR6.out)
  have hw0 : cb < w6.heap.size := World.block_lt_of_cell? _ _ HCB6.out
  have HCB7 := hid (Wp.cell hs cb 0 _ HCB6.out HCW6.out.1 HCW6.out.2)
  have HCW7 := hid (show cb ≠ wb ∧ v7.ownBlock ≠ some cb from ⟨HCW6.out.1, fun e => by
    rcases hs.own cb e with e | e
    · exact HCW6.out.2 e
    · have e : w6.heap.size ≤ cb := e
      omega⟩)
  clear hs hr HC HS6 HR6 HM6 HCB6 HCW6 hcb hw0
  go_wp2_with fail
  go_end0
  refine ⟨v7, HS7.out, .inl ⟨?_, rfl, ?_⟩⟩
  · have hx := congrArg List.length HX.out
    unfold sxB at hx
    simp only [List.length_append, List.length_cons, List.length_nil] at *
    omega
  · have hr := HR7.out
    rw [← HX.out]
    unfold sxB
    simp only [List.append_assoc, List.cons_append, List.nil_append] at hr ⊢
    exact hr
/-- a state as a value -/
def sxV (s : Sx) (a1 : Option Addr) (p1 : Nat) (a2 : Option Addr) (p2 : Nat) (a3 : Option Addr) (p3 : Nat) : Value := .agg #[.int .i64 s.room, .int .i64 s.lsn, .int .i64 s.now, .slice a1 s.levels.length p1, .slice a2 s.holds.length p2, .slice a3 s.done.length p3]
set_option maxHeartbeats 2000000 in
theorem putState_any (s : Sx) (a1 a2 a3 : Option Addr) (p1 p2 p3 : Nat) (w : World) (ho : SxOk s) (h1 : LV w w.heap.size a1 s.levels) (h2 : HLs w w.heap.size a2 s.holds) (h3 : DLs w w.heap.size a3 s.done) :
    Calls Try.prog 10 #[sxV s a1 p1 a2 p2 a3 p3] w fun e w' => Wrt (84 :: sxB s) 131072 w e w' := by
  obtain ⟨M, hM⟩ : ∃ M, sxB s = M := ⟨_, rfl⟩
  rw [hM]
  have hmf : ∀ (fn : Fn) (first cap : Array Value) (w : World), (Instr.makeFunc fn first cap).run Try.prog w = .ok (.func fn first cap) w := fun _ _ _ _ => rfl
  unfold sxV
  obtain ⟨W1, hW1⟩ : ∃ W1, w.alloc (.cells #[.int .i64 s.room, .int .i64 s.lsn, .int .i64 s.now, .slice a1 s.levels.length p1, .slice a2 s.holds.length p2, .slice a3 s.done.length p3] 32) = W1 := ⟨_, rfl⟩
  obtain ⟨W2, hW2⟩ : ∃ W2, W1.alloc (.cells #[.slice none 0 0] 47) = W2 := ⟨_, rfl⟩
  obtain ⟨W3, hW3⟩ : ∃ W3, W2.alloc (.cells #[.int .i64 0] 25) = W3 := ⟨_, rfl⟩
  obtain ⟨W4, hW4⟩ : ∃ W4, W3.alloc (.cells #[.slice none 0 0, .int .i64 131072] 86) = W4 := ⟨_, rfl⟩
  have z1 : W1.heap.size = w.heap.size + 1 := by rw [← hW1, World.size_alloc]
  have z2 : W2.heap.size = w.heap.size + 2 := by rw [← hW2, World.size_alloc, z1]
  have z3 : W3.heap.size = w.heap.size + 3 := by rw [← hW3, World.size_alloc, z2]
  have hb1 : Below w.heap.size w W1 := by rw [← hW1]; exact (Below.refl _ _).alloc (Nat.le_refl _) _
  have hb2 : Below W1.heap.size W1 W2 := by rw [← hW2]; exact (Below.refl _ _).alloc (Nat.le_refl _) _
  have hb3 : Below W2.heap.size W2 W3 := by rw [← hW3]; exact (Below.refl _ _).alloc (Nat.le_refl _) _
  have hb4 : Below W3.heap.size W3 W4 := by rw [← hW4]; exact (Below.refl _ _).alloc (Nat.le_refl _) _
  have b24 : Below W2.heap.size W2 W4 := hb3.trans (hb4.mono (by omega))
  have b14 : Below W1.heap.size W1 W4 := hb2.trans (b24.mono (by omega))
  have b04 : Below w.heap.size w W4 := hb1.trans (b14.mono (by omega))
  have hrq : W4.heap[w.heap.size]? = some (.cells #[.int .i64 s.room, .int .i64 s.lsn, .int .i64 s.now, .slice a1 s.levels.length p1, .slice a2 s.holds.length p2, .slice a3 s.done.length p3] 32 (0, 0)) := (b14.block _ (by omega)).trans (by rw [← hW1]; exact heap_alloc_new w _)
  have HM := hid (show SxM W4 (w.heap.size + 3) w.heap.size s a1 p1 a2 p2 a3 p3 from ⟨by omega, by rw [cell_of_row _ _ _ _ _ _ hrq]; rfl, by rw [cell_of_row _ _ _ _ _ _ hrq]; rfl, by rw [cell_of_row _ _ _ _ _ _ hrq]; rfl, by rw [cell_of_row _ _ _ _ _ _ hrq]; rfl, by rw [cell_of_row _ _ _ _ _ _ hrq]; rfl, by rw [cell_of_row _ _ _ _ _ _ hrq]; rfl, h1.below b04 (by omega), h2.below b04 (by omega), h3.below b04 (by omega), ho⟩)
  have HBE := hid (show BE W4 (w.heap.size + 1) (w.heap.size + 2) (.slice none 0 0) 0 from ⟨(b24.block _ (by omega)).trans (by rw [← hW2, ← z1]; exact heap_alloc_new W1 _), (hb4.block _ (by omega)).trans (by rw [← hW3, ← z2]; exact heap_alloc_new W2 _), by omega⟩)
  have HWR := hid (show WR W4 (w.heap.size + 3) (.slice none 0 0) [] 131072 from ⟨by rw [← hW4, ← z3]; exact heap_alloc_new W3 _, Owns.nil _ _⟩)
  have HRe := hid (wstate_any w.heap.size p1 p2 p3 a1 a2 a3 s W4 HWR.out (by omega) HM.out)
  rw [hM] at HRe
  have B4 := hid b04
  clear hb1 hb2 hb3 hb4 b24 b14 b04 hrq h1 h2 h3 ho
  go_enter_defers Try.func10, Try.ntmps10
  go_wp2_with fail
  refine Calls.mono HRe.out ?_
  rintro e w5 ⟨v5, hs, ⟨hf, rfl, hr⟩ | ⟨hf, rfl⟩⟩
  · have hbe : BE w5 (w.heap.size + 1) (w.heap.size + 2) (.slice none 0 0) 0 := ⟨(hs.block _ (Array.getElem?_eq_some_iff.1 HBE.out.1).1 (by omega) (by simp [Value.ownBlock])).trans HBE.out.1, (hs.block _ (Array.getElem?_eq_some_iff.1 HBE.out.2.1).1 (by omega) (by simp [Value.ownBlock])).trans HBE.out.2.1, by omega⟩
    have HB5 := hid hbe
    have HR5 := hid hr
    have HS5 := hid hs
    have c0 : w5.cell? ⟨w.heap.size + 3, 0, none⟩ = some v5 := by rw [Lib.cell_of_heap hr.1]; rfl
    have k0 : w5.cell? ⟨w.heap.size + 1, 0, none⟩ = some (.slice none 0 0) := by rw [Lib.cell_of_heap hbe.1]; rfl
    have k1 : w5.cell? ⟨w.heap.size + 2, 0, none⟩ = some (.int .i64 0) := by rw [Lib.cell_of_heap hbe.2.1]; rfl
    have f0 : w5.frozen? ⟨w.heap.size + 1, 0, none⟩ = false := Lib.frozen_of_heap hbe.1 0
    have f1 : w5.frozen? ⟨w.heap.size + 2, 0, none⟩ = false := Lib.frozen_of_heap hbe.2.1 0
    obtain ⟨ao5, cap5, hv5⟩ := hr.2.reads.form
    clear hbe hr hs HRe
    subst hv5
    go_wp2_with fail
    refine leaves_cons (f := 35) (args := #[.pointer (some ⟨w.heap.size + 1, 0, none⟩), .pointer (some ⟨w.heap.size + 2, 0, none⟩)]) (by simp) (by simp [go_sem]) ?_
    refine (dSta_nil (w.heap.size + 1) (w.heap.size + 2) _ 0 _ (HB5.out.put _ 0) ⟨_, _, _, rfl⟩).mono ?_
    rintro e u' w6 ⟨rfl, rfl, hbe, ho2⟩
    have q0 : w6.cell? ⟨w.heap.size + 1, 0, none⟩ = some (.slice ao5 (M.length + 1) cap5) := by rw [Lib.cell_of_heap hbe.1]; rfl
    have q1 : w6.cell? ⟨w.heap.size + 2, 0, none⟩ = some (.int .i64 0) := by rw [Lib.cell_of_heap hbe.2.1]; rfl
    have hO5 : Owns w5 (w.heap.size + 4) (.slice ao5 (M.length + 1) cap5) (84 :: M) := HR5.out.2
    have hO6 := ho2.own (ownsRow_setCell_below (ownsRow_setCell_below hO5 (by show w.heap.size + 1 < _; omega) _) (by show w.heap.size + 2 < _; omega) _) (by omega) (by omega)
    have hz := B4.out.size
    have hz4 := HS5.out.size
    have B5 := B4.out.trans (HS5.out.lower HWR.out (show w.heap.size ≤ w.heap.size + 3 by omega))
    have B6 := ((B5.setCell (show w.heap.size ≤ w.heap.size + 1 by omega) (.slice ao5 (M.length + 1) cap5)).setCell (show w.heap.size ≤ w.heap.size + 2 by omega) (.int .i64 0)).trans (ho2.below (by omega) (by omega) (by simp; omega))
    have HW := hid (Wrt.yes (m := 84 :: M) (most := 131072) (by simpa using hf) (hO6.mono (by omega)) B6)
    clear hO5 hO6 B5 B6 hbe ho2
    simp [Leaves, settle, results, Try.results10, go_sem, q0, q1]
    exact HW.out
  · have hbe : BE w5 (w.heap.size + 1) (w.heap.size + 2) (.slice none 0 0) 0 := ⟨(hs.block _ (Array.getElem?_eq_some_iff.1 HBE.out.1).1 (by omega) (by simp [Value.ownBlock])).trans HBE.out.1, (hs.block _ (Array.getElem?_eq_some_iff.1 HBE.out.2.1).1 (by omega) (by simp [Value.ownBlock])).trans HBE.out.2.1, by omega⟩
    have HB5 := hid hbe
    have HS5 := hid hs
    clear hbe hs HRe
    go_wp2_with fail
    refine leaves_cons (f := 35) (args := #[.pointer (some ⟨w.heap.size + 1, 0, none⟩), .pointer (some ⟨w.heap.size + 2, 0, none⟩)]) (by simp) (by simp [go_sem]) ?_
    refine (dSta_flt (w.heap.size + 1) (w.heap.size + 2) _ 0 1 0 [] _ HB5.out ⟨_, _, _, rfl⟩).mono ?_
    rintro e u' w6 ⟨rfl, rfl, hbe, ho2⟩
    have q0 : w6.cell? ⟨w.heap.size + 1, 0, none⟩ = some (.slice none 0 0) := by rw [Lib.cell_of_heap hbe.1]; rfl
    have q1 : w6.cell? ⟨w.heap.size + 2, 0, none⟩ = some (.int .i64 1) := by rw [Lib.cell_of_heap hbe.2.1]; rfl
    have hz := B4.out.size
    have hz4 := HS5.out.size
    have B5 := B4.out.trans (HS5.out.lower HWR.out (show w.heap.size ≤ w.heap.size + 3 by omega))
    have B6 := B5.trans (ho2.below (by omega) (by omega) (by omega))
    have HW := hid (Wrt.no (m := 84 :: M) (most := 131072) (by simp at hf ⊢; omega) B6)
    clear B5 B6 hbe ho2
    simp [Leaves, settle, results, Try.results10, go_sem, q0, q1]
    exact HW.out
end Go.Proofs.Ytfhicemfhkhjaab
