/-
  codec, the document's: PutRecord, Record, SameRecord. Laid by mkrd1.py.
-/
import Derived.Test.YtfhicemfhkhjaaaRc4
import Derived.Test.YtfhicemfhkhjaaaLawCRq
namespace Go.Proofs.Ytfhicemfhkhjaaa
open Go.RowKit
set_option maxRecDepth 100000

set_option maxHeartbeats 1000000 in
theorem rputRecord_any (x : Int) (r : Rq) (ao : Option Addr) (cap B : Nat) (w : World) (x0 : -9223372036854775808 ≤ x) (x1 : x ≤ 9223372036854775807) (ho : RqOk r) (hL : LL w B ao r.lines) (hl : (rqB r).length ≤ 10000000000000) :
    Calls Try.prog 36 #[rcV x r ao cap] w fun e w' => Wrt (83 :: (grp (foldI x) ++ rqB r)) 4096 w e w' := by
  obtain ⟨M, hM⟩ : ∃ M, 83 :: (grp (foldI x) ++ rqB r) = M := ⟨_, rfl⟩
  rw [hM]
  have HM := hid hM
  clear hM
  obtain ⟨W, hW⟩ : ∃ W, w.alloc (.cells #[.int .i64 x, .string r.id, .int .i64 r.kind, .slice ao r.lines.length cap, .string r.hold, .int .i64 r.ttl, .int .i64 r.now] 53) = W := ⟨_, rfl⟩
  obtain ⟨W2, hW2⟩ : ∃ W2, W.alloc (.cells #[.int .u8 83] 5) = W2 := ⟨_, rfl⟩
  have z : W.heap.size = w.heap.size + 1 := by rw [← hW, World.size_alloc]
  have z2 : W2.heap.size = w.heap.size + 2 := by rw [← hW2, World.size_alloc, z]
  have hb1 : Below w.heap.size w W := by rw [← hW]; exact (Below.refl _ _).alloc (Nat.le_refl _) _
  have hb2 : Below W.heap.size W W2 := by rw [← hW2]; exact (Below.refl _ _).alloc (Nat.le_refl _) _
  have hb12 : Below w.heap.size w W2 := hb1.trans (hb2.mono (by omega))
  have hrq : W2.heap[w.heap.size]? = some (.cells #[.int .i64 x, .string r.id, .int .i64 r.kind, .slice ao r.lines.length cap, .string r.hold, .int .i64 r.ttl, .int .i64 r.now] 53 (0, 0)) := (hb2.block _ (by omega)).trans (by rw [← hW]; exact heap_alloc_new w _)
  have c0 : W2.cell? ⟨w.heap.size, 0, none⟩ = some (.int .i64 x) := by rw [Lib.cell_of_heap hrq]; rfl
  have HP := hid (refPutInt_any (.slice (some ⟨w.heap.size + 1, 0, none⟩) 1 1) [83] x W2 (by rw [← hW2, ← z]; exact reads_one W 83 _ rfl) x0 x1 (by simp))
  have B2 := hid hb12
  have HRq := hid hrq
  have g1 := grp_le (foldI x) (foldI_lt _ x0 x1)
  have HG1 := hid g1
  have HL := hid hL
  have HOk := hid ho
  unfold rcV
  clear hb1 hb2 hb12 hrq hL ho g1
  go_enter Try.func36, Try.ntmps36
  go_wp2_with fail
  try rw [hW2]
  refine Calls.mono HP.out ?_
  rintro e w3 ⟨v3, rfl, ho3, hb3⟩
  have B3 := hid (B2.out.trans (hb3.mono (by omega)))
  have R3 := hid ((hb3.block w.heap.size (by omega)).trans HRq.out)
  have z3 := hb3.size
  have HF := hid (rfields_any v3 _ r ao cap B w3 ho3.reads HOk.out (HL.out.below B3.out (Nat.le_refl B)) (by have := HG1.out; simp only [List.length_append, List.length_cons, List.length_nil]; omega))
  unfold rqV at HF
  have d1 : w3.cell? ⟨w.heap.size, 1, none⟩ = some (.string r.id) := by rw [Lib.cell_of_heap R3.out]; rfl
  have d2 : w3.cell? ⟨w.heap.size, 2, none⟩ = some (.int .i64 r.kind) := by rw [Lib.cell_of_heap R3.out]; rfl
  have d3 : w3.cell? ⟨w.heap.size, 3, none⟩ = some (.slice ao r.lines.length cap) := by rw [Lib.cell_of_heap R3.out]; rfl
  have d4 : w3.cell? ⟨w.heap.size, 4, none⟩ = some (.string r.hold) := by rw [Lib.cell_of_heap R3.out]; rfl
  have d5 : w3.cell? ⟨w.heap.size, 5, none⟩ = some (.int .i64 r.ttl) := by rw [Lib.cell_of_heap R3.out]; rfl
  have d6 : w3.cell? ⟨w.heap.size, 6, none⟩ = some (.int .i64 r.now) := by rw [Lib.cell_of_heap R3.out]; rfl
  clear ho3 hb3 HP c0 HRq
  go_wp2_with fail
  refine Calls.mono HF.out ?_
  rintro e w4 ⟨v4, rfl, ho4, hb4⟩
  have B4 := hid (B3.out.trans (hb4.mono B3.out.size))
  have HWi := hid (rwithin_any v4 _ 4096 w.heap.size w4 (ho4.mono B3.out.size))
  have e83 : ([83] ++ grp (foldI x) ++ rqB r) = 83 :: (grp (foldI x) ++ rqB r) := by simp
  rw [e83, HM.out] at HWi
  clear ho4 hb4 HF d1 d2 d3 d4 d5 d6 e83
  by_cases hfit : M.length ≤ 4096
  · simp only [if_pos hfit] at HWi
    go_wp2_with fail
    refine Calls.mono HWi.out ?_
    rintro e w5 ⟨⟨v5, rfl, ho5⟩, rfl⟩
    have HO := hid ho5
    clear ho5 HWi
    go_wp2
    go_ret2
    exact Wrt.yes hfit HO.out B4.out
  · simp only [if_neg hfit] at HWi
    go_wp2_with fail
    refine Calls.mono HWi.out ?_
    rintro e w5 ⟨⟨v5, rfl, ho5⟩, rfl⟩
    have HO := hid ho5
    clear ho5 HWi
    go_wp2
    go_ret2
    exact ⟨v5, by rw [if_neg hfit]; rfl, by rw [if_neg hfit]; exact HO.out, B4.out⟩
theorem rcs_state (l : List UInt8) : (eE l (sQ l 4096 (sI l (bS 83 l 4096))) ≠ 0 → rcs l = (eE l (sQ l 4096 (sI l (bS 83 l 4096))), eP l (sQ l 4096 (sI l (bS 83 l 4096))), (0, rq0))) ∧ (eE l (sQ l 4096 (sI l (bS 83 l 4096))) = 0 → rcs l = (0, 0, (vI l (bS 83 l 4096), (fRq l 4096 (sI l (bS 83 l 4096)).2).2.2)) ∧ eP l (sQ l 4096 (sI l (bS 83 l 4096))) = 0 ∧ (sQ l 4096 (sI l (bS 83 l 4096))).1 = 0) := by
  unfold rcs
  by_cases h1 : 4096 < l.length
  · have e : bS 83 l 4096 = (1, 0) := if_pos h1
    rw [e, sI_no (show ((1, 0) : Nat × Nat).1 ≠ 0 by decide), sQ_no (show ((1, 0) : Nat × Nat).1 ≠ 0 by decide), if_pos h1]
    exact ⟨fun _ => rfl, fun e => by cases e⟩
  rw [if_neg h1]
  by_cases h2 : l.length = 0
  · obtain rfl := List.eq_nil_of_length_eq_zero h2
    exact ⟨fun _ => rfl, fun e => by cases e⟩
  have h0 : 0 < l.length := by omega
  by_cases h3 : l[0] = 83
  case neg =>
    have e : bS 83 l 4096 = (90, 0) := bS_key h1 h0 h3
    rw [e, sI_no (show ((90, 0) : Nat × Nat).1 ≠ 0 by decide), sQ_no (show ((90, 0) : Nat × Nat).1 ≠ 0 by decide), fKr_no h0 h3]
    exact ⟨fun _ => rfl, fun e => by cases e⟩
  have e : bS 83 l 4096 = (0, 1) := bS_ok h1 h0 h3
  rw [e, fKr_ok h0 h3, sI_ok (show ((0, 1) : Nat × Nat).1 = 0 from rfl), vI_ok (show ((0, 1) : Nat × Nat).1 = 0 from rfl)]
  show _ ∧ _
  have ei : (fIn l ((0, 1) : Nat × Nat).2) = fIn l 1 := rfl
  rw [ei]
  unfold fRc
  by_cases h4 : (fIn l 1).1 = 0
  case neg =>
    rw [andR_no h4, sQ_no (show ((fIn l 1).1, (fIn l 1).2.1).1 ≠ 0 from h4), if_pos h4]
    have e5 : eE l ((fIn l 1).1, (fIn l 1).2.1) = (fIn l 1).1 := if_pos h4
    have e6 : eP l ((fIn l 1).1, (fIn l 1).2.1) = (fIn l 1).2.1 := if_pos h4
    rw [e5, e6]
    exact ⟨fun _ => rfl, fun e => (h4 e).elim⟩
  rw [andR_ok h4, if_pos h4]
  generalize (fIn l 1).2.2 = x
  have hs : ((fIn l 1).1, (fIn l 1).2.1).1 = 0 := h4
  rw [← fRq_state l 4096 ((fIn l 1).1, (fIn l 1).2.1) hs]
  show _ ∧ _
  generalize (fIn l 1).2.1 = p
  by_cases h5 : (fRq l 4096 p).1 = 0
  · rw [andR_ok h5]
    rw [if_neg (show ¬ (0 : Nat) ≠ 0 by decide)]
    have e5 : eE l ((fRq l 4096 p).1, (fRq l 4096 p).2.1) = if (fRq l 4096 p).2.1 < l.length then 4 else 0 := if_neg (fun e => e h5)
    have e6 : eP l ((fRq l 4096 p).1, (fRq l 4096 p).2.1) = if (fRq l 4096 p).2.1 < l.length then (fRq l 4096 p).2.1 else 0 := if_neg (fun e => e h5)
    show (eE l ((fRq l 4096 p).1, (fRq l 4096 p).2.1) ≠ 0 → (if (fRq l 4096 p).2.1 < l.length then (4, (fRq l 4096 p).2.1, ((0 : Int), rq0)) else (0, 0, (x, (fRq l 4096 p).2.2))) = (eE l ((fRq l 4096 p).1, (fRq l 4096 p).2.1), eP l ((fRq l 4096 p).1, (fRq l 4096 p).2.1), (0, rq0))) ∧ (eE l ((fRq l 4096 p).1, (fRq l 4096 p).2.1) = 0 → (if (fRq l 4096 p).2.1 < l.length then (4, (fRq l 4096 p).2.1, ((0 : Int), rq0)) else (0, 0, (x, (fRq l 4096 p).2.2))) = (0, 0, (x, (fRq l 4096 p).2.2)) ∧ eP l ((fRq l 4096 p).1, (fRq l 4096 p).2.1) = 0 ∧ (fRq l 4096 p).1 = 0)
    rw [e5, e6]
    by_cases h6 : (fRq l 4096 p).2.1 < l.length
    · rw [if_pos h6, if_pos h6, if_pos h6]
      exact ⟨fun _ => rfl, fun e => by cases e⟩
    · rw [if_neg h6, if_neg h6, if_neg h6]
      exact ⟨fun e => (e rfl).elim, fun _ => ⟨rfl, rfl, h5⟩⟩
  · rw [andR_no h5]
    show ((eE l ((fRq l 4096 p).1, (fRq l 4096 p).2.1)) ≠ 0 → (if (fRq l 4096 p).1 ≠ 0 then ((fRq l 4096 p).1, (fRq l 4096 p).2.1, ((0 : Int), rq0)) else if (fRq l 4096 p).2.1 < l.length then (4, (fRq l 4096 p).2.1, (0, rq0)) else (0, 0, (0, rq0))) = _) ∧ (eE l ((fRq l 4096 p).1, (fRq l 4096 p).2.1) = 0 → _)
    have e5 : eE l ((fRq l 4096 p).1, (fRq l 4096 p).2.1) = (fRq l 4096 p).1 := if_pos h5
    have e6 : eP l ((fRq l 4096 p).1, (fRq l 4096 p).2.1) = (fRq l 4096 p).2.1 := if_pos h5
    rw [e5, e6, if_pos h5]
    exact ⟨fun _ => rfl, fun e => (h5 e).elim⟩
theorem rcs_lines (l : List UInt8) : (rcs l).2.2.2.lines.length ≤ 4096 := by
  obtain ⟨m1, m2⟩ := rcs_state l
  by_cases h : eE l (sQ l 4096 (sI l (bS 83 l 4096))) = 0
  · obtain ⟨e1, _, e3⟩ := m2 h
    rw [e1]
    show ((fRq l 4096 (sI l (bS 83 l 4096)).2).2.2).lines.length ≤ 4096
    rw [fRq_val l 4096 _ e3]
    unfold sQ at e3
    exact fLi_len (sL_val (sT_up (sI_up (sI_up e3)))).1
  · rw [m1 h]
    exact Nat.zero_le _
set_option maxHeartbeats 2000000 in
theorem sameRecord_any (x : Int) (r : Rq) (v1 v2 : Value) (w : World) (h1 : RLn w v1 r.lines) (h2 : RLn w v2 r.lines) (hl : r.lines.length ≤ 1000000000000) :
    Calls Try.prog 23 #[.agg (rcC x r v1), .agg (rcC x r v2)] w fun e w' => e = .returned (.bool true) ∧ Below w.heap.size w w' := by
  unfold rcC
  obtain ⟨a1, p1, e1⟩ := h1.form
  obtain ⟨a2, p2, e2⟩ := h2.form
  obtain ⟨W, hW⟩ : ∃ W, (w.alloc (.cells #[.int .i64 x, .string r.id, .int .i64 r.kind, v1, .string r.hold, .int .i64 r.ttl, .int .i64 r.now] 53)).alloc (.cells #[.int .i64 x, .string r.id, .int .i64 r.kind, v2, .string r.hold, .int .i64 r.ttl, .int .i64 r.now] 53) = W := ⟨_, rfl⟩
  have zW : W.heap.size = w.heap.size + 2 := by rw [← hW]; simp
  have BW := hid (show Below w.heap.size w W by rw [← hW]; exact ((Below.refl _ _).alloc (Nat.le_refl _) _).alloc (by simp) _)
  have H1 := hid (show W.heap[w.heap.size]? = some (.cells #[.int .i64 x, .string r.id, .int .i64 r.kind, v1, .string r.hold, .int .i64 r.ttl, .int .i64 r.now] 53 (0, 0)) by
    rw [← hW]
    exact (((Below.refl (w.alloc (.cells #[.int .i64 x, .string r.id, .int .i64 r.kind, v1, .string r.hold, .int .i64 r.ttl, .int .i64 r.now] 53)).heap.size _).alloc (Nat.le_refl _) _).block w.heap.size (by simp)).trans (heap_alloc_new w _))
  have H2 := hid (show W.heap[w.heap.size + 1]? = some (.cells #[.int .i64 x, .string r.id, .int .i64 r.kind, v2, .string r.hold, .int .i64 r.ttl, .int .i64 r.now] 53 (0, 0)) by
    rw [← hW]
    have := heap_alloc_new (w.alloc (.cells #[.int .i64 x, .string r.id, .int .i64 r.kind, v1, .string r.hold, .int .i64 r.ttl, .int .i64 r.now] 53)) (.cells #[.int .i64 x, .string r.id, .int .i64 r.kind, v2, .string r.hold, .int .i64 r.ttl, .int .i64 r.now] 53)
    rw [World.size_alloc] at this
    exact this)
  have HS := hid (sameRequest_any r v1 v2 W (h1.below BW.out) (h2.below BW.out) hl)
  unfold rqC at HS
  have c0 : W.cell? ⟨w.heap.size, 0, none⟩ = some (.int .i64 x) := by rw [Lib.cell_of_heap H1.out]; rfl
  have c1 : W.cell? ⟨w.heap.size, 1, none⟩ = some (.string r.id) := by rw [Lib.cell_of_heap H1.out]; rfl
  have c2 : W.cell? ⟨w.heap.size, 2, none⟩ = some (.int .i64 r.kind) := by rw [Lib.cell_of_heap H1.out]; rfl
  have c3 : W.cell? ⟨w.heap.size, 3, none⟩ = some (v1) := by rw [Lib.cell_of_heap H1.out]; rfl
  have c4 : W.cell? ⟨w.heap.size, 4, none⟩ = some (.string r.hold) := by rw [Lib.cell_of_heap H1.out]; rfl
  have c5 : W.cell? ⟨w.heap.size, 5, none⟩ = some (.int .i64 r.ttl) := by rw [Lib.cell_of_heap H1.out]; rfl
  have c6 : W.cell? ⟨w.heap.size, 6, none⟩ = some (.int .i64 r.now) := by rw [Lib.cell_of_heap H1.out]; rfl
  have d0 : W.cell? ⟨w.heap.size + 1, 0, none⟩ = some (.int .i64 x) := by rw [Lib.cell_of_heap H2.out]; rfl
  have d1 : W.cell? ⟨w.heap.size + 1, 1, none⟩ = some (.string r.id) := by rw [Lib.cell_of_heap H2.out]; rfl
  have d2 : W.cell? ⟨w.heap.size + 1, 2, none⟩ = some (.int .i64 r.kind) := by rw [Lib.cell_of_heap H2.out]; rfl
  have d3 : W.cell? ⟨w.heap.size + 1, 3, none⟩ = some (v2) := by rw [Lib.cell_of_heap H2.out]; rfl
  have d4 : W.cell? ⟨w.heap.size + 1, 4, none⟩ = some (.string r.hold) := by rw [Lib.cell_of_heap H2.out]; rfl
  have d5 : W.cell? ⟨w.heap.size + 1, 5, none⟩ = some (.int .i64 r.ttl) := by rw [Lib.cell_of_heap H2.out]; rfl
  have d6 : W.cell? ⟨w.heap.size + 1, 6, none⟩ = some (.int .i64 r.now) := by rw [Lib.cell_of_heap H2.out]; rfl
  subst e1
  subst e2
  have HW := hid hW
  clear h1 h2
  go_enter Try.func23, Try.ntmps23
  go_wp2_with fail
  try rw [HW.out]
  refine Calls.mono HS.out ?_
  rintro e w3 ⟨rfl, hb3⟩
  have B3 := hid (BW.out.trans (hb3.mono (by omega)))
  clear hb3 HS hW c0 d0 c1 d1 c2 d2 c3 d3 c4 d4 c5 d5 c6 d6
  go_wp2
  go_ret
  exact ⟨rfl, B3.out⟩
end Go.Proofs.Ytfhicemfhkhjaaa
