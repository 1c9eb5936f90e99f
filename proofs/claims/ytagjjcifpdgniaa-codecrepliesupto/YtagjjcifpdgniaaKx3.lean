/-
  Requests: weight, lent, SameRequest, kept. Laid by mkkx3.py.
-/
import Derived.Test.YtagjjcifpdgniaaKx2
namespace Go.Proofs.Ytagjjcifpdgniaa
open Go.RowKit
set_option maxRecDepth 100000

set_option maxHeartbeats 1000000 in
theorem weight_any (r : Rq) (ao : Option Addr) (cap : Nat) (w : World) (hR : RLn w (.slice ao r.lines.length cap) r.lines) (hb : r.id.size + r.hold.size + wl r.lines ≤ 1000000000000000) (hl : r.lines.length ≤ 1000000000) :
    Calls Try.prog 11 #[rqV r ao cap] w fun e w' => e = .returned (.int .i64 ((r.id.size + r.hold.size + wl r.lines : Nat) : Int)) ∧ Below w.heap.size w w' := by
  unfold rqV
  obtain ⟨W, hW⟩ : ∃ W, w.alloc (.cells #[.string r.id, .int .i64 r.kind, .slice ao r.lines.length cap, .string r.hold, .int .i64 r.ttl, .int .i64 r.now] 28) = W := ⟨_, rfl⟩
  have HRW : W.heap[w.heap.size]? = some (.cells #[.string r.id, .int .i64 r.kind, .slice ao r.lines.length cap, .string r.hold, .int .i64 r.ttl, .int .i64 r.now] 28 (0, 0)) := by rw [← hW]; exact heap_alloc_new w _
  have BW := hid (show Below w.heap.size w W by rw [← hW]; exact (Below.refl _ _).alloc (Nat.le_refl _) _)
  have c0 : W.cell? ⟨w.heap.size, 0, none⟩ = some (.string r.id) := by rw [Lib.cell_of_heap HRW]; rfl
  have c1 : W.cell? ⟨w.heap.size, 1, none⟩ = some (.int .i64 r.kind) := by rw [Lib.cell_of_heap HRW]; rfl
  have c2 : W.cell? ⟨w.heap.size, 2, none⟩ = some (.slice ao r.lines.length cap) := by rw [Lib.cell_of_heap HRW]; rfl
  have c3 : W.cell? ⟨w.heap.size, 3, none⟩ = some (.string r.hold) := by rw [Lib.cell_of_heap HRW]; rfl
  have c4 : W.cell? ⟨w.heap.size, 4, none⟩ = some (.int .i64 r.ttl) := by rw [Lib.cell_of_heap HRW]; rfl
  have c5 : W.cell? ⟨w.heap.size, 5, none⟩ = some (.int .i64 r.now) := by rw [Lib.cell_of_heap HRW]; rfl
  have HL := hid (hR.below BW.out)
  clear hR HRW
  go_enter Try.func11, Try.ntmps11
  go_wp2_with fail
  try rw [hW]
  clear hW
  go_loop [3, 4] (fun n i => ∃ k : Nat, k ≤ r.lines.length ∧ i = .int .i64 (k : Int) ∧ n = .int .i64 ((r.id.size + r.hold.size + wl (r.lines.take k) : Nat) : Int)) (fun _ i => r.lines.length - (intOf i).toNat)
  case atStart => exact ⟨0, by omega, rfl, by simp [wl]⟩
  case round =>
    obtain ⟨k, hk, rfl, rfl⟩ := hrel
    by_cases h : k < r.lines.length
    · have hI : (k : Int) < (r.lines.length : Int) := by omega
      rcases HL.out with ⟨h0, _⟩ | ⟨b, off, cp, hv, hcp, hcell⟩
      · rw [h0] at h; simp at h
      cases hv
      have d0 := (hcell k h).1
      have HT := hid (wl_take r.lines k h)
      have hle := wl_le r.lines (k + 1)
      rw [HT.out] at hle
      clear hcell
      generalize (r.lines[k]'h).1 = x at *
      generalize wl (r.lines.take k) = m at *
      go_wp2_with fail
      go_round
      case rel => exact ⟨k + 1, by omega, by go_num, by rw [HT.out]; go_num⟩
      case measure => simp [intOf]; omega
    · obtain rfl : k = r.lines.length := by omega
      rw [List.take_length]
      go_wp2
      go_ret
      exact ⟨rfl, BW.out⟩
set_option maxHeartbeats 2000000 in
theorem sameRequest_any (r : Rq) (v1 v2 : Value) (w : World) (h1 : RLn w v1 r.lines) (h2 : RLn w v2 r.lines) (hl : r.lines.length ≤ 1000000000000) :
    Calls Try.prog 17 #[.agg (rqC r v1), .agg (rqC r v2)] w fun e w' => e = .returned (.bool true) ∧ Below w.heap.size w w' := by
  unfold rqC
  obtain ⟨a1, p1, e1⟩ := h1.form
  obtain ⟨a2, p2, e2⟩ := h2.form
  obtain ⟨W, hW⟩ : ∃ W, (w.alloc (.cells #[.string r.id, .int .i64 r.kind, v1, .string r.hold, .int .i64 r.ttl, .int .i64 r.now] 28)).alloc (.cells #[.string r.id, .int .i64 r.kind, v2, .string r.hold, .int .i64 r.ttl, .int .i64 r.now] 28) = W := ⟨_, rfl⟩
  have zW : W.heap.size = w.heap.size + 2 := by rw [← hW]; simp
  have BW := hid (show Below w.heap.size w W by rw [← hW]; exact ((Below.refl _ _).alloc (Nat.le_refl _) _).alloc (by simp) _)
  have H1 := hid (show W.heap[w.heap.size]? = some (.cells #[.string r.id, .int .i64 r.kind, v1, .string r.hold, .int .i64 r.ttl, .int .i64 r.now] 28 (0, 0)) by
    rw [← hW]
    exact (((Below.refl (w.alloc (.cells #[.string r.id, .int .i64 r.kind, v1, .string r.hold, .int .i64 r.ttl, .int .i64 r.now] 28)).heap.size _).alloc (Nat.le_refl _) _).block w.heap.size (by simp)).trans (heap_alloc_new w _))
  have H2 := hid (show W.heap[w.heap.size + 1]? = some (.cells #[.string r.id, .int .i64 r.kind, v2, .string r.hold, .int .i64 r.ttl, .int .i64 r.now] 28 (0, 0)) by
    rw [← hW]
    have := heap_alloc_new (w.alloc (.cells #[.string r.id, .int .i64 r.kind, v1, .string r.hold, .int .i64 r.ttl, .int .i64 r.now] 28)) (.cells #[.string r.id, .int .i64 r.kind, v2, .string r.hold, .int .i64 r.ttl, .int .i64 r.now] 28)
    rw [World.size_alloc] at this
    exact this)
  have HS := hid (sameLines_any v1 v2 r.lines W (h1.below BW.out) (h2.below BW.out) hl)
  have c0 : W.cell? ⟨w.heap.size, 0, none⟩ = some (.string r.id) := by rw [Lib.cell_of_heap H1.out]; rfl
  have c1 : W.cell? ⟨w.heap.size, 1, none⟩ = some (.int .i64 r.kind) := by rw [Lib.cell_of_heap H1.out]; rfl
  have c2 : W.cell? ⟨w.heap.size, 2, none⟩ = some (v1) := by rw [Lib.cell_of_heap H1.out]; rfl
  have c3 : W.cell? ⟨w.heap.size, 3, none⟩ = some (.string r.hold) := by rw [Lib.cell_of_heap H1.out]; rfl
  have c4 : W.cell? ⟨w.heap.size, 4, none⟩ = some (.int .i64 r.ttl) := by rw [Lib.cell_of_heap H1.out]; rfl
  have c5 : W.cell? ⟨w.heap.size, 5, none⟩ = some (.int .i64 r.now) := by rw [Lib.cell_of_heap H1.out]; rfl
  have d0 : W.cell? ⟨w.heap.size + 1, 0, none⟩ = some (.string r.id) := by rw [Lib.cell_of_heap H2.out]; rfl
  have d1 : W.cell? ⟨w.heap.size + 1, 1, none⟩ = some (.int .i64 r.kind) := by rw [Lib.cell_of_heap H2.out]; rfl
  have d2 : W.cell? ⟨w.heap.size + 1, 2, none⟩ = some (v2) := by rw [Lib.cell_of_heap H2.out]; rfl
  have d3 : W.cell? ⟨w.heap.size + 1, 3, none⟩ = some (.string r.hold) := by rw [Lib.cell_of_heap H2.out]; rfl
  have d4 : W.cell? ⟨w.heap.size + 1, 4, none⟩ = some (.int .i64 r.ttl) := by rw [Lib.cell_of_heap H2.out]; rfl
  have d5 : W.cell? ⟨w.heap.size + 1, 5, none⟩ = some (.int .i64 r.now) := by rw [Lib.cell_of_heap H2.out]; rfl
  subst e1
  subst e2
  have HW := hid hW
  clear h1 h2
  go_enter Try.func17, Try.ntmps17
  go_wp2_with fail
  try rw [HW.out]
  refine Calls.mono HS.out ?_
  rintro e w3 ⟨rfl, hb3⟩
  have B3 := hid (BW.out.trans (hb3.mono (by omega)))
  have c3' := below_cells hb3 _ _ c3
  have d3' := below_cells hb3 _ _ d3
  have c4' := below_cells hb3 _ _ c4
  have d4' := below_cells hb3 _ _ d4
  have c5' := below_cells hb3 _ _ c5
  have d5' := below_cells hb3 _ _ d5
  clear hb3 HS hW c0 c1 c2 c3 c4 c5 d0 d1 d2 d3 d4 d5
  go_wp2
  go_ret
  exact ⟨rfl, B3.out⟩
set_option maxHeartbeats 2000000 in
theorem rkept_any (r : Rq) (v1 v2 : Value) (w : World) (h1 : LentN w v1 r.lines) (h2 : RLn w v2 r.lines) (hl : r.lines.length ≤ 1000000000) :
    Calls Try.prog 34 #[.agg (rqC r v1), .agg (rqC r v2)] w fun e w' => e = .returned (.bool true) ∧ Below w.heap.size w w' := by
  obtain ⟨a1, p1, e1⟩ := h1.reads.form
  obtain ⟨a2, p2, e2⟩ := h2.form
  obtain ⟨W, hW⟩ : ∃ W, (w.alloc (.cells #[.string r.id, .int .i64 r.kind, v1, .string r.hold, .int .i64 r.ttl, .int .i64 r.now] 28)).alloc (.cells #[.string r.id, .int .i64 r.kind, v2, .string r.hold, .int .i64 r.ttl, .int .i64 r.now] 28) = W := ⟨_, rfl⟩
  have zW : W.heap.size = w.heap.size + 2 := by rw [← hW]; simp
  have BW := hid (show Below w.heap.size w W by rw [← hW]; exact ((Below.refl _ _).alloc (Nat.le_refl _) _).alloc (by simp) _)
  have H1 := hid (show W.heap[w.heap.size]? = some (.cells #[.string r.id, .int .i64 r.kind, v1, .string r.hold, .int .i64 r.ttl, .int .i64 r.now] 28 (0, 0)) by
    rw [← hW]
    exact (((Below.refl (w.alloc (.cells #[.string r.id, .int .i64 r.kind, v1, .string r.hold, .int .i64 r.ttl, .int .i64 r.now] 28)).heap.size _).alloc (Nat.le_refl _) _).block w.heap.size (by simp)).trans (heap_alloc_new w _))
  have H2 := hid (show W.heap[w.heap.size + 1]? = some (.cells #[.string r.id, .int .i64 r.kind, v2, .string r.hold, .int .i64 r.ttl, .int .i64 r.now] 28 (0, 0)) by
    rw [← hW]
    have := heap_alloc_new (w.alloc (.cells #[.string r.id, .int .i64 r.kind, v1, .string r.hold, .int .i64 r.ttl, .int .i64 r.now] 28)) (.cells #[.string r.id, .int .i64 r.kind, v2, .string r.hold, .int .i64 r.ttl, .int .i64 r.now] 28)
    rw [World.size_alloc] at this
    exact this)
  have HS := hid (sameRequest_any r v1 v2 W (h1.reads.below BW.out) (h2.below BW.out) (by omega))
  have HL1 := hid (h1.below BW.out)
  have HL2 := hid (h2.below BW.out)
  unfold rqC at HS ⊢
  have c0 : W.cell? ⟨w.heap.size, 0, none⟩ = some (.string r.id) := by rw [Lib.cell_of_heap H1.out]; rfl
  have c1 : W.cell? ⟨w.heap.size, 1, none⟩ = some (.int .i64 r.kind) := by rw [Lib.cell_of_heap H1.out]; rfl
  have c2 : W.cell? ⟨w.heap.size, 2, none⟩ = some (v1) := by rw [Lib.cell_of_heap H1.out]; rfl
  have c3 : W.cell? ⟨w.heap.size, 3, none⟩ = some (.string r.hold) := by rw [Lib.cell_of_heap H1.out]; rfl
  have c4 : W.cell? ⟨w.heap.size, 4, none⟩ = some (.int .i64 r.ttl) := by rw [Lib.cell_of_heap H1.out]; rfl
  have c5 : W.cell? ⟨w.heap.size, 5, none⟩ = some (.int .i64 r.now) := by rw [Lib.cell_of_heap H1.out]; rfl
  have d0 : W.cell? ⟨w.heap.size + 1, 0, none⟩ = some (.string r.id) := by rw [Lib.cell_of_heap H2.out]; rfl
  have d1 : W.cell? ⟨w.heap.size + 1, 1, none⟩ = some (.int .i64 r.kind) := by rw [Lib.cell_of_heap H2.out]; rfl
  have d2 : W.cell? ⟨w.heap.size + 1, 2, none⟩ = some (v2) := by rw [Lib.cell_of_heap H2.out]; rfl
  have d3 : W.cell? ⟨w.heap.size + 1, 3, none⟩ = some (.string r.hold) := by rw [Lib.cell_of_heap H2.out]; rfl
  have d4 : W.cell? ⟨w.heap.size + 1, 4, none⟩ = some (.int .i64 r.ttl) := by rw [Lib.cell_of_heap H2.out]; rfl
  have d5 : W.cell? ⟨w.heap.size + 1, 5, none⟩ = some (.int .i64 r.now) := by rw [Lib.cell_of_heap H2.out]; rfl
  have HW := hid hW
  clear h1 h2
  subst e1
  subst e2
  go_enter Try.func34, Try.ntmps34
  go_wp2_with fail
  try rw [HW.out]
  refine Calls.mono HS.out ?_
  rintro e w3 ⟨rfl, hb3⟩
  have B3 := hid (BW.out.trans (hb3.mono (by omega)))
  have c2' := below_cells hb3 _ _ c2
  have d2' := below_cells hb3 _ _ d2
  have HK := hid (keptLines_any _ _ r.lines w3 (HL1.out.below hb3) (HL2.out.below hb3) hl)
  clear hb3 HS hW c0 c1 c2 c3 c4 c5 d0 d1 d2 d3 d4 d5
  go_wp2_with fail
  refine Calls.mono HK.out ?_
  rintro e w4 ⟨rfl, hb4⟩
  have B4 := hid (B3.out.trans (hb4.mono B3.out.size))
  clear hb4 HK c2' d2'
  go_wp2
  go_ret
  exact ⟨rfl, B4.out⟩
theorem LentN.old {w w' : World} {v : Value} {L : List Ln} {B : Nat} (h : LentN w v L) (hv : ∀ k, v.ownBlock = some k → B ≤ k) (hk : ∀ k, B ≤ k → k < w.heap.size → w'.heap[k]? = w.heap[k]?) : LentN w' v L := by
  obtain ⟨b, cap, rfl, h1, h2, hc⟩ := h
  have hb := hv b rfl
  refine ⟨b, cap, rfl, h1, h2, fun j hj => ?_⟩
  have hlt := World.block_lt_of_cell? _ _ (hc j hj).1
  exact ⟨(World.cell?_of_block (hk b hb hlt)).trans (hc j hj).1, (World.cell?_of_block (hk b hb hlt)).trans (hc j hj).2⟩
set_option maxHeartbeats 2000000 in
theorem rlent_any (r : Rq) (ao : Option Addr) (cap : Nat) (w : World) (hR : RLn w (.slice ao r.lines.length cap) r.lines) (hl : r.lines.length ≤ 1000000000) :
    Calls Try.prog 32 #[rqV r ao cap] w fun e w' => ∃ v', e = .returned (.agg (rqC r v')) ∧ LentN w' v' r.lines ∧ Below w.heap.size w w' := by
  unfold rqV
  obtain ⟨W, hW⟩ : ∃ W, (w.alloc (.cells #[.string r.id, .int .i64 r.kind, .slice ao r.lines.length cap, .string r.hold, .int .i64 r.ttl, .int .i64 r.now] 28)).alloc (.cells #[.string ⟨#[]⟩, .int .i64 0, .slice none 0 0, .string ⟨#[]⟩, .int .i64 0, .int .i64 0] 28) = W := ⟨_, rfl⟩
  have zW : W.heap.size = w.heap.size + 2 := by rw [← hW]; simp
  have BW := hid (show Below w.heap.size w W by rw [← hW]; exact ((Below.refl _ _).alloc (Nat.le_refl _) _).alloc (by simp) _)
  have H1 := hid (show W.heap[w.heap.size]? = some (.cells #[.string r.id, .int .i64 r.kind, .slice ao r.lines.length cap, .string r.hold, .int .i64 r.ttl, .int .i64 r.now] 28 (0, 0)) by
    rw [← hW]
    exact (((Below.refl (w.alloc (.cells #[.string r.id, .int .i64 r.kind, .slice ao r.lines.length cap, .string r.hold, .int .i64 r.ttl, .int .i64 r.now] 28)).heap.size _).alloc (Nat.le_refl _) _).block w.heap.size (by simp)).trans (heap_alloc_new w _))
  have H2 := hid (show W.heap[w.heap.size + 1]? = some (.cells #[.string ⟨#[]⟩, .int .i64 0, .slice none 0 0, .string ⟨#[]⟩, .int .i64 0, .int .i64 0] 28 (0, 0)) by
    rw [← hW]
    have := heap_alloc_new (w.alloc (.cells #[.string r.id, .int .i64 r.kind, .slice ao r.lines.length cap, .string r.hold, .int .i64 r.ttl, .int .i64 r.now] 28)) (.cells #[.string ⟨#[]⟩, .int .i64 0, .slice none 0 0, .string ⟨#[]⟩, .int .i64 0, .int .i64 0] 28)
    rw [World.size_alloc] at this
    exact this)
  have HLt := hid (lentLines_any _ r.lines W (hR.below BW.out) hl)
  have c2 : W.cell? ⟨w.heap.size, 2, none⟩ = some (.slice ao r.lines.length cap) := by rw [Lib.cell_of_heap H1.out]; rfl
  have HW := hid hW
  clear hR
  go_enter Try.func32, Try.ntmps32
  go_wp2_with fail
  try rw [HW.out]
  refine Calls.mono HLt.out ?_
  rintro e w3 ⟨v3, rfl, hL3, hG3, hb3⟩
  have R3 := hid ((hb3.block w.heap.size (by omega)).trans H1.out)
  have A3 := hid ((hb3.block (w.heap.size + 1) (by omega)).trans H2.out)
  have B3 := hid (BW.out.trans (hb3.mono (by omega)))
  have q2 : w3.cell? ⟨w.heap.size, 2, none⟩ = some (.slice ao r.lines.length cap) := by rw [Lib.cell_of_heap R3.out]; rfl
  have f2 : w3.frozen? ⟨w.heap.size, 2, none⟩ = false := Lib.frozen_of_heap R3.out 2
  have z3 := hb3.size
  obtain ⟨lo, ln, lp, hv3⟩ : ∃ lo ln lp, v3 = .slice lo ln lp := by obtain ⟨b, cp, e, _⟩ := hL3; exact ⟨_, _, _, e⟩
  subst hv3
  obtain ⟨W4, hW4⟩ : ∃ W4, w3.setCell ⟨w.heap.size, 2, none⟩ (.slice lo ln lp) = W4 := ⟨_, rfl⟩
  have R4 := hid (show W4.heap[w.heap.size]? = some (.cells #[.string r.id, .int .i64 r.kind, .slice lo ln lp, .string r.hold, .int .i64 r.ttl, .int .i64 r.now] 28 (0, 0)) by rw [← hW4]; exact heap_setCell_same w3 _ 2 _ _ _ R3.out)
  have A4 := hid (show W4.heap[w.heap.size + 1]? = some (.cells #[.string ⟨#[]⟩, .int .i64 0, .slice none 0 0, .string ⟨#[]⟩, .int .i64 0, .int .i64 0] 28 (0, 0)) by rw [← hW4]; exact (heap_setCell_other w3 ⟨w.heap.size, 2, none⟩ _ _ (by show w.heap.size + 1 ≠ w.heap.size; omega)).trans A3.out)
  have B4 := hid (show Below w.heap.size w W4 by rw [← hW4]; exact B3.out.setCell (Nat.le_refl _) _)
  have z4 : W4.heap.size = w3.heap.size := by rw [← hW4]; simp
  have K4 : Tb w.heap.size w.heap.size w3 W4 := by rw [← hW4]; exact Tb.set w3 ⟨w.heap.size, 2, none⟩ _ (.inl rfl)
  have p0 : W4.cell? ⟨w.heap.size, 0, none⟩ = some (.string r.id) := by rw [Lib.cell_of_heap R4.out]; rfl
  have p1 : W4.cell? ⟨w.heap.size, 1, none⟩ = some (.int .i64 r.kind) := by rw [Lib.cell_of_heap R4.out]; rfl
  have p2 : W4.cell? ⟨w.heap.size, 2, none⟩ = some (.slice lo ln lp) := by rw [Lib.cell_of_heap R4.out]; rfl
  have p3 : W4.cell? ⟨w.heap.size, 3, none⟩ = some (.string r.hold) := by rw [Lib.cell_of_heap R4.out]; rfl
  have p4 : W4.cell? ⟨w.heap.size, 4, none⟩ = some (.int .i64 r.ttl) := by rw [Lib.cell_of_heap R4.out]; rfl
  have p5 : W4.cell? ⟨w.heap.size, 5, none⟩ = some (.int .i64 r.now) := by rw [Lib.cell_of_heap R4.out]; rfl
  have r0 : W4.cell? ⟨w.heap.size + 1, 0, none⟩ = some (.string ⟨#[]⟩) := by rw [Lib.cell_of_heap A4.out]; rfl
  have g0 : W4.frozen? ⟨w.heap.size + 1, 0, none⟩ = false := Lib.frozen_of_heap A4.out 0
  have r1 : W4.cell? ⟨w.heap.size + 1, 1, none⟩ = some (.int .i64 0) := by rw [Lib.cell_of_heap A4.out]; rfl
  have g1 : W4.frozen? ⟨w.heap.size + 1, 1, none⟩ = false := Lib.frozen_of_heap A4.out 1
  have r2 : W4.cell? ⟨w.heap.size + 1, 2, none⟩ = some (.slice none 0 0) := by rw [Lib.cell_of_heap A4.out]; rfl
  have g2 : W4.frozen? ⟨w.heap.size + 1, 2, none⟩ = false := Lib.frozen_of_heap A4.out 2
  have r3 : W4.cell? ⟨w.heap.size + 1, 3, none⟩ = some (.string ⟨#[]⟩) := by rw [Lib.cell_of_heap A4.out]; rfl
  have g3 : W4.frozen? ⟨w.heap.size + 1, 3, none⟩ = false := Lib.frozen_of_heap A4.out 3
  have r4 : W4.cell? ⟨w.heap.size + 1, 4, none⟩ = some (.int .i64 0) := by rw [Lib.cell_of_heap A4.out]; rfl
  have g4 : W4.frozen? ⟨w.heap.size + 1, 4, none⟩ = false := Lib.frozen_of_heap A4.out 4
  have r5 : W4.cell? ⟨w.heap.size + 1, 5, none⟩ = some (.int .i64 0) := by rw [Lib.cell_of_heap A4.out]; rfl
  have g5 : W4.frozen? ⟨w.heap.size + 1, 5, none⟩ = false := Lib.frozen_of_heap A4.out 5
  have HL3 := hid hL3
  have HG3 := hid hG3
  have HB3 := hid hb3
  have HK4 := hid K4
  clear hb3 hL3 HLt c2 hW K4 hG3
  go_wp2_with fail
  obtain ⟨W7, hW7⟩ : ∃ W7, ((((((W4.setCell ⟨w.heap.size + 1, 0, none⟩ (.string r.id)).setCell ⟨w.heap.size + 1, 1, none⟩ (.int .i64 r.kind)).setCell ⟨w.heap.size + 1, 2, none⟩ (.slice lo ln lp)).setCell ⟨w.heap.size + 1, 3, none⟩ (.string r.hold)).setCell ⟨w.heap.size + 1, 4, none⟩ (.int .i64 r.ttl)).setCell ⟨w.heap.size + 1, 5, none⟩ (.int .i64 r.now)) = W7 := ⟨_, rfl⟩
  have E7 : W7.heap[w.heap.size + 1]? = some (.cells #[.string r.id, .int .i64 r.kind, .slice lo ln lp, .string r.hold, .int .i64 r.ttl, .int .i64 r.now] 28 (0, 0)) := by rw [← hW7]; exact (heap_setCell_same _ _ 5 _ _ _ (heap_setCell_same _ _ 4 _ _ _ (heap_setCell_same _ _ 3 _ _ _ (heap_setCell_same _ _ 2 _ _ _ (heap_setCell_same _ _ 1 _ _ _ (heap_setCell_same _ _ 0 _ _ _ A4.out))))))
  have K7 : Tb (w.heap.size + 1) (w.heap.size + 1) W4 W7 := by rw [← hW7]; exact (((((Tb.set W4 ⟨w.heap.size + 1, 0, none⟩ _ (.inl rfl)).trans (Tb.set _ ⟨w.heap.size + 1, 1, none⟩ _ (.inl rfl))).trans (Tb.set _ ⟨w.heap.size + 1, 2, none⟩ _ (.inl rfl))).trans (Tb.set _ ⟨w.heap.size + 1, 3, none⟩ _ (.inl rfl))).trans (Tb.set _ ⟨w.heap.size + 1, 4, none⟩ _ (.inl rfl))).trans (Tb.set _ ⟨w.heap.size + 1, 5, none⟩ _ (.inl rfl))
  have d0 : W7.cell? ⟨w.heap.size + 1, 0, none⟩ = some (.string r.id) := by rw [Lib.cell_of_heap E7]; rfl
  have d1 : W7.cell? ⟨w.heap.size + 1, 1, none⟩ = some (.int .i64 r.kind) := by rw [Lib.cell_of_heap E7]; rfl
  have d2 : W7.cell? ⟨w.heap.size + 1, 2, none⟩ = some (.slice lo ln lp) := by rw [Lib.cell_of_heap E7]; rfl
  have d3 : W7.cell? ⟨w.heap.size + 1, 3, none⟩ = some (.string r.hold) := by rw [Lib.cell_of_heap E7]; rfl
  have d4 : W7.cell? ⟨w.heap.size + 1, 4, none⟩ = some (.int .i64 r.ttl) := by rw [Lib.cell_of_heap E7]; rfl
  have d5 : W7.cell? ⟨w.heap.size + 1, 5, none⟩ = some (.int .i64 r.now) := by rw [Lib.cell_of_heap E7]; rfl
  rw [hW7]
  refine bodyPost_ret (by simp [results, Try.results32, go_sem, d0, d1, d2, d3, d4, d5]; try rfl) rfl ?_
  refine ⟨.slice lo ln lp, rfl, ?_, B4.out.trans (K7.lows (B := w.heap.size) (by omega) (by omega))⟩
  refine HL3.out.old HG3.out (fun k hk hk2 => ?_)
  exact (K7.block k (by omega) (by omega) (by omega)).trans (HK4.out.block k hk2 (by omega) (by omega))
end Go.Proofs.Ytagjjcifpdgniaa
