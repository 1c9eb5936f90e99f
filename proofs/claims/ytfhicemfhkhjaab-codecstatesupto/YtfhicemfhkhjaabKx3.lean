/-
  Kx2: LentLines, KeptLines, weight.
  Kx3: Requests: weight, lent, SameRequest, kept. Laid by mkkx3.py.
-/
import Derived.Test.YtfhicemfhkhjaabKx1
namespace Go.Proofs.Ytfhicemfhkhjaab
open Go.RowKit
set_option maxRecDepth 100000

def lentA : ByteArray := ⟨#[108, 101, 110, 116]⟩
/-- the marks behind lent lines -/
def mkL : List Ln := (List.range 9).map fun (i : Nat) => (lentA, (i : Int))
theorem mkL_len : mkL.length = 9 := by simp [mkL]
theorem mkL_at (k : Nat) (h : k < mkL.length) : mkL[k] = (lentA, (k : Int)) := by simp [mkL]
theorem mkL_take (k : Nat) (h : k < 9) : mkL.take (k + 1) = mkL.take k ++ [(lentA, (k : Int))] := by
  rw [List.take_succ_eq_append_getElem (by rw [mkL_len]; exact h), mkL_at]
/-- lent lines: the marks lie behind them -/
def LentN (w : World) (v : Value) (L : List Ln) : Prop :=
  ∃ b cap, v = .slice (some ⟨b, 0, none⟩) L.length cap ∧ L.length + 9 ≤ cap ∧ cap ≤ maxLen ∧ ∀ j (hj : j < (L ++ mkL).length), w.cell? ⟨b, j * 2, none⟩ = some (.string (L ++ mkL)[j].1) ∧ w.cell? ⟨b, j * 2 + 1, none⟩ = some (.int .i64 (L ++ mkL)[j].2)
theorem LentN.below {w w' : World} {v : Value} {L : List Ln} (h : LentN w v L) (hb : Below w.heap.size w w') : LentN w' v L := by
  obtain ⟨b, cap, hv, h1, h2, hc⟩ := h
  exact ⟨b, cap, hv, h1, h2, fun j hj => ⟨below_cells hb _ _ (hc j hj).1, below_cells hb _ _ (hc j hj).2⟩⟩
theorem LentN.reads {w : World} {v : Value} {L : List Ln} (h : LentN w v L) : RLn w v L := by
  obtain ⟨b, cap, rfl, h1, _, hc⟩ := h
  refine .inr ⟨b, 0, cap, rfl, by omega, fun j hj => ?_⟩
  have := hc j (by simp; omega)
  rw [List.getElem_append_left hj] at this
  rw [Nat.zero_add]
  exact this
/-- how much a list of lines weighs -/
def wl (L : List Ln) : Nat := (L.map fun x => 2 + x.1.size).sum
theorem wl_take (L : List Ln) (j : Nat) (h : j < L.length) : wl (L.take (j + 1)) = wl (L.take j) + (2 + L[j].1.size) := by
  unfold wl
  rw [List.take_succ_eq_append_getElem h, List.map_append, List.sum_append]
  simp
theorem wl_le (L : List Ln) (j : Nat) : wl (L.take j) ≤ wl L := by
  unfold wl
  conv => rhs; rw [← List.take_append_drop j L]
  rw [List.map_append, List.sum_append]
  omega
end Go.Proofs.Ytfhicemfhkhjaab

namespace Go.Proofs.Ytfhicemfhkhjaab
open Go.RowKit
set_option maxRecDepth 100000

set_option maxHeartbeats 1000000 in
theorem weight_any (r : Rq) (ao : Option Addr) (cap : Nat) (w : World) (hR : RLn w (.slice ao r.lines.length cap) r.lines) (hb : r.id.size + r.hold.size + wl r.lines ≤ 1000000000000000) (hl : r.lines.length ≤ 1000000000) :
    Calls Try.prog 6 #[rqV r ao cap] w fun e w' => e = .returned (.int .i64 ((r.id.size + r.hold.size + wl r.lines : Nat) : Int)) ∧ Below w.heap.size w w' := by
  unfold rqV
  obtain ⟨W, hW⟩ : ∃ W, w.alloc (.cells #[.string r.id, .int .i64 r.kind, .slice ao r.lines.length cap, .string r.hold, .int .i64 r.ttl, .int .i64 r.now] 24) = W := ⟨_, rfl⟩
  have HRW : W.heap[w.heap.size]? = some (.cells #[.string r.id, .int .i64 r.kind, .slice ao r.lines.length cap, .string r.hold, .int .i64 r.ttl, .int .i64 r.now] 24 (0, 0)) := by rw [← hW]; exact heap_alloc_new w _
  have BW := hid (show Below w.heap.size w W by rw [← hW]; exact (Below.refl _ _).alloc (Nat.le_refl _) _)
  have c0 : W.cell? ⟨w.heap.size, 0, none⟩ = some (.string r.id) := by rw [Lib.cell_of_heap HRW]; rfl
  have c1 : W.cell? ⟨w.heap.size, 1, none⟩ = some (.int .i64 r.kind) := by rw [Lib.cell_of_heap HRW]; rfl
  have c2 : W.cell? ⟨w.heap.size, 2, none⟩ = some (.slice ao r.lines.length cap) := by rw [Lib.cell_of_heap HRW]; rfl
  have c3 : W.cell? ⟨w.heap.size, 3, none⟩ = some (.string r.hold) := by rw [Lib.cell_of_heap HRW]; rfl
  have c4 : W.cell? ⟨w.heap.size, 4, none⟩ = some (.int .i64 r.ttl) := by rw [Lib.cell_of_heap HRW]; rfl
  have c5 : W.cell? ⟨w.heap.size, 5, none⟩ = some (.int .i64 r.now) := by rw [Lib.cell_of_heap HRW]; rfl
  have HL := hid (hR.below BW.out)
  clear hR HRW
  go_enter Try.func6, Try.ntmps6
  go_wp2_with fail
  try rw [hW]
  clear hW
  go_loop [3, 4] (fun n i => ∃ k : Nat, k ≤ r.lines.length ∧ i = .int .i64 (k : Int) ∧ n = .int .i64 ((r.id.size + r.hold.size + wl (r.lines.take k) : Nat) : Int)) (fun _ i => r.lines.length - (intOf i).toNat)
  case atStart => exact ⟨0, by omega, rfl, by simp [wl]⟩
  case round =>
    obtain ⟨k, hk, rfl, rfl⟩ := hrel
    by_cases h : k < r.lines.length
    · have hI : (k : Int) < (r.lines.length : Int) := by omega
      rcases HL.out with ⟨h0, _⟩ | ⟨b, off, cp, hv, hcp, hcell⟩
      · rw [h0] at h; simp at h
      cases hv
      have d0 := (hcell k h).1
      have HT := hid (wl_take r.lines k h)
      have hle := wl_le r.lines (k + 1)
      rw [HT.out] at hle
      clear hcell
      generalize (r.lines[k]'h).1 = x at *
      generalize wl (r.lines.take k) = m at *
      go_wp2_with fail
      go_round
      case rel => exact ⟨k + 1, by omega, by go_num, by rw [HT.out]; go_num⟩
      case measure => simp [intOf]; omega
    · obtain rfl : k = r.lines.length := by omega
      rw [List.take_length]
      go_wp2
      go_ret
      exact ⟨rfl, BW.out⟩
set_option maxHeartbeats 2000000 in
theorem sameRequest_any (r : Rq) (v1 v2 : Value) (w : World) (h1 : RLn w v1 r.lines) (h2 : RLn w v2 r.lines) (hl : r.lines.length ≤ 1000000000000) :
    Calls Try.prog 19 #[.agg (rqC r v1), .agg (rqC r v2)] w fun e w' => e = .returned (.bool true) ∧ Below w.heap.size w w' := by
  unfold rqC
  obtain ⟨a1, p1, e1⟩ := h1.form
  obtain ⟨a2, p2, e2⟩ := h2.form
  obtain ⟨W, hW⟩ : ∃ W, (w.alloc (.cells #[.string r.id, .int .i64 r.kind, v1, .string r.hold, .int .i64 r.ttl, .int .i64 r.now] 24)).alloc (.cells #[.string r.id, .int .i64 r.kind, v2, .string r.hold, .int .i64 r.ttl, .int .i64 r.now] 24) = W := ⟨_, rfl⟩
  have zW : W.heap.size = w.heap.size + 2 := by rw [← hW]; simp
  have BW := hid (show Below w.heap.size w W by rw [← hW]; exact ((Below.refl _ _).alloc (Nat.le_refl _) _).alloc (by simp) _)
  have H1 := hid (show W.heap[w.heap.size]? = some (.cells #[.string r.id, .int .i64 r.kind, v1, .string r.hold, .int .i64 r.ttl, .int .i64 r.now] 24 (0, 0)) by
    rw [← hW]
    exact (((Below.refl (w.alloc (.cells #[.string r.id, .int .i64 r.kind, v1, .string r.hold, .int .i64 r.ttl, .int .i64 r.now] 24)).heap.size _).alloc (Nat.le_refl _) _).block w.heap.size (by simp)).trans (heap_alloc_new w _))
  have H2 := hid (show W.heap[w.heap.size + 1]? = some (.cells #[.string r.id, .int .i64 r.kind, v2, .string r.hold, .int .i64 r.ttl, .int .i64 r.now] 24 (0, 0)) by
    rw [← hW]
    have := heap_alloc_new (w.alloc (.cells #[.string r.id, .int .i64 r.kind, v1, .string r.hold, .int .i64 r.ttl, .int .i64 r.now] 24)) (.cells #[.string r.id, .int .i64 r.kind, v2, .string r.hold, .int .i64 r.ttl, .int .i64 r.now] 24)
    rw [World.size_alloc] at this
    exact this)
  have HS := hid (sameLines_any v1 v2 r.lines W (h1.below BW.out) (h2.below BW.out) hl)
  have c0 : W.cell? ⟨w.heap.size, 0, none⟩ = some (.string r.id) := by rw [Lib.cell_of_heap H1.out]; rfl
  have c1 : W.cell? ⟨w.heap.size, 1, none⟩ = some (.int .i64 r.kind) := by rw [Lib.cell_of_heap H1.out]; rfl
  have c2 : W.cell? ⟨w.heap.size, 2, none⟩ = some (v1) := by rw [Lib.cell_of_heap H1.out]; rfl
  have c3 : W.cell? ⟨w.heap.size, 3, none⟩ = some (.string r.hold) := by rw [Lib.cell_of_heap H1.out]; rfl
  have c4 : W.cell? ⟨w.heap.size, 4, none⟩ = some (.int .i64 r.ttl) := by rw [Lib.cell_of_heap H1.out]; rfl
  have c5 : W.cell? ⟨w.heap.size, 5, none⟩ = some (.int .i64 r.now) := by rw [Lib.cell_of_heap H1.out]; rfl
  have d0 : W.cell? ⟨w.heap.size + 1, 0, none⟩ = some (.string r.id) := by rw [Lib.cell_of_heap H2.out]; rfl
  have d1 : W.cell? ⟨w.heap.size + 1, 1, none⟩ = some (.int .i64 r.kind) := by rw [Lib.cell_of_heap H2.out]; rfl
  have d2 : W.cell? ⟨w.heap.size + 1, 2, none⟩ = some (v2) := by rw [Lib.cell_of_heap H2.out]; rfl
  have d3 : W.cell? ⟨w.heap.size + 1, 3, none⟩ = some (.string r.hold) := by rw [Lib.cell_of_heap H2.out]; rfl
  have d4 : W.cell? ⟨w.heap.size + 1, 4, none⟩ = some (.int .i64 r.ttl) := by rw [Lib.cell_of_heap H2.out]; rfl
  have d5 : W.cell? ⟨w.heap.size + 1, 5, none⟩ = some (.int .i64 r.now) := by rw [Lib.cell_of_heap H2.out]; rfl
  subst e1
  subst e2
  have HW := hid hW
  clear h1 h2
  go_enter Try.func19, Try.ntmps19
  go_wp2_with fail
  try rw [HW.out]
  refine Calls.mono HS.out ?_
  rintro e w3 ⟨rfl, hb3⟩
  have B3 := hid (BW.out.trans (hb3.mono (by omega)))
  have c3' := below_cells hb3 _ _ c3
  have d3' := below_cells hb3 _ _ d3
  have c4' := below_cells hb3 _ _ c4
  have d4' := below_cells hb3 _ _ d4
  have c5' := below_cells hb3 _ _ c5
  have d5' := below_cells hb3 _ _ d5
  clear hb3 HS hW c0 c1 c2 c3 c4 c5 d0 d1 d2 d3 d4 d5
  go_wp2
  go_ret
  exact ⟨rfl, B3.out⟩
theorem LentN.old {w w' : World} {v : Value} {L : List Ln} {B : Nat} (h : LentN w v L) (hv : ∀ k, v.ownBlock = some k → B ≤ k) (hk : ∀ k, B ≤ k → k < w.heap.size → w'.heap[k]? = w.heap[k]?) : LentN w' v L := by
  obtain ⟨b, cap, rfl, h1, h2, hc⟩ := h
  have hb := hv b rfl
  refine ⟨b, cap, rfl, h1, h2, fun j hj => ?_⟩
  have hlt := World.block_lt_of_cell? _ _ (hc j hj).1
  exact ⟨(World.cell?_of_block (hk b hb hlt)).trans (hc j hj).1, (World.cell?_of_block (hk b hb hlt)).trans (hc j hj).2⟩
end Go.Proofs.Ytfhicemfhkhjaab
