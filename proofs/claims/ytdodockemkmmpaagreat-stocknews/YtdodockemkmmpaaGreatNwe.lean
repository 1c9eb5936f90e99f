/-
  stock: two states without holds and requests are the same.
-/
import Derived.Test.YtdodockemkmmpaaGreatNw9
namespace Go.Proofs.YtdodockemkmmpaaGreat
open Go.RowKit
set_option maxRecDepth 100000

theorem RLv.at {w : World} {ao : Option Addr} {cap : Nat} {L : List Lv} (h : RLv w (.slice ao L.length cap) L) (k : Nat) (hk : k < L.length) : ∃ b off, ao = some ⟨b, off, none⟩ ∧ w.cell? ⟨b, off + k * 3, none⟩ = some (.string L[k].1) ∧ w.cell? ⟨b, off + k * 3 + 1, none⟩ = some (.int .i64 L[k].2.1) ∧ w.cell? ⟨b, off + k * 3 + 2, none⟩ = some (.int .i64 L[k].2.2) := by
  rcases h with ⟨rfl, _⟩ | ⟨b, off, cap2, e, hl, hc⟩
  · simp at hk
  · cases e
    exact ⟨b, off, rfl, (hc k hk).1, (hc k hk).2.1, (hc k hk).2.2⟩
set_option maxHeartbeats 2000000 in
theorem sameState0_any (room : Int) (v1 v2 : Value) (L : List Lv) (w : World) (h1 : RLv w v1 L) (h2 : RLv w v2 L) (hl : L.length ≤ 1000000000000) :
    Calls Tryz.prog 9 #[s0V room v1, s0V room v2] w fun e w' => e = .returned (.bool true) ∧ Below w.heap.size w w' := by
  obtain ⟨a1, p1, rfl⟩ := h1.form
  obtain ⟨a2, p2, rfl⟩ := h2.form
  unfold s0V
  obtain ⟨W, hW⟩ : ∃ W, (w.alloc (.cells #[.int .i64 room, .int .i64 0, .int .i64 0, .slice a1 L.length p1, .slice none 0 0, .slice none 0 0] 32)).alloc (.cells #[.int .i64 room, .int .i64 0, .int .i64 0, .slice a2 L.length p2, .slice none 0 0, .slice none 0 0] 32) = W := ⟨_, rfl⟩
  have BW := hid (show Below w.heap.size w W by rw [← hW]; exact ((Below.refl _ _).alloc (Nat.le_refl _) _).alloc (by rw [World.size_alloc]; omega) _)
  have R0 := hid (show W.heap[w.heap.size]? = some (.cells #[.int .i64 room, .int .i64 0, .int .i64 0, .slice a1 L.length p1, .slice none 0 0, .slice none 0 0] 32 (0, 0)) by
    rw [← hW, heap_alloc_old _ _ (by simp only [World.size_alloc]; omega)]
    exact heap_alloc_new w _)
  have R1 := hid (show W.heap[w.heap.size + 1]? = some (.cells #[.int .i64 room, .int .i64 0, .int .i64 0, .slice a2 L.length p2, .slice none 0 0, .slice none 0 0] 32 (0, 0)) by
    rw [← hW]
    have := heap_alloc_new (w.alloc (.cells #[.int .i64 room, .int .i64 0, .int .i64 0, .slice a1 L.length p1, .slice none 0 0, .slice none 0 0] 32)) (.cells #[.int .i64 room, .int .i64 0, .int .i64 0, .slice a2 L.length p2, .slice none 0 0, .slice none 0 0] 32)
    rwa [World.size_alloc] at this)
  have H1 := hid (h1.below BW.out)
  have H2 := hid (h2.below BW.out)
  have HW := hid hW
  have c0 : W.cell? ⟨w.heap.size, 0, none⟩ = some (.int .i64 room) := by rw [Lib.cell_of_heap R0.out]; rfl
  have d0 : W.cell? ⟨w.heap.size + 1, 0, none⟩ = some (.int .i64 room) := by rw [Lib.cell_of_heap R1.out]; rfl
  have c1 : W.cell? ⟨w.heap.size, 1, none⟩ = some (.int .i64 0) := by rw [Lib.cell_of_heap R0.out]; rfl
  have d1 : W.cell? ⟨w.heap.size + 1, 1, none⟩ = some (.int .i64 0) := by rw [Lib.cell_of_heap R1.out]; rfl
  have c2 : W.cell? ⟨w.heap.size, 2, none⟩ = some (.int .i64 0) := by rw [Lib.cell_of_heap R0.out]; rfl
  have d2 : W.cell? ⟨w.heap.size + 1, 2, none⟩ = some (.int .i64 0) := by rw [Lib.cell_of_heap R1.out]; rfl
  have c3 : W.cell? ⟨w.heap.size, 3, none⟩ = some (.slice a1 L.length p1) := by rw [Lib.cell_of_heap R0.out]; rfl
  have d3 : W.cell? ⟨w.heap.size + 1, 3, none⟩ = some (.slice a2 L.length p2) := by rw [Lib.cell_of_heap R1.out]; rfl
  have c4 : W.cell? ⟨w.heap.size, 4, none⟩ = some (.slice none 0 0) := by rw [Lib.cell_of_heap R0.out]; rfl
  have d4 : W.cell? ⟨w.heap.size + 1, 4, none⟩ = some (.slice none 0 0) := by rw [Lib.cell_of_heap R1.out]; rfl
  have c5 : W.cell? ⟨w.heap.size, 5, none⟩ = some (.slice none 0 0) := by rw [Lib.cell_of_heap R0.out]; rfl
  have d5 : W.cell? ⟨w.heap.size + 1, 5, none⟩ = some (.slice none 0 0) := by rw [Lib.cell_of_heap R1.out]; rfl
  have K3 := hid (And.intro c3 d3)
  have K4 := hid (And.intro c4 c5)
  clear h1 h2 hW
  go_enter Tryz.func9, Tryz.ntmps9
  go_wp2_with fail
  rw [HW.out]
  go_wp2_with fail
  clear c0 d0 c1 d1 c2 d2 c3 d3 c4 d4 c5 d5
  go_loopw [5] (fun i wr => ∃ k : Nat, k ≤ L.length ∧ i = .int .i64 (k : Int) ∧ Below W.heap.size W wr) (fun i _ => L.length - (intOf i).toNat)
  case atStart => exact ⟨0, by omega, rfl, Below.refl _ _⟩
  case round =>
    obtain ⟨k, hk, rfl, hbl⟩ := hrel
    have k3 := below_cells hbl _ _ K3.out.1
    by_cases hlt : k < L.length
    · have l3 := below_cells hbl _ _ K3.out.2
      obtain ⟨b, off, rfl, e0, e1, e2⟩ := (H1.out.below hbl).at k hlt
      obtain ⟨b2, off2, rfl, f0, f1, f2⟩ := (H2.out.below hbl).at k hlt
      have hI : (k : Int) < (L.length : Int) := by omega
      generalize (L[k]'hlt).1 = x at e0 f0
      generalize (L[k]'hlt).2.1 = y at e1 f1
      generalize (L[k]'hlt).2.2 = z at e2 f2
      go_wp2_with fail
      go_quiet (fail)
      have hB1 := below_drewN hbl nq
      clear e0 e1 e2 f0 f1 f2 k3 l3
      go_wp2
      go_roundw
      case rel => exact ⟨k + 1, by omega, by go_num, hB1⟩
      case measure => simp [intOf]; omega
    · have hI : ¬ (k : Int) < (L.length : Int) := by omega
      have k4 := below_cells hbl _ _ K4.out.1
      have k5 := below_cells hbl _ _ K4.out.2
      have HB := hid hbl
      clear hbl
      go_wp2_with fail
      refine wp_loop_rounds 1 ?_
      rw [rounds_succ]
      go_wp2_with fail
      refine wp_loop_rounds 1 ?_
      rw [rounds_succ]
      go_wp2_with fail
      go_ret
      exact ⟨rfl, BW.out.trans (HB.out.mono BW.out.size)⟩
end Go.Proofs.YtdodockemkmmpaaGreat
