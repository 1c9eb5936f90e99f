/-
  stock: the document's Normal.
-/
import Derived.Test.YtebkagmlhmdckaaGreatCk6
import Derived.Test.YtebkagmlhmdckaaGreatCk8
import Derived.Test.YtebkagmlhmdckaaGreatCkh
namespace Go.Proofs.YtebkagmlhmdckaaGreat
open Go.RowKit
set_option maxRecDepth 100000
set_option linter.unusedSimpArgs false

set_option maxHeartbeats 8000000 in
theorem normal_no (r : Rq) (ao : Option Addr) (cap : Nat) (w : World) (hR : RLn w (.slice ao r.lines.length cap) r.lines) (hS : ∀ y ∈ r.lines, y.1.size ≤ 9223372036854775807) (h1 : r.id.size ≤ 9223372036854775807) (h2 : r.hold.size ≤ 9223372036854775807) (hc : (ckA r).1 ≠ 0) :
    Calls Tryz.prog 6 #[rqV r ao cap] w fun e w' => e = .returned (.tuple #[.agg #[.string ⟨#[]⟩, .int .i64 0, .slice none 0 0, .string ⟨#[]⟩, .int .i64 0, .int .i64 0], .int .i64 (ckA r).1, .int .i64 ((ckA r).2 : Nat)]) ∧ Below w.heap.size w w' := by
  obtain ⟨W, hW⟩ : ∃ W, (w.alloc (.cells #[.string r.id, .int .i64 r.kind, .slice ao r.lines.length cap, .string r.hold, .int .i64 r.ttl, .int .i64 r.now] 24)).alloc (.cells #[.string ⟨#[]⟩, .int .i64 0, .slice none 0 0, .string ⟨#[]⟩, .int .i64 0, .int .i64 0] 24) = W := ⟨_, rfl⟩
  have zW : W.heap.size = w.heap.size + 2 := by rw [← hW]; simp
  have BW := hid (show Below w.heap.size w W by rw [← hW]; exact ((Below.refl _ _).alloc (Nat.le_refl _) _).alloc (by simp) _)
  have A1 : W.heap[w.heap.size]? = some (.cells #[.string r.id, .int .i64 r.kind, .slice ao r.lines.length cap, .string r.hold, .int .i64 r.ttl, .int .i64 r.now] 24 (0, 0)) := by
    rw [← hW]
    exact (((Below.refl (w.alloc (.cells #[.string r.id, .int .i64 r.kind, .slice ao r.lines.length cap, .string r.hold, .int .i64 r.ttl, .int .i64 r.now] 24)).heap.size _).alloc (Nat.le_refl _) _).block w.heap.size (by simp)).trans (heap_alloc_new w _)
  have A2 : W.heap[w.heap.size + 1]? = some (.cells #[.string ⟨#[]⟩, .int .i64 0, .slice none 0 0, .string ⟨#[]⟩, .int .i64 0, .int .i64 0] 24 (0, 0)) := by
    rw [← hW]
    have := heap_alloc_new (w.alloc (.cells #[.string r.id, .int .i64 r.kind, .slice ao r.lines.length cap, .string r.hold, .int .i64 r.ttl, .int .i64 r.now] 24)) (.cells #[.string ⟨#[]⟩, .int .i64 0, .slice none 0 0, .string ⟨#[]⟩, .int .i64 0, .int .i64 0] 24)
    rw [World.size_alloc] at this
    exact this
  have HC := hid (check_any r ao cap W (hR.below BW.out) hS h1 h2)
  obtain ⟨c0, c1, c2, c3, c4, c5⟩ : W.cell? ⟨w.heap.size, 0, none⟩ = some (.string r.id) ∧ W.cell? ⟨w.heap.size, 1, none⟩ = some (.int .i64 r.kind) ∧ W.cell? ⟨w.heap.size, 2, none⟩ = some (.slice ao r.lines.length cap) ∧ W.cell? ⟨w.heap.size, 3, none⟩ = some (.string r.hold) ∧ W.cell? ⟨w.heap.size, 4, none⟩ = some (.int .i64 r.ttl) ∧ W.cell? ⟨w.heap.size, 5, none⟩ = some (.int .i64 r.now) := ⟨by rw [Lib.cell_of_heap A1]; rfl, by rw [Lib.cell_of_heap A1]; rfl, by rw [Lib.cell_of_heap A1]; rfl, by rw [Lib.cell_of_heap A1]; rfl, by rw [Lib.cell_of_heap A1]; rfl, by rw [Lib.cell_of_heap A1]; rfl⟩
  have HW := hid hW
  have R2 := hid A2
  have ZW := hid zW
  unfold rqV at HC ⊢
  clear hR hS h1 h2 A1 A2 hW zW
  obtain ⟨⟨e1, i1⟩, hl⟩ : ∃ p, ckA r = p := ⟨_, rfl⟩
  rw [hl] at HC hc ⊢
  have hcb : ¬ e1 = 0 := hc
  clear hc hl
  go_enter Tryz.func6, Tryz.ntmps6
  go_upto_region 1 with fail
  rw [HW.out]
  go_wp2_with fail
  refine Calls.mono HC.out ?_
  rintro e w3 ⟨rfl, hb3⟩
  have r3 := (hb3.block (w.heap.size + 1) (by rw [ZW.out]; omega)).trans R2.out
  have B3 := hid (BW.out.trans (hb3.mono (by rw [ZW.out]; omega)))
  obtain ⟨f0, f1, f2, f3, f4, f5⟩ : w3.frozen? ⟨w.heap.size + 1, 0, none⟩ = false ∧ w3.frozen? ⟨w.heap.size + 1, 1, none⟩ = false ∧ w3.frozen? ⟨w.heap.size + 1, 2, none⟩ = false ∧ w3.frozen? ⟨w.heap.size + 1, 3, none⟩ = false ∧ w3.frozen? ⟨w.heap.size + 1, 4, none⟩ = false ∧ w3.frozen? ⟨w.heap.size + 1, 5, none⟩ = false := ⟨Lib.frozen_of_heap r3 0, Lib.frozen_of_heap r3 1, Lib.frozen_of_heap r3 2, Lib.frozen_of_heap r3 3, Lib.frozen_of_heap r3 4, Lib.frozen_of_heap r3 5⟩
  have d0 : w3.cell? ⟨w.heap.size + 1, 0, none⟩ = some (.string ⟨#[]⟩) := by rw [Lib.cell_of_heap r3]; rfl
  have d1 : w3.cell? ⟨w.heap.size + 1, 1, none⟩ = some (.int .i64 0) := by rw [Lib.cell_of_heap r3]; rfl
  have d2 : w3.cell? ⟨w.heap.size + 1, 2, none⟩ = some (.slice none 0 0) := by rw [Lib.cell_of_heap r3]; rfl
  have d3 : w3.cell? ⟨w.heap.size + 1, 3, none⟩ = some (.string ⟨#[]⟩) := by rw [Lib.cell_of_heap r3]; rfl
  have d4 : w3.cell? ⟨w.heap.size + 1, 4, none⟩ = some (.int .i64 0) := by rw [Lib.cell_of_heap r3]; rfl
  have d5 : w3.cell? ⟨w.heap.size + 1, 5, none⟩ = some (.int .i64 0) := by rw [Lib.cell_of_heap r3]; rfl
  have R3 := hid r3
  clear hb3 r3 HC c0 c1 c2 c3 c4 c5
  go_wp2_with fail
  obtain ⟨W7, hW7⟩ : ∃ W7, ((((((w3.setCell ⟨w.heap.size + 1, 0, none⟩ (.string ⟨#[]⟩)).setCell ⟨w.heap.size + 1, 1, none⟩ (.int .i64 0)).setCell ⟨w.heap.size + 1, 2, none⟩ (.slice none 0 0)).setCell ⟨w.heap.size + 1, 3, none⟩ (.string ⟨#[]⟩)).setCell ⟨w.heap.size + 1, 4, none⟩ (.int .i64 0)).setCell ⟨w.heap.size + 1, 5, none⟩ (.int .i64 0)) = W7 := ⟨_, rfl⟩
  have E7 : W7.heap[w.heap.size + 1]? = some (.cells #[.string ⟨#[]⟩, .int .i64 0, .slice none 0 0, .string ⟨#[]⟩, .int .i64 0, .int .i64 0] 24 (0, 0)) := by rw [← hW7]; exact (heap_setCell_same _ _ 5 _ _ _ (heap_setCell_same _ _ 4 _ _ _ (heap_setCell_same _ _ 3 _ _ _ (heap_setCell_same _ _ 2 _ _ _ (heap_setCell_same _ _ 1 _ _ _ (heap_setCell_same _ _ 0 _ _ _ R3.out))))))
  have B7 := hid (show Below w.heap.size w W7 by rw [← hW7]; exact (((((B3.out.setCell (p := ⟨w.heap.size + 1, 0, none⟩) (by show w.heap.size ≤ w.heap.size + 1; omega) _).setCell (p := ⟨w.heap.size + 1, 1, none⟩) (by show w.heap.size ≤ w.heap.size + 1; omega) _).setCell (p := ⟨w.heap.size + 1, 2, none⟩) (by show w.heap.size ≤ w.heap.size + 1; omega) _).setCell (p := ⟨w.heap.size + 1, 3, none⟩) (by show w.heap.size ≤ w.heap.size + 1; omega) _).setCell (p := ⟨w.heap.size + 1, 4, none⟩) (by show w.heap.size ≤ w.heap.size + 1; omega) _).setCell (p := ⟨w.heap.size + 1, 5, none⟩) (by show w.heap.size ≤ w.heap.size + 1; omega) _)
  rw [hW7]
  have g0 : W7.cell? ⟨w.heap.size + 1, 0, none⟩ = some (.string ⟨#[]⟩) := by rw [Lib.cell_of_heap E7]; rfl
  have g1 : W7.cell? ⟨w.heap.size + 1, 1, none⟩ = some (.int .i64 0) := by rw [Lib.cell_of_heap E7]; rfl
  have g2 : W7.cell? ⟨w.heap.size + 1, 2, none⟩ = some (.slice none 0 0) := by rw [Lib.cell_of_heap E7]; rfl
  have g3 : W7.cell? ⟨w.heap.size + 1, 3, none⟩ = some (.string ⟨#[]⟩) := by rw [Lib.cell_of_heap E7]; rfl
  have g4 : W7.cell? ⟨w.heap.size + 1, 4, none⟩ = some (.int .i64 0) := by rw [Lib.cell_of_heap E7]; rfl
  have g5 : W7.cell? ⟨w.heap.size + 1, 5, none⟩ = some (.int .i64 0) := by rw [Lib.cell_of_heap E7]; rfl
  refine bodyPost_ret (by simp [results, Tryz.results6, go_sem, g0, g1, g2, g3, g4, g5]; try rfl) rfl ?_
  exact ⟨rfl, B7.out⟩
end Go.Proofs.YtebkagmlhmdckaaGreat
