/-
  stock: the program's Normal.
-/
import Derived.Test.YtebkagmlhmdckaaGreatCk6
import Derived.Test.YtebkagmlhmdckaaGreatCk8
import Derived.Test.YtebkagmlhmdckaaGreatCki
import Derived.Test.YtebkagmlhmdckaaGreatCkb
import Derived.Test.YtebkagmlhmdckaaGreatCkc
namespace Go.Proofs.YtebkagmlhmdckaaGreat
open Go.RowKit
set_option maxRecDepth 100000
set_option linter.unusedSimpArgs false

theorem RLn.old {w w' : World} {v : Value} {L : List Ln} {B : Nat} (h : RLn w v L) (hv : ∀ k, v.ownBlock = some k → B ≤ k) (hk : ∀ k, B ≤ k → k < w.heap.size → w'.heap[k]? = w.heap[k]?) : RLn w' v L := by
  rcases h with h | ⟨b, off, cap, rfl, h1, hc⟩
  · exact .inl h
  have hb := hv b rfl
  refine .inr ⟨b, off, cap, rfl, h1, fun j hj => ?_⟩
  have hlt := World.block_lt_of_cell? _ _ (hc j hj).1
  exact ⟨(World.cell?_of_block (hk b hb hlt)).trans (hc j hj).1, (World.cell?_of_block (hk b hb hlt)).trans (hc j hj).2⟩

set_option maxHeartbeats 8000000 in
theorem normal_ok (r : Rq) (ao : Option Addr) (cap : Nat) (w : World) (hR : RLn w (.slice ao r.lines.length cap) r.lines) (hS : ∀ y ∈ r.lines, y.1.size ≤ 9223372036854775807) (h1 : r.id.size ≤ 9223372036854775807) (h2 : r.hold.size ≤ 9223372036854775807) (hs : ∀ W : World, RLn W (.slice ao r.lines.length cap) r.lines → Calls Tryz.prog 17 #[.slice ao r.lines.length cap] W fun e w' => ∃ v', e = .returned v' ∧ RLn w' v' (ptN r.lines) ∧ (∀ k, v'.ownBlock = some k → W.heap.size ≤ k) ∧ Below W.heap.size W w') (hc : (ckA r).1 = 0) :
    Calls Tryz.prog 6 #[rqV r ao cap] w fun e w' => ∃ v', e = .returned (.tuple #[.agg #[.string r.id, .int .i64 r.kind, v', .string r.hold, .int .i64 r.ttl, .int .i64 r.now], .int .i64 0, .int .i64 0]) ∧ RLn w' v' (ptN r.lines) ∧ Below w.heap.size w w' := by
  obtain ⟨W, hW⟩ : ∃ W, (w.alloc (.cells #[.string r.id, .int .i64 r.kind, .slice ao r.lines.length cap, .string r.hold, .int .i64 r.ttl, .int .i64 r.now] 24)).alloc (.cells #[.string ⟨#[]⟩, .int .i64 0, .slice none 0 0, .string ⟨#[]⟩, .int .i64 0, .int .i64 0] 24) = W := ⟨_, rfl⟩
  have zW : W.heap.size = w.heap.size + 2 := by rw [← hW]; simp
  have BW := hid (show Below w.heap.size w W by rw [← hW]; exact ((Below.refl _ _).alloc (Nat.le_refl _) _).alloc (by simp) _)
  have A1 : W.heap[w.heap.size]? = some (.cells #[.string r.id, .int .i64 r.kind, .slice ao r.lines.length cap, .string r.hold, .int .i64 r.ttl, .int .i64 r.now] 24 (0, 0)) := by
    rw [← hW]
    exact (((Below.refl (w.alloc (.cells #[.string r.id, .int .i64 r.kind, .slice ao r.lines.length cap, .string r.hold, .int .i64 r.ttl, .int .i64 r.now] 24)).heap.size _).alloc (Nat.le_refl _) _).block w.heap.size (by simp)).trans (heap_alloc_new w _)
  have A2 : W.heap[w.heap.size + 1]? = some (.cells #[.string ⟨#[]⟩, .int .i64 0, .slice none 0 0, .string ⟨#[]⟩, .int .i64 0, .int .i64 0] 24 (0, 0)) := by
    rw [← hW]
    have := heap_alloc_new (w.alloc (.cells #[.string r.id, .int .i64 r.kind, .slice ao r.lines.length cap, .string r.hold, .int .i64 r.ttl, .int .i64 r.now] 24)) (.cells #[.string ⟨#[]⟩, .int .i64 0, .slice none 0 0, .string ⟨#[]⟩, .int .i64 0, .int .i64 0] 24)
    rw [World.size_alloc] at this
    exact this
  have HC := hid (check_any r ao cap W (hR.below BW.out) hS h1 h2)
  have HL := hid (hR.below BW.out)
  obtain ⟨c0, c1, c2, c3, c4, c5⟩ : W.cell? ⟨w.heap.size, 0, none⟩ = some (.string r.id) ∧ W.cell? ⟨w.heap.size, 1, none⟩ = some (.int .i64 r.kind) ∧ W.cell? ⟨w.heap.size, 2, none⟩ = some (.slice ao r.lines.length cap) ∧ W.cell? ⟨w.heap.size, 3, none⟩ = some (.string r.hold) ∧ W.cell? ⟨w.heap.size, 4, none⟩ = some (.int .i64 r.ttl) ∧ W.cell? ⟨w.heap.size, 5, none⟩ = some (.int .i64 r.now) := ⟨by rw [Lib.cell_of_heap A1]; rfl, by rw [Lib.cell_of_heap A1]; rfl, by rw [Lib.cell_of_heap A1]; rfl, by rw [Lib.cell_of_heap A1]; rfl, by rw [Lib.cell_of_heap A1]; rfl, by rw [Lib.cell_of_heap A1]; rfl⟩
  have HW := hid hW
  have R1 := hid A1
  have R2 := hid A2
  have ZW := hid zW
  unfold rqV at HC ⊢
  rw [ckA_ok hc] at HC
  clear hR hS h1 h2 A1 A2 hW zW hc
  go_enter Tryz.func6, Tryz.ntmps6
  go_upto_region 1 with fail
  rw [HW.out]
  go_wp2_with fail
  refine Calls.mono HC.out ?_
  rintro e w3 ⟨rfl, hb3⟩
  have zw := ZW.out
  have z3 := hb3.size
  have e1 := (hb3.block w.heap.size (by omega)).trans R1.out
  have e2 := (hb3.block (w.heap.size + 1) (by omega)).trans R2.out
  have B3 := hid (BW.out.trans (hb3.mono (by omega)))
  have HS := hid (hs w3 (HL.out.below hb3))
  have E1 := hid e1
  have E2 := hid e2
  clear c0 c1 c2 c3 c4 c5 HC hs
  have c2 : w3.cell? ⟨w.heap.size, 2, none⟩ = some (.slice ao r.lines.length cap) := by rw [Lib.cell_of_heap e1]; rfl
  clear hb3 e1 e2
  go_wp2_with fail
  refine Calls.mono HS.out ?_
  rintro e w4 ⟨v', rfl, hr4, ho4, hb4⟩
  have z4 := hb4.size
  have e1 := (hb4.block w.heap.size (by omega)).trans E1.out
  have e2 := (hb4.block (w.heap.size + 1) (by omega)).trans E2.out
  clear c2
  obtain ⟨oo, on, oc, rfl⟩ : ∃ oo on oc, v' = .slice oo on oc := by
    rcases hr4 with ⟨_, x, y, h, _⟩ | ⟨b, o, c, h, _⟩
    · exact ⟨_, _, _, h⟩
    · exact ⟨_, _, _, h⟩
  have q2 := Lib.frozen_of_heap e1 2
  have f0 := Lib.frozen_of_heap e2 0
  have f1 := Lib.frozen_of_heap e2 1
  have f2 := Lib.frozen_of_heap e2 2
  have f3 := Lib.frozen_of_heap e2 3
  have f4 := Lib.frozen_of_heap e2 4
  have f5 := Lib.frozen_of_heap e2 5
  have c0 : w4.cell? ⟨w.heap.size, 0, none⟩ = some (.string r.id) := by rw [Lib.cell_of_heap e1]; rfl
  have c1 : w4.cell? ⟨w.heap.size, 1, none⟩ = some (.int .i64 r.kind) := by rw [Lib.cell_of_heap e1]; rfl
  have c2 : w4.cell? ⟨w.heap.size, 2, none⟩ = some (.slice ao r.lines.length cap) := by rw [Lib.cell_of_heap e1]; rfl
  have c3 : w4.cell? ⟨w.heap.size, 3, none⟩ = some (.string r.hold) := by rw [Lib.cell_of_heap e1]; rfl
  have c4 : w4.cell? ⟨w.heap.size, 4, none⟩ = some (.int .i64 r.ttl) := by rw [Lib.cell_of_heap e1]; rfl
  have c5 : w4.cell? ⟨w.heap.size, 5, none⟩ = some (.int .i64 r.now) := by rw [Lib.cell_of_heap e1]; rfl
  have d0 : w4.cell? ⟨w.heap.size + 1, 0, none⟩ = some (.string ⟨#[]⟩) := by rw [Lib.cell_of_heap e2]; rfl
  have d1 : w4.cell? ⟨w.heap.size + 1, 1, none⟩ = some (.int .i64 0) := by rw [Lib.cell_of_heap e2]; rfl
  have d2 : w4.cell? ⟨w.heap.size + 1, 2, none⟩ = some (.slice none 0 0) := by rw [Lib.cell_of_heap e2]; rfl
  have d3 : w4.cell? ⟨w.heap.size + 1, 3, none⟩ = some (.string ⟨#[]⟩) := by rw [Lib.cell_of_heap e2]; rfl
  have d4 : w4.cell? ⟨w.heap.size + 1, 4, none⟩ = some (.int .i64 0) := by rw [Lib.cell_of_heap e2]; rfl
  have d5 : w4.cell? ⟨w.heap.size + 1, 5, none⟩ = some (.int .i64 0) := by rw [Lib.cell_of_heap e2]; rfl
  have B4 := hid (B3.out.trans (hb4.mono (by omega)))
  have E1' := hid e1
  have E2' := hid e2
  have R4 := hid (And.intro hr4 ho4)
  clear hb4 HS hr4 ho4 e1 e2
  go_wp2_with fail
  obtain ⟨W4, hW4⟩ : ∃ W4, w4.setCell ⟨w.heap.size, 2, none⟩ (.slice oo on oc) = W4 := ⟨_, rfl⟩
  obtain ⟨W7, hW7⟩ : ∃ W7, ((((((W4.setCell ⟨w.heap.size + 1, 0, none⟩ (.string r.id)).setCell ⟨w.heap.size + 1, 1, none⟩ (.int .i64 r.kind)).setCell ⟨w.heap.size + 1, 2, none⟩ (.slice oo on oc)).setCell ⟨w.heap.size + 1, 3, none⟩ (.string r.hold)).setCell ⟨w.heap.size + 1, 4, none⟩ (.int .i64 r.ttl)).setCell ⟨w.heap.size + 1, 5, none⟩ (.int .i64 r.now)) = W7 := ⟨_, rfl⟩
  clear c0 c1 c2 c3 c4 c5 d0 d1 d2 d3 d4 d5 q2 f0 f1 f2 f3 f4 f5
  have A4 : W4.heap[w.heap.size + 1]? = some (.cells #[.string ⟨#[]⟩, .int .i64 0, .slice none 0 0, .string ⟨#[]⟩, .int .i64 0, .int .i64 0] 24 (0, 0)) := by rw [← hW4]; exact (heap_setCell_other w4 ⟨w.heap.size, 2, none⟩ _ _ (by show w.heap.size + 1 ≠ w.heap.size; omega)).trans E2'.out
  have K4 : Tb w.heap.size (w.heap.size + 1) w4 W4 := by rw [← hW4]; exact Tb.set w4 ⟨w.heap.size, 2, none⟩ _ (.inl rfl)
  have E7 : W7.heap[w.heap.size + 1]? = some (.cells #[.string r.id, .int .i64 r.kind, .slice oo on oc, .string r.hold, .int .i64 r.ttl, .int .i64 r.now] 24 (0, 0)) := by rw [← hW7]; exact (heap_setCell_same _ _ 5 _ _ _ (heap_setCell_same _ _ 4 _ _ _ (heap_setCell_same _ _ 3 _ _ _ (heap_setCell_same _ _ 2 _ _ _ (heap_setCell_same _ _ 1 _ _ _ (heap_setCell_same _ _ 0 _ _ _ A4))))))
  have K7 : Tb w.heap.size (w.heap.size + 1) W4 W7 := by rw [← hW7]; exact (((((Tb.set W4 ⟨w.heap.size + 1, 0, none⟩ _ (.inr rfl)).trans (Tb.set _ ⟨w.heap.size + 1, 1, none⟩ _ (.inr rfl))).trans (Tb.set _ ⟨w.heap.size + 1, 2, none⟩ _ (.inr rfl))).trans (Tb.set _ ⟨w.heap.size + 1, 3, none⟩ _ (.inr rfl))).trans (Tb.set _ ⟨w.heap.size + 1, 4, none⟩ _ (.inr rfl))).trans (Tb.set _ ⟨w.heap.size + 1, 5, none⟩ _ (.inr rfl))
  have T7 := K4.trans K7
  have B7 := B4.out.trans (show Below w.heap.size w4 W7 from ⟨T7.os, T7.tape, T7.output, T7.size, fun k hk => T7.block k (by omega) (by omega) (by omega)⟩)
  have z3 := B3.out.size
  have RR := R4.out.1.old R4.out.2 (fun k hk hk2 => T7.block k hk2 (by omega) (by omega))
  have d0 : W7.cell? ⟨w.heap.size + 1, 0, none⟩ = some (.string r.id) := by rw [Lib.cell_of_heap E7]; rfl
  have d1 : W7.cell? ⟨w.heap.size + 1, 1, none⟩ = some (.int .i64 r.kind) := by rw [Lib.cell_of_heap E7]; rfl
  have d2 : W7.cell? ⟨w.heap.size + 1, 2, none⟩ = some (.slice oo on oc) := by rw [Lib.cell_of_heap E7]; rfl
  have d3 : W7.cell? ⟨w.heap.size + 1, 3, none⟩ = some (.string r.hold) := by rw [Lib.cell_of_heap E7]; rfl
  have d4 : W7.cell? ⟨w.heap.size + 1, 4, none⟩ = some (.int .i64 r.ttl) := by rw [Lib.cell_of_heap E7]; rfl
  have d5 : W7.cell? ⟨w.heap.size + 1, 5, none⟩ = some (.int .i64 r.now) := by rw [Lib.cell_of_heap E7]; rfl
  rw [hW4, hW7]
  refine bodyPost_ret (by simp [results, Tryz.results6, go_sem, d0, d1, d2, d3, d4, d5]; try rfl) rfl ?_
  exact ⟨_, rfl, RR, B7⟩
end Go.Proofs.YtebkagmlhmdckaaGreat
