/-
  wheel: a name added to an empty wheel.
-/
import Derived.Test.YtffmlnocednehaaWh7
import Derived.Carry
namespace Go.Proofs.Ytffmlnocednehaa
open Go.RowKit Go.Maps Go.WideMaps
set_option maxRecDepth 100000

theorem whR_set_m {now : Int} {R : List Value} {m m' : Value} (h : R.length = 448) : (whR now R m).setIfInBounds 449 m' = whR now R m' := by
  unfold whR
  apply Array.ext'
  simp [List.set_append_right, h]
theorem whR_set_s {now : Int} {R : List Value} {m v : Value} {k : Nat} (h : k < R.length) : (whR now R m).setIfInBounds (1 + k) v = whR now (R.set k v) m := by
  unfold whR
  apply Array.ext'
  rw [Nat.add_comm]
  simp [List.set_append_left _ _ h]
theorem gb_setCell (w : World) (p : Addr) (v : Value) : w.grownBy (w.setCell p v) (some p.block) := ⟨rfl, rfl, rfl, by simp [World.setCell], fun k _ hr => Below.heap_setCell w p v k (fun e => hr (by rw [e]))⟩
set_option maxHeartbeats 1000000 in
theorem add_five (g : Nat) (R : List Value) (w : World) (hl : R.length = 448) (h5 : R[5]? = some (.pointer none)) (hg : w.heap[g]? = some (.cells (whR 0 R (.map none)) 63 (0, 0))) :
    Calls Try.prog 22 #[.pointer (some ⟨g, 0, none⟩), .string ⟨#[97, 97, 97]⟩, .int .i64 5] w fun e w' => e = .returned (.int .i64 0) ∧ ∃ t mb, t ≠ g ∧ mb ≠ g ∧ mb ≠ t ∧ w.heap.size ≤ t ∧ w.heap.size ≤ mb ∧ w'.heap[g]? = some (.cells (whR 0 (R.set 5 (.pointer (some ⟨t, 0, none⟩))) (.map (some mb))) 63 (0, 0)) ∧ w'.heap[t]? = some (.cells #[.string ⟨#[97, 97, 97]⟩, .int .i64 5, .pointer none, .pointer none] 75 (0, 0)) ∧ NP w' mb 1 (updN (fun _ => .pointer none) ⟨#[97, 97, 97]⟩ (.pointer (some ⟨t, 0, none⟩))) ∧ Below g w w' := by
  have c0 : w.cell? ⟨g, 0, none⟩ = some (.int .i64 0) := by rw [Lib.cell_of_heap hg]; exact whR_0 _ _ _
  have c9 : w.cell? ⟨g, 449, none⟩ = some (.map none) := by rw [Lib.cell_of_heap hg]; exact whR_m hl
  have hq : ∀ w : World, (binOp .eql 61 (.map none) (.map none)).run Try.prog w = .ok (.bool true) w := fun w => by kernel_rfl
  have hmm := @run_makeMap Try.prog
  have hgl : g < w.heap.size := (Array.getElem?_eq_some_iff.1 hg).1
  have g1 : (w.alloc (.map #[] 0)).heap[g]? = some (.cells (whR 0 R (.map none)) 63 (0, 0)) := ((Below.refl w.heap.size w).alloc (Nat.le_refl _) _ |>.block g hgl).trans hg
  have c9' : (w.alloc (.map #[] 0)).cell? ⟨g, 449, none⟩ = some (.map none) := by rw [Lib.cell_of_heap g1]; exact whR_m hl
  have f9' : (w.alloc (.map #[] 0)).frozen? ⟨g, 449, none⟩ = false := Lib.frozen_of_heap g1 449
  go_enter Try.func22, Try.ntmps22
  go_wp2_with fail
  refine Calls.mono (find_none g _ c9) ?_
  rintro e w1 ⟨rfl, rfl⟩
  go_wp2_with fail
  refine Calls.mono (ahead_five g _ c0) ?_
  rintro e w1 ⟨rfl, rfl⟩
  go_wp2_with fail
  obtain ⟨W2, hW2⟩ : ∃ W2, w1.setCell ⟨g, 449, none⟩ (.map (some w1.heap.size)) = W2 := ⟨_, rfl⟩
  obtain ⟨W3, hW3⟩ : ∃ W3, (W2.alloc (.map #[] 0)).alloc (.cells #[.string ⟨#[97, 97, 97]⟩, .int .i64 5, .pointer none, .pointer none] 75) = W3 := ⟨_, rfl⟩
  have z2 : W2.heap.size = w1.heap.size := by rw [← hW2]; simp
  have z3 : W3.heap.size = w1.heap.size + 2 := by rw [← hW3, World.size_alloc, World.size_alloc, z2]
  have r2 : W2.heap[g]? = some (.cells (whR 0 R (.map (some w1.heap.size))) 63 (0, 0)) := by
    rw [← hW2, ← whR_set_m hl]
    exact heap_setCell_same w1 g 449 _ _ _ hg
  have bW : Below W2.heap.size W2 W3 := by rw [← hW3]; exact ((Below.refl _ _).alloc (Nat.le_refl _) _).alloc (by rw [World.size_alloc]; omega) _
  have r3 := (bW.block g (by omega)).trans r2
  have rt : W3.heap[w1.heap.size + 1]? = some (.cells #[.string ⟨#[97, 97, 97]⟩, .int .i64 5, .pointer none, .pointer none] 75 (0, 0)) := by
    rw [← hW3]
    have := heap_alloc_new (W2.alloc (.map #[] 0)) (.cells #[.string ⟨#[97, 97, 97]⟩, .int .i64 5, .pointer none, .pointer none] 75)
    rwa [World.size_alloc, z2] at this
  have n0 : NP W3 w1.heap.size 0 (fun _ => .pointer none) := by
    have h := NP.made W2
    rw [z2] at h
    rw [← hW3]
    exact h.kept (Below.grew ((Below.refl _ _).alloc (Nat.le_refl _) _)) (by simp)
  obtain ⟨w4, hrun, hN, hgr⟩ := n0.put (k := ⟨#[97, 97, 97]⟩) (by decide) (by decide) (.pointer (some ⟨w1.heap.size + 1, 0, none⟩))
  have r4 : w4.heap[g]? = some (.cells (whR 0 R (.map (some w1.heap.size))) 63 (0, 0)) := (hgr.block g (by omega) (by simp; omega)).trans r3
  have t4 : w4.heap[w1.heap.size + 1]? = some (.cells #[.string ⟨#[97, 97, 97]⟩, .int .i64 5, .pointer none, .pointer none] 75 (0, 0)) := (hgr.block _ (by omega) (by simp)).trans rt
  have HH := hid (hang_five g (w1.heap.size + 1) (.pointer none) (.pointer none) w4 (by omega) (by rw [Lib.cell_of_heap r4]; exact whR_0 _ _ _) (by rw [Lib.cell_of_heap t4]; rfl) (by rw [Lib.cell_of_heap r4]; exact whR_s (k := 5) h5) (Lib.frozen_of_heap r4 6) (by rw [Lib.cell_of_heap t4]; rfl) (Lib.frozen_of_heap t4 2) (by rw [Lib.cell_of_heap t4]; rfl) (Lib.frozen_of_heap t4 3))
  rw [hW2, hW3, hrun]
  have HN := hid hN
  have R4 := hid r4
  have T4 := hid t4
  have z4 := hgr.size
  have B4 := hid (show Below g w1 w4 from (show Below g w1 W2 by rw [← hW2]; exact (Below.refl _ _).setCell (p := ⟨g, 449, none⟩) (Nat.le_refl _) _).trans ((bW.mono (by omega)).trans ⟨hgr.os, hgr.tape, hgr.output, hgr.size, fun k hk => hgr.block k (by omega) (by simp; omega)⟩))
  clear hN r4 t4 hgr n0 rt r3 bW r2 hW2 hW3 hrun c0 c9 c9' f9' g1 hq hmm
  go_wp2_with fail
  refine Calls.mono HH.out ?_
  rintro e w5 ⟨rfl, rfl⟩
  go_wp2
  go_ret
  refine ⟨rfl, w1.heap.size + 1, w1.heap.size, by omega, by omega, by omega, by omega, by omega, ?_, ?_, ?_, ?_⟩
  · rw [← whR_set_s (k := 5) (by omega)]
    refine heap_setCell_same _ g 6 _ _ _ ?_
    exact (heap_setCell_other _ ⟨w1.heap.size + 1, 3, none⟩ g _ (by show g ≠ w1.heap.size + 1; omega)).trans ((heap_setCell_other _ ⟨w1.heap.size + 1, 2, none⟩ g _ (by show g ≠ w1.heap.size + 1; omega)).trans R4.out)
  · refine (heap_setCell_other _ ⟨g, 6, none⟩ _ _ (by show w1.heap.size + 1 ≠ g; omega)).trans ?_
    exact heap_setCell_same _ _ 3 _ _ _ (heap_setCell_same _ _ 2 _ _ _ T4.out)
  · have h0 : NP w4.drew.drew w1.heap.size 1 _ := HN.out.kept (Below.grew (show Below w4.heap.size w4 w4.drew.drew from ((Below.refl _ _).drew).drew)) (by simp)
    exact ((h0.kept (gb_setCell _ ⟨w1.heap.size + 1, 2, none⟩ _) (by simp)).kept (gb_setCell _ ⟨w1.heap.size + 1, 3, none⟩ _) (by simp)).kept (gb_setCell _ ⟨g, 6, none⟩ _) (by simp; omega)
  · exact ((B4.out.drew.drew.setCell (p := ⟨w1.heap.size + 1, 2, none⟩) (by show g ≤ w1.heap.size + 1; omega) _).setCell (p := ⟨w1.heap.size + 1, 3, none⟩) (by show g ≤ w1.heap.size + 1; omega) _).setCell (p := ⟨g, 6, none⟩) (Nat.le_refl _) _
end Go.Proofs.Ytffmlnocednehaa
