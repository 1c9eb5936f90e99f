/-
  wheel: filled(0, [4]).
-/
import Derived.Test.YtffmlnocednehaaWh8
namespace Go.Proofs.Ytffmlnocednehaa
open Go.RowKit Go.Maps Go.WideMaps
set_option maxRecDepth 100000

/-- a wheel with one name at 5, the time being now -/
def One (now : Int) (g t mb : Nat) (w : World) : Prop := t ≠ g ∧ mb ≠ g ∧ mb ≠ t ∧ w.heap[g]? = some (.cells (whR now (noR.set 5 (.pointer (some ⟨t, 0, none⟩))) (.map (some mb))) 63 (0, 0)) ∧ w.heap[t]? = some (.cells #[.string ⟨#[97, 97, 97]⟩, .int .i64 5, .pointer none, .pointer none] 75 (0, 0)) ∧ NP w mb 1 (updN (fun _ => .pointer none) ⟨#[97, 97, 97]⟩ (.pointer (some ⟨t, 0, none⟩)))
set_option maxHeartbeats 2000000 in
theorem filled_one (sb : Nat) (w : World) (hc : w.cell? ⟨sb, 0, none⟩ = some (.int .i64 4)) :
    Calls Try.prog 11 #[.int .i64 0, .slice (some ⟨sb, 0, none⟩) 1 1] w fun e w' => e = .returned (.pointer (some ⟨w.heap.size, 0, none⟩)) ∧ (∃ t mb, w.heap.size < t ∧ w.heap.size < mb ∧ One 0 w.heap.size t mb w') ∧ Below w.heap.size w w' := by
  obtain ⟨W, hW⟩ : ∃ W, w.alloc (.cells (whR 0 noR (.map none)) 63) = W := ⟨_, rfl⟩
  have bW : Below w.heap.size w W := by rw [← hW]; exact (Below.refl _ _).alloc (Nat.le_refl _) _
  have zW : W.heap.size = w.heap.size + 1 := by rw [← hW, World.size_alloc]
  have rW : W.heap[w.heap.size]? = some (.cells (whR 0 noR (.map none)) 63 (0, 0)) := by rw [← hW]; exact heap_alloc_new w _
  have cW := below_cells bW _ _ hc
  have sl : sb < w.heap.size := World.block_lt_of_cell? _ _ hc
  have K1 := hid (fun (wx : World) (h : Below W.heap.size W wx) => below_cells h _ _ cW)
  have K2 := hid (fun (w' : World) (k : Below w.heap.size w w') => show w'.cell? ⟨sb, 0, none⟩ = some (.int .i64 4) from (k.cell (p := ⟨sb, 0, none⟩) sl).trans hc)
  have KN := hid (fun (wx : World) (h : Below W.heap.size W wx) => (name_zero wx).mono fun e w' g => (show e = .returned (.string ⟨#[97, 97, 97]⟩) ∧ Below W.heap.size W w' from ⟨g.1, h.trans (g.2.mono h.size)⟩))
  have KA := hid (fun (wx : World) (h : Below W.heap.size W wx) => (add_five w.heap.size noR wx (by decide) (by rfl) ((h.block w.heap.size (by omega)).trans rW)).mono fun e w' q => (show e = .returned (.int .i64 0) ∧ (∃ t mb, w.heap.size < t ∧ w.heap.size < mb ∧ One 0 w.heap.size t mb w') ∧ Below w.heap.size w w' by
    obtain ⟨e1, t, mb, q1, q2, q3, q4, q5, q6, q7, q8, s4⟩ := q
    have hz := h.size
    exact ⟨e1, ⟨t, mb, by omega, by omega, q1, q2, q3, q6, q7, q8⟩, bW.trans ((h.mono (by omega)).trans s4)⟩))
  have BW := hid bW
  have s00 : Below W.heap.size W W := Below.refl _ _
  have s0 : Below W.heap.size W W.drew := (Below.refl _ _).drew
  have HW := hid hW
  clear bW rW hW
  go_enter Try.func11, Try.ntmps11
  go_wp2_with fail
  refine Calls.mono (new_zero w) ?_
  rintro e w1 ⟨rfl, rfl⟩
  rw [HW.out]
  go_wp2_with fail
  refine wp_loop_rounds 2 ?_
  rw [rounds_succ]
  go_upto_region 7 with fail
  go_cut [8] from 26 to 37 (fun v9 wx => v9 = .int .i64 0 ∧ (∃ t mb, w.heap.size < t ∧ w.heap.size < mb ∧ One 0 w.heap.size t mb wx) ∧ Below w.heap.size w wx)
  case first =>
    go_region_held3 (fun wx => wx.cell? ⟨sb, 0, none⟩ = some (.int .i64 4)) (first | exact K1.out _ (by assumption) | exact K2.out _ (by assumption)) (first
      | (go_at_call 14; refine (KN.out _ (by assumption)).mono ?_; rintro e w2 ⟨rfl, s2⟩)
      | (go_at_call 9; refine (within_four _).mono ?_; rintro e w3 ⟨rfl, rfl⟩)
      | (go_at_call 22; refine (KA.out _ (by assumption)).mono ?_; rintro e w4 ⟨rfl, q4, s4⟩))
    all_goals (go_wp2_with fail; go_meet; exact ⟨rfl, q4, s4⟩)
  case rest =>
    obtain ⟨rfl, hq, hs⟩ := hcut
    have HQ := hid hq
    have HS := hid hs
    clear hq hs
    go_wp2_with fail
    rw [rounds_succ]
    go_wp2
    go_ret
    exact ⟨rfl, HQ.out, HS.out⟩
end Go.Proofs.Ytffmlnocednehaa
