/-
  stock: names in order, of an empty table.
-/
import Derived.Test.YtdodockemkmmpaaGreatNw8d
import Derived.Laws.IdiomRangeMap
namespace Go.Proofs.YtdodockemkmmpaaGreat
open Go.RowKit
set_option maxRecDepth 100000

theorem insNil (v : Value) (w : World) : Calls Tryz.prog 100 #[v, .int .i64 0, .int .i64 0] w fun e w' => e = .returned (.tuple #[]) ∧ w' = w := by
  go_enter Tryz.func100, Tryz.ntmps100
  go_wp2_with fail
  go_rounds 1
  go_end0
  exact ⟨rfl, rfl⟩
theorem pdqNil (v : Value) (lim : Int) (w : World) : Calls Tryz.prog 71 #[v, .int .i64 0, .int .i64 0, .int .i64 lim] w fun e w' => e = .returned (.tuple #[]) ∧ w' = w := by
  have HI := hid (insNil v w)
  go_enter Tryz.func71, Tryz.ntmps71
  go_wp2_with fail
  refine wp_loop_rounds 1 ?_
  rw [rounds_succ]
  go_wp2_with fail
  refine Calls.mono HI.out ?_
  rintro e w1 ⟨rfl, rfl⟩
  go_wp2
  refine bodyPost_ret (results_none (by rfl) _ _ _) rfl ?_
  exact ⟨rfl, rfl⟩
theorem len64Zero (w : World) : Calls Tryz.prog 110 #[.int .u64 0] w fun e w' => e = .returned (.int .i64 0) ∧ w' = w := by
  go_enter Tryz.func110, Tryz.ntmps110
  go_wp2
  go_ret
  exact ⟨by kernel_rfl, rfl⟩
theorem lenZero (w : World) : Calls Tryz.prog 72 #[.int .u64 0] w fun e w' => e = .returned (.int .i64 0) ∧ w' = w := by
  have HI := hid (len64Zero w)
  go_enter Tryz.func72, Tryz.ntmps72
  go_wp2_with fail
  refine Calls.mono HI.out ?_
  rintro e w1 ⟨rfl, rfl⟩
  go_wp2
  go_ret
  exact ⟨rfl, rfl⟩
theorem sortNil (ao : Option Addr) (c : Nat) (w : World) : Calls Tryz.prog 46 #[.slice ao 0 c] w fun e w' => e = .returned (.tuple #[]) ∧ w' = w := by
  have HI := hid (lenZero w)
  have HP := hid (fun v l => pdqNil v l w)
  go_enter Tryz.func46, Tryz.ntmps46
  go_wp2_with fail
  refine Calls.mono HI.out ?_
  rintro e w1 ⟨rfl, rfl⟩
  go_wp2_with fail
  refine Calls.mono (HP.out _ _) ?_
  rintro e w1 ⟨rfl, rfl⟩
  go_wp2
  go_end0
  exact ⟨rfl, rfl⟩
set_option maxHeartbeats 800000 in
theorem inOrderL_nil (g c m : Nat) (w : World) (hm : Hb w m (.map #[] 0)) :
    Calls Tryz.prog 28 #[.slice (some ⟨g, 0, none⟩) 0 c, .map (some m)] w fun e w' => e = .returned (.slice (some ⟨g, 0, none⟩) 0 c) ∧ Below w.heap.size w w' := by
  have HS := hid (fun ao c w => sortNil ao c w)
  have h1 : w.heap[m]? = some (.map #[] 0) := hm
  have hr := run_range_map (P := Tryz.prog) w 67 _ _ m #[] 0 Tryz.underlying67 h1
  have hn : ∀ ty, (Instr.next (.pointer (some ⟨w.heap.size, 0, none⟩)) false ty).run Tryz.prog (w.alloc (.mapIter (some m) 0 #[] 0)) = .ok (.tuple #[.bool false]) (w.alloc (.mapIter (some m) 0 #[] 0)) := fun ty => by
    rcases run_next_map (P := Tryz.prog) w ty m 0 0 #[] #[] 0 h1 (by simp) (Nat.le_refl _) with ⟨_, h⟩ | ⟨e, he, _⟩
    · exact h
    · simp [leftOf] at he
  have BW := hid (show Below w.heap.size w (w.alloc (.mapIter (some m) 0 #[] 0)) from (Below.refl _ _).alloc (Nat.le_refl _) _)
  generalize hW : w.alloc (.mapIter (some m) 0 #[] 0) = W at *
  clear hm h1 hW
  go_enter Tryz.func28, Tryz.ntmps28
  go_wp2_with fail
  refine wp_loop_rounds 1 ?_
  rw [rounds_succ]
  go_wp2_with fail
  refine Calls.mono (HS.out _ _ _) ?_
  rintro e w1 ⟨rfl, hw⟩
  replace hw := hw.symm
  subst hw
  go_wp2
  go_ret
  exact ⟨rfl, BW.out⟩
set_option maxHeartbeats 800000 in
theorem inOrderD_nil (g c m : Nat) (w : World) (hm : Hb w m (.map #[] 0)) :
    Calls Tryz.prog 31 #[.slice (some ⟨g, 0, none⟩) 0 c, .map (some m)] w fun e w' => e = .returned (.slice (some ⟨g, 0, none⟩) 0 c) ∧ Below w.heap.size w w' := by
  have HS := hid (fun ao c w => sortNil ao c w)
  have h1 : w.heap[m]? = some (.map #[] 0) := hm
  have hr := run_range_map (P := Tryz.prog) w 69 _ _ m #[] 0 Tryz.underlying69 h1
  have hn : ∀ ty, (Instr.next (.pointer (some ⟨w.heap.size, 0, none⟩)) false ty).run Tryz.prog (w.alloc (.mapIter (some m) 0 #[] 0)) = .ok (.tuple #[.bool false]) (w.alloc (.mapIter (some m) 0 #[] 0)) := fun ty => by
    rcases run_next_map (P := Tryz.prog) w ty m 0 0 #[] #[] 0 h1 (by simp) (Nat.le_refl _) with ⟨_, h⟩ | ⟨e, he, _⟩
    · exact h
    · simp [leftOf] at he
  have BW := hid (show Below w.heap.size w (w.alloc (.mapIter (some m) 0 #[] 0)) from (Below.refl _ _).alloc (Nat.le_refl _) _)
  generalize hW : w.alloc (.mapIter (some m) 0 #[] 0) = W at *
  clear hm h1 hW
  go_enter Tryz.func31, Tryz.ntmps31
  go_wp2_with fail
  refine wp_loop_rounds 1 ?_
  rw [rounds_succ]
  go_wp2_with fail
  refine Calls.mono (HS.out _ _ _) ?_
  rintro e w1 ⟨rfl, hw⟩
  replace hw := hw.symm
  subst hw
  go_wp2
  go_ret
  exact ⟨rfl, BW.out⟩
end Go.Proofs.YtdodockemkmmpaaGreat
