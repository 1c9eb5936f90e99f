/-
  Least of nothing; the law's walk.
-/
import Derived.Test.YthkddjffofehjacSn2
namespace Go.Proofs.Ythkddjffofehjac
open Go.RowKit
set_option maxRecDepth 100000

/-- all of sixteen hold all binary digits -/
def barV : Value := .agg #[.int .u64 65535, .int .u64 65535, .int .u64 65535, .int .u64 65535, .int .u64 65535, .int .u64 65535, .int .u64 65535, .int .u64 65535, .int .u64 65535, .int .u64 65535, .int .u64 65535, .int .u64 65535, .int .u64 65535, .int .u64 65535, .int .u64 65535, .int .u64 65535]
set_option maxHeartbeats 4000000 in
theorem nil_barred (w : World) : Calls Try.prog 58 #[.slice none 0 0] w fun e w' => e = .returned barV ∧ Below w.heap.size w w' := by
  have B1 := hid (fun o o' => ((Below.refl w.heap.size w).alloc (Nat.le_refl _) o).alloc (by simp) o')
  go_enter Try.func58, Try.ntmps58
  go_wp2
  refine wp_loop_rounds 17 ?_
  iterate 17 (rw [rounds_succ]; go_wp2)
  refine wp_loop_rounds 1 ?_
  rw [rounds_succ]
  go_wp2
  refine bodyPost_ret (v := barV) (by simp [results, Try.results58, go_sem, barV]) rfl ?_
  exact ⟨rfl, B1.out _ _⟩
theorem nil_clone (w : World) : Calls Try.prog 42 #[.slice none 0 0] w fun e w' => e = .returned (.slice none 0 0) ∧ w' = w := by
  have hs : ∀ w : World, (binOp .eql 22 (.slice none 0 0) (.slice none 0 0)).run Try.prog w = .ok (.bool true) w := fun w => by kernel_rfl
  go_enter Try.func42, Try.ntmps42
  go_wp2
  go_ret
  exact ⟨rfl, rfl⟩
set_option maxHeartbeats 4000000 in
theorem nil_least (w : World) : Calls Try.prog 24 #[.slice none 0 0, .slice none 0 0] w fun e w' => e = .returned (.tuple #[.slice none 0 0, .int .i64 0]) ∧ Below w.heap.size w w' := by
  have HB := hid nil_below
  have HR := hid nil_barred
  have HC := hid nil_clone
  unfold barV at HR
  go_enter Try.func24, Try.ntmps24
  go_wp2_with (go_at_call 48; refine (HB.out _).mono ?_; rintro e w3 ⟨rfl, rfl⟩)
  refine wp_loop_rounds 1 ?_
  rw [rounds_succ]
  go_wp2_with fail
  refine (HR.out _).mono ?_
  rintro e w4 ⟨rfl, hb4⟩
  have B4 := hid hb4
  clear hb4
  go_wp2_with (go_at_call 42; refine (HC.out _).mono ?_; rintro e w5 ⟨rfl, rfl⟩)
  refine wp_loop_rounds 1 ?_
  rw [rounds_succ]
  go_wp2
  go_ret2
  exact ⟨rfl, B4.out.alloc B4.out.size _⟩
end Go.Proofs.Ythkddjffofehjac
