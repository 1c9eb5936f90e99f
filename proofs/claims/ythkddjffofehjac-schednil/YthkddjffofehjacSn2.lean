/-
  Switches, Count, Rank of nothing.
-/
import Derived.Test.YthkddjffofehjacSn1
namespace Go.Proofs.Ythkddjffofehjac
open Go.RowKit
set_option maxRecDepth 100000
attribute [local go_sem ↓] mki_op

theorem nil_below (w : World) : Calls Try.prog 48 #[.slice none 0 0, .int .i64 16] w fun e w' => e = .returned (.bool true) ∧ w' = w := by
  have := areBelow_any (.slice none 0 0) [] 16 w (RI.nil w) (by simp)
  exact this
theorem zeros_steps (v : Value) (w : World) (h : RI w v (List.replicate 16 0)) : Calls Try.prog 56 #[v] w fun e w' => e = .returned (.bool true) ∧ w' = w := by
  have HI := hid (fun w => isCount_any 16 w)
  rw [show okN 16 = true from by decide] at HI
  obtain ⟨ao, cap, rfl, hpc, hpn, hcell⟩ := h
  have HC : Hid (_) := hcell
  simp only [List.length_replicate] at HC hpc ⊢
  clear hcell hpn
  go_enter Try.func56, Try.ntmps56
  go_wp2_with (go_at_call 52; refine (HI.out _).mono ?_; rintro e w3 ⟨rfl, rfl⟩)
  go_loop [3, 12] (fun r i => ∃ k : Nat, k ≤ 16 ∧ i = .int .i64 k ∧ r = .int .i64 24) (fun _ i => 16 - (intOf i).toNat)
  case atStart => exact ⟨0, by omega, rfl, rfl⟩
  case round =>
    obtain ⟨k, hk, rfl, rfl⟩ := hrel
    by_cases h : k < 16
    · obtain ⟨g, off, hao, c2⟩ := HC.out k h
      subst hao
      rw [List.getElem_replicate] at c2
      go_wp2
      go_round
      case rel => exact ⟨k + 1, by omega, by go_num, rfl⟩
      case measure => simp [intOf]; omega
    · go_wp2
      go_ret
      exact ⟨rfl, rfl⟩
theorem none_chosen (w : World) : Calls Try.prog 57 #[.int .i64 0, .int .i64 0] w fun e w' => e = .returned (.int .i64 1) ∧ w' = w := by
  go_enter Try.func57, Try.ntmps57
  go_wp2
  refine wp_loop_rounds 1 ?_
  rw [rounds_succ]
  go_wp2
  go_ret
  exact ⟨rfl, rfl⟩
theorem zeros_count (v : Value) (w : World) (h : RI w v (List.replicate 16 0)) : Calls Try.prog 23 #[v] w fun e w' => e = .returned (.tuple #[.int .i64 1, .int .i64 0]) ∧ w' = w := by
  have HA := hid (zeros_steps v w h)
  have HN := hid none_chosen
  obtain ⟨ao, cap, rfl, hpc, hpn, hcell⟩ := h
  have HC : Hid (_) := hcell
  simp only [List.length_replicate] at HC hpc HA ⊢
  clear hcell hpn
  go_enter Try.func23, Try.ntmps23
  go_wp2_with (go_at_call 56; refine HA.out.mono ?_; rintro e w3 ⟨rfl, rfl⟩)
  go_loop [4, 5, 14] (fun c p i => ∃ k : Nat, k ≤ 16 ∧ i = .int .i64 k ∧ c = .int .i64 1 ∧ p = .int .i64 0) (fun _ _ i => 16 - (intOf i).toNat)
  case atStart => exact ⟨0, by omega, rfl, rfl, rfl⟩
  case round =>
    obtain ⟨k, hk, rfl, rfl, rfl⟩ := hrel
    by_cases h : k < 16
    · obtain ⟨g, off, hao, c2⟩ := HC.out k h
      subst hao
      rw [List.getElem_replicate] at c2
      go_wp2_with (go_at_call 57; refine (HN.out _).mono ?_; rintro e w4 ⟨rfl, rfl⟩)
      go_round
      case rel => exact ⟨k + 1, by omega, by go_num, rfl, rfl⟩
      case measure => simp [intOf]; omega
    · go_wp2
      go_ret2
      exact ⟨rfl, rfl⟩
theorem nil_count (w : World) : Calls Try.prog 23 #[.slice none 0 0] w fun e w' => e = .returned (.tuple #[.int .i64 0, .int .i64 2]) ∧ w' = w := by
  have HI := hid (fun w => isCount_any 0 w)
  rw [show okN 0 = false from by decide] at HI
  have HA : Hid (∀ w, Calls Try.prog 56 #[.slice none 0 0] w fun e w' => e = .returned (.bool false) ∧ w' = w) := by
    intro w
    go_enter Try.func56, Try.ntmps56
    go_wp2_with (go_at_call 52; refine (HI.out _).mono ?_; rintro e w3 ⟨rfl, rfl⟩)
    go_ret
    exact ⟨rfl, rfl⟩
  go_enter Try.func23, Try.ntmps23
  go_wp2_with (go_at_call 56; refine (HA.out _).mono ?_; rintro e w3 ⟨rfl, rfl⟩)
  go_ret2
  exact ⟨rfl, rfl⟩
theorem nil_switches (w : World) : Calls Try.prog 14 #[.slice none 0 0] w fun e w' => e = .returned (.tuple #[.int .i64 0, .int .i64 0]) ∧ Below w.heap.size w w' := by
  have HB := hid nil_below
  have hm : ∀ w : World, (mkI (.int .i64 16) (.int .i64 16)).run Try.prog w = .ok (.slice (some ⟨w.heap.size, 0, none⟩) 16 16) (w.alloc (.cells (ic (List.replicate 16 0)).toArray 3)) := run_mkI 16 (by omega)
  have B1 := hid ((Below.refl w.heap.size w).alloc (Nat.le_refl _) (.cells (ic (List.replicate 16 0)).toArray 3))
  go_enter Try.func14, Try.ntmps14
  go_wp2_with (go_at_call 48; refine (HB.out _).mono ?_; rintro e w3 ⟨rfl, rfl⟩)
  refine wp_loop_rounds 1 ?_
  rw [rounds_succ]
  go_wp2
  refine wp_loop_rounds 1 ?_
  rw [rounds_succ]
  go_wp2
  go_ret2
  exact ⟨rfl, B1.out⟩
theorem nil_rank (w : World) : Calls Try.prog 12 #[.slice none 0 0] w fun e w' => e = .returned (.tuple #[.int .i64 0, .int .i64 0]) ∧ Below w.heap.size w w' := by
  have HB := hid nil_below
  have hm : ∀ w : World, (mkI (.int .i64 16) (.int .i64 16)).run Try.prog w = .ok (.slice (some ⟨w.heap.size, 0, none⟩) 16 16) (w.alloc (.cells (ic (List.replicate 16 0)).toArray 3)) := run_mkI 16 (by omega)
  have B1 := hid ((Below.refl w.heap.size w).alloc (Nat.le_refl _) (.cells (ic (List.replicate 16 0)).toArray 3))
  have hh := heap_alloc_new w (.cells (ic (List.replicate 16 0)).toArray 3)
  have HCn := hid (zeros_count _ (w.alloc (.cells (ic (List.replicate 16 0)).toArray 3)) (RI.block hh (c := 16) (by simp)))
  clear hh
  simp only [List.length_replicate] at HCn
  go_enter Try.func12, Try.ntmps12
  go_wp2_with (go_at_call 48; refine (HB.out _).mono ?_; rintro e w3 ⟨rfl, rfl⟩)
  refine wp_loop_rounds 1 ?_
  rw [rounds_succ]
  go_wp2_with (go_at_call 23; refine HCn.out.mono ?_; rintro e w3 ⟨rfl, rfl⟩)
  refine wp_loop_rounds 1 ?_
  rw [rounds_succ]
  go_wp2
  go_ret2
  exact ⟨rfl, B1.out.alloc (by simp) _⟩
end Go.Proofs.Ythkddjffofehjac
