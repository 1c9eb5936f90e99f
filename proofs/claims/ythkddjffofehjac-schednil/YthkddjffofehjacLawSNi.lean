/-
  SchedNil: the law's walk.
-/
import Derived.Test.YthkddjffofehjacSn3
namespace Go.Proofs.Ythkddjffofehjac
open Go.RowKit
set_option maxRecDepth 100000

theorem nil_fair (w : World) : Calls Try.prog 25 #[.slice none 0 0, .int .i64 1, .int .i64 1] w fun e w' => e = .returned (.tuple #[.bool true, .int .i64 0]) ∧ Below w.heap.size w w' := by
  refine (fair_any (.slice none 0 0) [] 1 1 w (RI.nil w) (by simp) (by omega) (by omega)).mono ?_
  rintro e w' ⟨⟨b, p, rfl, ha⟩, hb⟩
  obtain ⟨rfl, rfl⟩ := ha.same (show FaA [] 1 1 true 0 from .inr (.inr ⟨⟨rfl, by omega, by simp, rfl⟩, fun j hj => by simp at hj, rfl, rfl⟩))
  exact ⟨rfl, hb⟩

set_option maxHeartbeats 1000000 in
theorem nils_any (w : World) : Calls Try.prog 5 #[] w fun e w' => e = .returned (.bool true) ∧ Below w.heap.size w w' := by
  have H1 := hid nil_first
  have H2 := hid nil_pick
  have H3 := hid nil_state
  have H4 := hid nil_longest
  have H5 := hid nil_start
  have H6 := hid nil_block
  have H7 := hid nil_finish
  have H8 := hid nil_wake
  have H9 := hid nil_ready
  have H10 := hid nil_waiting
  have F1 := hid nil_fair
  have F2 := hid nil_rank
  have F3 := hid nil_count
  have F4 := hid nil_switches
  have F5 := hid nil_least
  go_enter Try.func5, Try.ntmps5
  go_wp2_with (first
    | (go_at_call 26; refine (H1.out _).mono ?_; rintro e w3 ⟨rfl, rfl⟩)
    | (go_at_call 27; refine (H2.out _).mono ?_; rintro e w3 ⟨rfl, rfl⟩)
    | (go_at_call 28; refine (H3.out _).mono ?_; rintro e w3 ⟨rfl, rfl⟩)
    | (go_at_call 29; refine (H4.out _).mono ?_; rintro e w3 ⟨rfl, rfl⟩)
    | (go_at_call 19; refine (H5.out _).mono ?_; rintro e w3 ⟨rfl, rfl⟩)
    | (go_at_call 20; refine (H6.out _).mono ?_; rintro e w3 ⟨rfl, rfl⟩)
    | (go_at_call 21; refine (H7.out _).mono ?_; rintro e w3 ⟨rfl, rfl⟩)
    | (go_at_call 22; refine (H8.out _).mono ?_; rintro e w3 ⟨rfl, rfl⟩)
    | (go_at_call 30; refine (H9.out _).mono ?_; rintro e w3 ⟨rfl, rfl⟩)
    | (go_at_call 31; refine (H10.out _).mono ?_; rintro e w3 ⟨rfl, rfl⟩))
  refine (F1.out _).mono ?_
  rintro e w1 ⟨rfl, hb1⟩
  have B1 := hid hb1
  clear hb1
  go_wp2_with fail
  refine (F2.out _).mono ?_
  rintro e w2 ⟨rfl, hb2⟩
  have B2 := hid (B1.out.trans (hb2.mono B1.out.size))
  clear hb2
  go_wp2_with fail
  refine (F3.out _).mono ?_
  rintro e w3 ⟨rfl, rfl⟩
  go_wp2_with fail
  refine (F4.out _).mono ?_
  rintro e w4 ⟨rfl, hb4⟩
  have B4 := hid (B2.out.trans (hb4.mono B2.out.size))
  clear hb4
  go_wp2_with fail
  refine (F5.out _).mono ?_
  rintro e w5 ⟨rfl, hb5⟩
  have B5 := hid (B4.out.trans (hb5.mono B4.out.size))
  clear hb5
  go_wp2
  go_ret
  exact ⟨rfl, B5.out⟩
end Go.Proofs.Ythkddjffofehjac
