/-
  wheel: Len, apart; a slot emptied; a name put into an empty slot; find in a wheel without names; ahead.
-/
import Derived.Test.YtffmlnocednehaaWh1
namespace Go.Proofs.Ytffmlnocednehaa
open Go.RowKit
set_option maxRecDepth 100000

theorem len_of (x : Int) (n : Int) (w : World) (h : ∀ w : World, Calls Try.prog 57 #[.int .u64 x] w fun e w' => e = .returned (.int .i64 n) ∧ w' = w) : Calls Try.prog 41 #[.int .u64 x] w fun e w' => e = .returned (.int .i64 n) ∧ w' = w := by
  have H := hid h
  go_enter Try.func41, Try.ntmps41
  go_wp2_with fail
  refine Calls.mono (H.out _) ?_
  rintro e w1 ⟨rfl, rfl⟩
  go_wp2
  go_ret
  exact ⟨rfl, rfl⟩
theorem apart_50 (w : World) : Calls Try.prog 37 #[.int .i64 5, .int .i64 0] w fun e w' => e = .returned (.int .i64 0) ∧ w' = w := by
  go_enter Try.func37, Try.ntmps37
  go_wp2_with fail
  refine Calls.mono (len_of 5 3 _ len64_five) ?_
  rintro e w1 ⟨rfl, rfl⟩
  go_wp2
  go_ret
  exact ⟨rfl, rfl⟩
theorem apart_05 (w : World) : Calls Try.prog 37 #[.int .i64 0, .int .i64 5] w fun e w' => e = .returned (.int .i64 0) ∧ w' = w := by
  go_enter Try.func37, Try.ntmps37
  go_wp2_with fail
  refine Calls.mono (len_of 5 3 _ len64_five) ?_
  rintro e w1 ⟨rfl, rfl⟩
  go_wp2
  go_ret
  exact ⟨rfl, rfl⟩
theorem empty_any (g o k : Nat) (p : Option Addr) (w : World) (hk : k < 64) (hc : w.cell? ⟨g, o + k, none⟩ = some (.pointer p)) (hf : w.frozen? ⟨g, o + k, none⟩ = false) :
    Calls Try.prog 47 #[.pointer (some ⟨g, o, none⟩), .int .i64 (k : Int)] w fun e w' => e = .returned (.pointer p) ∧ w' = w.setCell ⟨g, o + k, none⟩ (.pointer none) := by
  have hI : (k : Int) < 64 := by omega
  go_enter Try.func47, Try.ntmps47
  go_wp2
  go_ret
  exact ⟨rfl, rfl⟩
theorem put_empty (g o k t : Nat) (a b : Value) (w : World) (hk : k < 64) (hne : t ≠ g) (hc : w.cell? ⟨g, o + k, none⟩ = some (.pointer none)) (hf : w.frozen? ⟨g, o + k, none⟩ = false) (h2 : w.cell? ⟨t, 2, none⟩ = some a) (f2 : w.frozen? ⟨t, 2, none⟩ = false) (h3 : w.cell? ⟨t, 3, none⟩ = some b) (f3 : w.frozen? ⟨t, 3, none⟩ = false) :
    Calls Try.prog 46 #[.pointer (some ⟨g, o, none⟩), .int .i64 (k : Int), .pointer (some ⟨t, 0, none⟩)] w fun e w' => e = .returned (.tuple #[]) ∧ w' = ((w.setCell ⟨t, 2, none⟩ (.pointer none)).setCell ⟨t, 3, none⟩ (.pointer none)).setCell ⟨g, o + k, none⟩ (.pointer (some ⟨t, 0, none⟩)) := by
  have hI : (k : Int) < 64 := by omega
  go_enter Try.func46, Try.ntmps46
  go_wp2
  go_end0
  exact ⟨rfl, rfl⟩
theorem ahead_five (g : Nat) (w : World) (hc : w.cell? ⟨g, 0, none⟩ = some (.int .i64 0)) : Calls Try.prog 34 #[.pointer (some ⟨g, 0, none⟩), .int .i64 5] w fun e w' => e = .returned (.int .i64 0) ∧ w' = w := by
  go_enter Try.func34, Try.ntmps34
  go_wp2_with fail
  refine Calls.mono (isTime_any 5 _ (by omega) (by omega)) ?_
  rintro e w1 ⟨rfl, rfl⟩
  go_wp2
  go_ret
  exact ⟨rfl, rfl⟩
theorem find_none (g : Nat) (w : World) (hc : w.cell? ⟨g, 449, none⟩ = some (.map none)) : Calls Try.prog 33 #[.pointer (some ⟨g, 0, none⟩), .string ⟨#[97, 97, 97]⟩] w fun e w' => e = .returned (.tuple #[.pointer none, .int .i64 7]) ∧ w' = w := by
  have hl : (Instr.lookup 61 (.map none) (.string ⟨#[97, 97, 97]⟩) true).run Try.prog w = .ok (.tuple #[.pointer none, .bool false]) w := by kernel_rfl
  go_enter Try.func33, Try.ntmps33
  go_wp2
  go_ret2
  exact ⟨rfl, rfl⟩
end Go.Proofs.Ytffmlnocednehaa
