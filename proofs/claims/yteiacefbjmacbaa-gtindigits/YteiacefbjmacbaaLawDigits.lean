/-
  GtinDigits: the law's own walk, out of the contracts.
-/
import Derived.Test.YteiacefbjmacbaaDigits
namespace Go.Proofs.Yteiacefbjmacbaa
open Go.RowKit

theorem digV_two (l : List UInt8) : ∃ a b : Int, digV l = .tuple #[.int .u8 a, .int .i64 b] := by
  unfold digV
  split
  · exact ⟨_, _, rfl⟩
  · split
    · exact ⟨_, _, rfl⟩
    · split
      · exact ⟨_, _, rfl⟩
      · exact ⟨_, _, rfl⟩

theorem digits_any (s : ByteArray) (w : World) (hs : s.size ≤ 9223372036854775807) :
    Calls Try.prog 4 #[.string s] w fun e w' => e = .returned (.bool true) ∧ Below w.heap.size w w' := by
  have H1 : Hid (_) := digit_any s w hs
  have H2 : Hid (_) := refDigit_any s w
  obtain ⟨a, b, hd⟩ := digV_two s.data.toList
  rw [hd] at H1 H2
  clear hd hs
  go_enter Try.func4, Try.ntmps4
  go_wp2_with fail
  refine Calls.mono H1.out ?_
  rintro e w' ⟨rfl, rfl⟩
  go_wp2_with fail
  refine Calls.mono H2.out ?_
  rintro e w1 ⟨rfl, hb⟩
  go_wp2
  go_ret
  exact ⟨rfl, hb⟩
end Go.Proofs.Yteiacefbjmacbaa
