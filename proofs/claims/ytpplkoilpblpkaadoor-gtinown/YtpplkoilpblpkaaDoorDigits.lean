/-
  Check digits: the contracts of both sides.
-/
import Derived.Test.YtpplkoilpblpkaaDoorSums
import Derived.Test.YtpplkoilpblpkaaDoorBytes
namespace Go.Proofs.YtpplkoilpblpkaaDoor
open Go.RowKit
set_option maxRecDepth 100000

/-- a text of one byte -/
theorem run_one (w : World) (z : Int) (c : UInt8) (h : z = (c.toNat : Int)) :
    (convert 34 9 (.slice (some ⟨w.heap.size, 0, none⟩) 1 1)).run Tryd.prog (w.alloc (.cells #[.int .u8 z] 5)) = .ok (.string ⟨#[c]⟩) (w.alloc (.cells #[.int .u8 z] 5)) :=
  run_text (l := [c]) 34 9 Tryd.underlying34 Tryd.underlying5 Tryd.underlying9 (reads_one w c z h)

theorem run_one_drew (w : World) (z : Int) (c : UInt8) (h : z = (c.toNat : Int)) :
    (convert 34 9 (.slice (some ⟨w.heap.size, 0, none⟩) 1 1)).run Tryd.prog (w.alloc (.cells #[.int .u8 z] 5)).drew = .ok (.string ⟨#[c]⟩) (w.alloc (.cells #[.int .u8 z] 5)).drew :=
  run_text (l := [c]) 34 9 Tryd.underlying34 Tryd.underlying5 Tryd.underlying9 (reads_one w c z h).drew

/-- what Digit answers -/
def digV (l : List UInt8) : Value :=
  if 18 ≤ l.length then .tuple #[.int .u8 0, .int .i64 1]
  else if l.length = 0 then .tuple #[.int .u8 0, .int .i64 3]
  else if 0 ≤ fo l then .tuple #[.int .u8 0, .int .i64 20]
  else .tuple #[.int .u8 ((ck l).toNat : Int), .int .i64 0]

theorem digV_long {l : List UInt8} (h : 18 ≤ l.length) : digV l = .tuple #[.int .u8 0, .int .i64 1] := if_pos h
theorem digV_none {l : List UInt8} (h : l.length = 0) : digV l = .tuple #[.int .u8 0, .int .i64 3] := (if_neg (by omega)).trans (if_pos h)
theorem digV_other {l : List UInt8} (h1 : ¬ 18 ≤ l.length) (h2 : l.length ≠ 0) (h : 0 ≤ fo l) : digV l = .tuple #[.int .u8 0, .int .i64 20] := (if_neg h1).trans ((if_neg h2).trans (if_pos h))
theorem digV_ok {l : List UInt8} (h1 : ¬ 18 ≤ l.length) (h2 : l.length ≠ 0) (h : ¬ 0 ≤ fo l) : digV l = .tuple #[.int .u8 ((ck l).toNat : Int), .int .i64 0] := (if_neg h1).trans ((if_neg h2).trans (if_neg h))

set_option maxHeartbeats 400000 in
theorem digit_any (s : ByteArray) (w : World) (hs : s.size ≤ 9223372036854775807) :
    Calls Tryd.prog 27 #[.string s] w fun e w' => e = .returned (digV s.data.toList) ∧ w' = w := by
  have hl := len_list s
  have HF : Hid (_) := firstOther_any s w hs
  clear hs
  by_cases h1 : 18 ≤ s.size
  · rw [digV_long (by omega)]
    go_enter Tryd.func27, Tryd.ntmps27
    go_wp2
    go_ret2
    exact ⟨rfl, rfl⟩
  · by_cases h2 : s.size = 0
    · rw [digV_none (by omega)]
      go_enter Tryd.func27, Tryd.ntmps27
      go_wp2
      go_ret2
      exact ⟨rfl, rfl⟩
    · have HC : Hid (_) := checkDigit_any s w (by omega)
      by_cases h3 : 0 ≤ fo s.data.toList
      · rw [digV_other (by omega) (by omega) h3]
        generalize fo s.data.toList = f at HF h3
        go_enter Tryd.func27, Tryd.ntmps27
        go_wp2_with fail
        refine Calls.mono HF.out ?_
        rintro e w' ⟨rfl, rfl⟩
        go_wp2
        go_ret2
        exact ⟨rfl, rfl⟩
      · rw [digV_ok (by omega) (by omega) h3]
        generalize fo s.data.toList = f at HF h3
        go_enter Tryd.func27, Tryd.ntmps27
        go_wp2_with fail
        refine Calls.mono HF.out ?_
        rintro e w' ⟨rfl, rfl⟩
        go_wp2_with fail
        refine Calls.mono HC.out ?_
        rintro e w' ⟨rfl, rfl⟩
        go_wp2
        go_ret2
        exact ⟨rfl, rfl⟩

end Go.Proofs.YtpplkoilpblpkaaDoor
