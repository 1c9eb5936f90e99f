/-
  Div64 by a divisor of at most 24.
-/
import Derived.Test.YtaiccmbhdgecgaaDv3
import Derived.Test.YtaiccmbhdgecgaaDv4
import Derived.Test.YtaiccmbhdgecgaaDv5
import Derived.Test.YtaiccmbhdgecgaaDv6
namespace Go.Proofs.Ytaiccmbhdgecgaa
open Go.RowKit

theorem div64_hi (hi lo y : Nat) (w : World) (h1 : 0 < hi) (h2 : hi < y) (hy : y ≤ 24) (hlo : lo < 18446744073709551616) :
    Calls Try.prog 69 #[.int .u64 (hi : Int), .int .u64 (lo : Int), .int .u64 (y : Int)] w fun e w' => (∃ r, e = .returned (.tuple #[.int .u64 (((hi * 18446744073709551616 + lo) / y : Nat) : Int), r])) ∧ ∃ n, w' = w.drewN n := by
  match y, h2, hy with
  | 0, h2, _ => omega
  | 1, h2, _ => omega
  | 2, h2, _ => exact div64_2 hi lo w h1 h2 hlo
  | 3, h2, _ => exact div64_3 hi lo w h1 h2 hlo
  | 4, h2, _ => exact div64_4 hi lo w h1 h2 hlo
  | 5, h2, _ => exact div64_5 hi lo w h1 h2 hlo
  | 6, h2, _ => exact div64_6 hi lo w h1 h2 hlo
  | 7, h2, _ => exact div64_7 hi lo w h1 h2 hlo
  | 8, h2, _ => exact div64_8 hi lo w h1 h2 hlo
  | 9, h2, _ => exact div64_9 hi lo w h1 h2 hlo
  | 10, h2, _ => exact div64_10 hi lo w h1 h2 hlo
  | 11, h2, _ => exact div64_11 hi lo w h1 h2 hlo
  | 12, h2, _ => exact div64_12 hi lo w h1 h2 hlo
  | 13, h2, _ => exact div64_13 hi lo w h1 h2 hlo
  | 14, h2, _ => exact div64_14 hi lo w h1 h2 hlo
  | 15, h2, _ => exact div64_15 hi lo w h1 h2 hlo
  | 16, h2, _ => exact div64_16 hi lo w h1 h2 hlo
  | 17, h2, _ => exact div64_17 hi lo w h1 h2 hlo
  | 18, h2, _ => exact div64_18 hi lo w h1 h2 hlo
  | 19, h2, _ => exact div64_19 hi lo w h1 h2 hlo
  | 20, h2, _ => exact div64_20 hi lo w h1 h2 hlo
  | 21, h2, _ => exact div64_21 hi lo w h1 h2 hlo
  | 22, h2, _ => exact div64_22 hi lo w h1 h2 hlo
  | 23, h2, _ => exact div64_23 hi lo w h1 h2 hlo
  | 24, h2, _ => exact div64_24 hi lo w h1 h2 hlo
  | y + 25, _, hy => omega
end Go.Proofs.Ytaiccmbhdgecgaa
