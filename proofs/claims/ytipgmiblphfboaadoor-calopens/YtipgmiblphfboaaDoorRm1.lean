/-
  Open days counted step by step and between two days: the plain mathematics of Move.
-/
import Derived.Test.YtipgmiblphfboaaDoorRs9
import Derived.Test.YtipgmiblphfboaaDoorShp
namespace Go.Proofs.YtipgmiblphfboaaDoor
set_option maxRecDepth 100000

theorem cntO_cI (wk : Nat → Bool) (A : List (Int × Bool)) (a b : Int) : (cntO wk A a b : Int) = cI (isOp wk A) a (b - a).toNat := by
  unfold cntO
  rw [cI_filter (fun n => isOp wk A n)]
theorem mcn_up (wk : Nat → Bool) (A : List (Int × Bool)) (a : Int) (j : Nat) : (mcn wk A a 1 j : Int) = cntO wk A (a + 1) (a + 1 + j) := by
  rw [cntO_cI, show (a + 1 + (j : Int) - (a + 1)).toNat = j by omega]
  induction j with
  | zero => rfl
  | succ j ih =>
    rw [mcn_succ, Int.natCast_add, ih, cI, show a + ((j : Int) + 1) * 1 = a + 1 + (j : Int) by omega]
    split <;> rfl
theorem mcn_dn (wk : Nat → Bool) (A : List (Int × Bool)) (a : Int) (j : Nat) : (mcn wk A a (-1) j : Int) = cntO wk A (a - j) a := by
  rw [cntO_cI, show (a - (a - (j : Int))).toNat = j by omega]
  induction j with
  | zero => rfl
  | succ j ih =>
    rw [mcn_succ, Int.natCast_add, ih, Nat.add_comm j 1, cI_add, show a - ((1 + j : Nat) : Int) + ((1 : Nat) : Int) = a - (j : Int) by omega, show a + ((j : Int) + 1) * -1 = a - ((1 + j : Nat) : Int) by omega]
    rw [cI, cI, show a - ((1 + j : Nat) : Int) + ((0 : Nat) : Int) = a - ((1 + j : Nat) : Int) by omega]
    split <;> omega
theorem cntO_mono (wk : Nat → Bool) (A : List (Int × Bool)) (a b c : Int) (h : b ≤ c) : (cntO wk A a b : Int) ≤ cntO wk A a c := by
  rw [cntO_cI, cntO_cI, show (c - a).toNat = (b - a).toNat + ((c - a).toNat - (b - a).toNat) by omega, cI_add]
  have := cI_bound (isOp wk A) (a + ((b - a).toNat : Int)) ((c - a).toNat - (b - a).toNat)
  omega
end Go.Proofs.YtipgmiblphfboaaDoor
