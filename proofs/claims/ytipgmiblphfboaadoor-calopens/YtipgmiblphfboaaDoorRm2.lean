/-
  Where Move's search by halves ends.
-/
import Derived.Test.YtipgmiblphfboaaDoorRm1
namespace Go.Proofs.YtipgmiblphfboaaDoor
set_option maxRecDepth 100000

theorem cntO_hi (wk : Nat → Bool) (A : List (Int × Bool)) (a b : Int) (h : a ≤ b) : (cntO wk A a (b + 1) : Int) = cntO wk A a b + (if isOp wk A b then 1 else 0) := by
  rw [cntO_cI, cntO_cI, show (b + 1 - a).toNat = (b - a).toNat + 1 by omega, cI, show a + ((b - a).toNat : Int) = b by omega]
theorem cntO_lo (wk : Nat → Bool) (A : List (Int × Bool)) (a b : Int) (h : a < b) : (cntO wk A a b : Int) = cntO wk A (a + 1) b + (if isOp wk A a then 1 else 0) := by
  rw [cntO_cI, cntO_cI, show (b - a).toNat = 1 + (b - (a + 1)).toNat by omega, cI_add, cI, cI, show a + ((0 : Nat) : Int) = a by omega, show a + ((1 : Nat) : Int) = a + 1 by omega]
  omega
theorem cntO_none (wk : Nat → Bool) (A : List (Int × Bool)) (a b : Int) (h : b ≤ a) : (cntO wk A a b : Int) = 0 := by
  rw [cntO_cI, show (b - a).toNat = 0 by omega, cI]
/-- forth: the search's end -/
theorem up_end (wk : Nat → Bool) (A : List (Int × Bool)) (a lo n : Int) (h : a + 1 ≤ lo) (h1 : (cntO wk A (a + 1) lo : Int) < n) (h2 : n ≤ cntO wk A (a + 1) (lo + 1)) : ∃ j : Nat, 1 ≤ j ∧ a + j * 1 = lo ∧ (mcn wk A a 1 j : Int) = n * 1 ∧ isOp wk A lo = true := by
  have hc := cntO_hi wk A (a + 1) lo h
  refine ⟨(lo - a).toNat, by omega, by omega, ?_, ?_⟩
  · rw [mcn_up, show a + 1 + ((lo - a).toNat : Int) = lo + 1 by omega]
    split at hc <;> omega
  · cases hb : isOp wk A lo with
    | true => rfl
    | false => rw [hb] at hc; simp at hc; omega
/-- back: the search's end -/
theorem dn_end (wk : Nat → Bool) (A : List (Int × Bool)) (a lo n : Int) (h : lo < a) (h1 : (cntO wk A (lo + 1) a : Int) < -n) (h2 : -n ≤ cntO wk A lo a) : ∃ j : Nat, 1 ≤ j ∧ a + j * -1 = lo ∧ (mcn wk A a (-1) j : Int) = n * -1 ∧ isOp wk A lo = true := by
  have hc := cntO_lo wk A lo a h
  refine ⟨(a - lo).toNat, by omega, by omega, ?_, ?_⟩
  · rw [mcn_dn, show a - ((a - lo).toNat : Int) = lo by omega]
    split at hc <;> omega
  · cases hb : isOp wk A lo with
    | true => rfl
    | false => rw [hb] at hc; simp at hc; omega
/-- too few days: no such day -/
theorem up_none (wk : Nat → Bool) (A : List (Int × Bool)) (a n : Int) (h : (cntO wk A (a + 1) 3652425 : Int) < n) (j : Nat) (hj : a + j * 1 ≤ 3652424) : (mcn wk A a 1 j : Int) < n * 1 := by
  rw [mcn_up]
  have := cntO_mono wk A (a + 1) (a + 1 + j) 3652425 (by omega)
  omega
theorem cntO_mono' (wk : Nat → Bool) (A : List (Int × Bool)) (a b c : Int) (h : a ≤ b) (hc : b ≤ c) : (cntO wk A b c : Int) ≤ cntO wk A a c := by
  rw [cntO_cI, cntO_cI, show (c - a).toNat = (b - a).toNat + (c - b).toNat by omega, cI_add, show a + ((b - a).toNat : Int) = b by omega]
  have := cI_bound (isOp wk A) a (b - a).toNat
  omega
theorem dn_none (wk : Nat → Bool) (A : List (Int × Bool)) (a n : Int) (h : (cntO wk A 0 a : Int) < -n) (j : Nat) (hj : 0 ≤ a + j * -1) : (mcn wk A a (-1) j : Int) < n * -1 := by
  rw [mcn_dn]
  have := cntO_mono' wk A 0 (a - j) a (by omega) (by omega)
  omega
end Go.Proofs.YtipgmiblphfboaaDoor
