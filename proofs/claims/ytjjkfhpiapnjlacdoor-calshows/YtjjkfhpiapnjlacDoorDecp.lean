/-
  Numbers in digits: Itoa's digits, and the document's pad.
-/
import Derived.Test.YtjjkfhpiapnjlacDoorCday
import Derived.Lib.ItoaNum
import Derived.Lib.ItoaMem
import Derived.Lib.ItoaLen
namespace Go.Proofs.YtjjkfhpiapnjlacDoor
open Go.RowKit
set_option maxRecDepth 100000

/-- a digit -/
def dgt (n : Nat) : UInt8 := UInt8.ofNat (48 + n % 10)

/-- the document's pad: digits laid ahead of what is there -/
inductive Pad : Nat → Nat → List UInt8 → List UInt8 → Prop
  | stop (acc : List UInt8) : Pad 0 0 acc acc
  | more (n k : Nat) (acc r : List UInt8) (h : 0 < n ∨ 0 < k) (p : Pad (n / 10) (k - 1) (dgt n :: acc) r) : Pad n k acc r

theorem dec_big (n : Nat) (h : 10 ≤ n) : Lib.decDigits n = Lib.decDigits (n / 10) ++ [dgt n] := by
  rw [Lib.decDigits, dif_neg (by omega)]
  rfl
theorem dec_small (n : Nat) (h : n < 10) : Lib.decDigits n = [dgt n] := by
  rw [Lib.decDigits, dif_pos h]
  unfold dgt
  rw [Nat.mod_eq_of_lt h]

/-- zeros ahead of a number's digits, so that there are at least so many -/
def padD (n k : Nat) : List UInt8 := List.replicate (k - Lib.nDigits n) 48 ++ Lib.decDigits n

/-- only zeros are left to be laid -/
theorem pad_zeros (k : Nat) (acc : List UInt8) : Pad 0 k acc (List.replicate k 48 ++ acc) := by
  induction k generalizing acc with
  | zero => exact .stop _
  | succ k ih =>
    refine .more 0 (k + 1) acc _ (.inr (by omega)) ?_
    have := ih (dgt 0 :: acc)
    have e : List.replicate (k + 1) (48 : UInt8) ++ acc = List.replicate k 48 ++ dgt 0 :: acc := by
      rw [List.replicate_succ', List.append_assoc]
      rfl
    rw [e]
    exact this

theorem pad_is (n k : Nat) (acc : List UInt8) (h : 0 < n ∨ 0 < k) : Pad n k acc (padD n k ++ acc) := by
  induction n using Nat.strongRecOn generalizing k acc with
  | _ n ih =>
    refine .more n k acc _ h ?_
    by_cases hn : n < 10
    · rw [show n / 10 = 0 by omega]
      have := pad_zeros (k - 1) (dgt n :: acc)
      unfold padD
      rw [dec_small n hn, Lib.nDigits_small hn, List.append_assoc]
      exact this
    · have := ih (n / 10) (by omega) (k - 1) (dgt n :: acc) (.inl (by omega))
      have e : padD n k ++ acc = padD (n / 10) (k - 1) ++ dgt n :: acc := by
        unfold padD
        rw [dec_big n (by omega), Lib.nDigits_big hn, show k - (Lib.nDigits (n / 10) + 1) = k - 1 - Lib.nDigits (n / 10) by omega]
        simp [List.append_assoc]
      rw [e]
      exact this

theorem padD_one (n : Nat) : padD n 1 = Lib.decDigits n := by
  unfold padD
  have := Lib.nDigits_pos n
  rw [show 1 - Lib.nDigits n = 0 by omega]
  rfl

theorem Pad.step {n k : Nat} {acc r : List UInt8} (p : Pad n k acc r) (h : 0 < n ∨ 0 < k) : Pad (n / 10) (k - 1) (dgt n :: acc) r := by
  cases p with
  | stop => omega
  | more _ _ _ _ _ p => exact p
theorem Pad.done {acc r : List UInt8} (p : Pad 0 0 acc r) : r = acc := by
  cases p with
  | stop => rfl
  | more _ _ _ _ h _ => omega

theorem dgt_toNat (n : Nat) : (dgt n).toNat = 48 + n % 10 := by
  unfold dgt
  rw [UInt8.toNat_ofNat']
  omega

theorem Pad.length {n k : Nat} {acc r : List UInt8} (p : Pad n k acc r) : acc.length ≤ r.length := by
  induction p with
  | stop => exact Nat.le_refl _
  | more n k acc r h p ih => simp only [List.length_cons] at ih; omega
end Go.Proofs.YtjjkfhpiapnjlacDoor
