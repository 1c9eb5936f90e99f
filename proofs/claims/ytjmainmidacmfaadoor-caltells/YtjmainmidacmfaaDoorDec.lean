/-
  Numbers in digits: Itoa's digits, and the document's pad.
-/
import Derived.Test.YtjmainmidacmfaaDoorCspan
import Derived.Lib.ItoaNum
import Derived.Lib.ItoaMem
import Derived.Lib.ItoaLen
namespace Go.Proofs.YtjmainmidacmfaaDoor
open Go.RowKit
set_option maxRecDepth 100000

/-- a digit -/
def dgt (n : Nat) : UInt8 := UInt8.ofNat (48 + n % 10)

theorem dec_big (n : Nat) (h : 10 ≤ n) : Lib.decDigits n = Lib.decDigits (n / 10) ++ [dgt n] := by
  rw [Lib.decDigits, dif_neg (by omega)]
  rfl
theorem dec_small (n : Nat) (h : n < 10) : Lib.decDigits n = [dgt n] := by
  rw [Lib.decDigits, dif_pos h]
  unfold dgt
  rw [Nat.mod_eq_of_lt h]

/-- zeros ahead of a number's digits, so that there are at least so many -/
def padD (n k : Nat) : List UInt8 := List.replicate (k - Lib.nDigits n) 48 ++ Lib.decDigits n

/-- the document's pad: what is left to be laid ahead of what is there -/
def Pad (n k : Nat) (acc r : List UInt8) : Prop := (n = 0 ∧ k = 0 ∧ r = acc) ∨ ((0 < n ∨ 0 < k) ∧ r = padD n k ++ acc)

theorem pad_is (n k : Nat) (acc : List UInt8) (h : 0 < n ∨ 0 < k) : Pad n k acc (padD n k ++ acc) := .inr ⟨h, rfl⟩

theorem padD_one (n : Nat) : padD n 1 = Lib.decDigits n := by
  unfold padD
  have := Lib.nDigits_pos n
  rw [show 1 - Lib.nDigits n = 0 by omega]
  rfl

theorem padD_step (n k : Nat) (acc : List UInt8) (h : 0 < n / 10 ∨ 0 < k - 1) : padD n k ++ acc = padD (n / 10) (k - 1) ++ dgt n :: acc := by
  unfold padD
  by_cases hn : n < 10
  · rw [dec_small n hn, Lib.nDigits_small hn, show n / 10 = 0 by omega, dec_small 0 (by omega), Lib.nDigits_small (show 0 < 10 by omega)]
    have e : List.replicate (k - 1) (48 : UInt8) = List.replicate (k - 1 - 1) 48 ++ [dgt 0] := by
      obtain ⟨j, hj⟩ : ∃ j, k - 1 = j + 1 := ⟨k - 1 - 1, by omega⟩
      rw [hj, show j + 1 - 1 = j by omega, List.replicate_succ']
      rfl
    rw [e]
    simp [List.append_assoc]
  · rw [dec_big n (by omega), Lib.nDigits_big hn, show k - (Lib.nDigits (n / 10) + 1) = k - 1 - Lib.nDigits (n / 10) by omega]
    simp [List.append_assoc]

theorem Pad.step {n k : Nat} {acc r : List UInt8} (p : Pad n k acc r) (h : 0 < n ∨ 0 < k) : Pad (n / 10) (k - 1) (dgt n :: acc) r := by
  rcases p with ⟨rfl, rfl, _⟩ | ⟨_, rfl⟩
  · omega
  · by_cases hm : 0 < n / 10 ∨ 0 < k - 1
    · exact .inr ⟨hm, padD_step n k acc hm⟩
    · refine .inl ⟨by omega, by omega, ?_⟩
      unfold padD
      rw [dec_small n (by omega), Lib.nDigits_small (by omega), show k - 1 = 0 by omega]
      rfl
theorem Pad.done {acc r : List UInt8} (p : Pad 0 0 acc r) : r = acc := by
  rcases p with ⟨_, _, h⟩ | ⟨h, _⟩
  · exact h
  · omega

theorem dgt_toNat (n : Nat) : (dgt n).toNat = 48 + n % 10 := by
  unfold dgt
  rw [UInt8.toNat_ofNat']
  omega

theorem Pad.length {n k : Nat} {acc r : List UInt8} (p : Pad n k acc r) : acc.length ≤ r.length := by
  rcases p with ⟨_, _, rfl⟩ | ⟨_, rfl⟩
  · exact Nat.le_refl _
  · rw [List.length_append]; omega
end Go.Proofs.YtjmainmidacmfaaDoor
