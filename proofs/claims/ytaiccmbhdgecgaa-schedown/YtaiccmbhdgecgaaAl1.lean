/-
  All: digits of numbers, and the next list; pure, and both functions.
-/
import Derived.Test.YtaiccmbhdgecgaaSc1
import Derived.Test.YtaiccmbhdgecgaaBk2
namespace Go.Proofs.Ytaiccmbhdgecgaa
open Go.RowKit
set_option maxRecDepth 100000
set_option linter.unusedVariables false
set_option linter.unusedSimpArgs false
attribute [local go_sem ↓] mki_op

/-- the last d digits of n in base b, the highest first -/
def dig (b : Nat) : Nat → Nat → List Int
  | _, 0 => []
  | n, d + 1 => dig b (n / b) d ++ [((n % b : Nat) : Int)]
theorem dig_len (b : Nat) : ∀ d n, (dig b n d).length = d
  | 0, _ => rfl
  | d + 1, n => by rw [dig, List.length_append, dig_len b d]; rfl
theorem dig_zeros (b : Nat) (hb : 1 ≤ b) (j : Nat) : ∀ k m, dig b (m * b ^ k) (j + k) = dig b m j ++ List.replicate k 0
  | 0, m => by simp
  | k + 1, m => by
    have e1 : m * b ^ (k + 1) / b = m * b ^ k := by rw [Nat.pow_succ, ← Nat.mul_assoc, Nat.mul_div_cancel _ (by omega)]
    have e2 : m * b ^ (k + 1) % b = 0 := by rw [Nat.pow_succ, ← Nat.mul_assoc, Nat.mul_mod_left]
    rw [show j + (k + 1) = (j + k) + 1 by omega, dig, e1, e2, dig_zeros b hb j k m, List.replicate_succ', ← List.append_assoc]
    rfl
theorem dig_zero (b : Nat) (hb : 1 ≤ b) (d : Nat) : dig b 0 d = List.replicate d 0 := by
  have := dig_zeros b hb 0 d 0
  rw [Nat.zero_mul, Nat.zero_add] at this
  rw [this]
  rfl
/-- one more, where the last digit may rise -/
theorem dig_up (b c j : Nat) (hb : 1 ≤ b) (h : c % b + 1 < b) : dig b (c + 1) (j + 1) = dig b (c / b) j ++ [((c % b : Nat) : Int) + 1] := by
  have e : c = b * (c / b) + c % b := (Nat.div_add_mod c b).symm
  have e1 : (c + 1) / b = c / b := by
    rw [e, Nat.add_assoc, Nat.mul_add_div (by omega), Nat.div_eq_of_lt h]
    rw [← e]
    rfl
  have e2 : (c + 1) % b = c % b + 1 := by
    rw [Nat.add_mod, Nat.mod_eq_of_lt (a := c % b + 1 % b)]
    · rw [Nat.mod_eq_of_lt (a := 1) (by omega)]
    · rw [Nat.mod_eq_of_lt (a := 1) (by omega)]; exact h
  rw [dig, e1, e2]
  simp
theorem fl_ic (L : List Int) : L.flatMap eN = ic L := by
  induction L with
  | nil => rfl
  | cons x t ih => rw [List.flatMap_cons, ih]; rfl
abbrev OwI (w : World) (base : Nat) (v : Value) (L : List Int) : Prop := Ow eN 1 3 (fun _ => 0) 0 w base v L
theorem ow_made (w : World) (base : Nat) (hb : base ≤ w.heap.size) (R : List Int) (hR : R.length ≤ maxLen) : OwI (w.alloc (.cells (ic R).toArray 3)) base (.slice (some ⟨w.heap.size, 0, none⟩) R.length R.length) R := by
  refine ⟨⟨by rw [fl_ic, ic_len, Nat.mul_one], .inr ⟨w.heap.size, R.length, _, rfl, hb, heap_alloc_new w _, Nat.le_refl _, hR, by simp [ic_len], ?_⟩⟩, fun _ _ => rfl⟩
  rw [fl_ic, Nat.mul_one]
  show (ic R).take R.length = ic R
  rw [List.take_of_length_le (by rw [ic_len]; exact Nat.le_refl _)]
theorem Ow.ri {col : Nat → Nat} {c : Nat} {w : World} {B : Nat} {v : Value} {L : List Int} (h : Ow eN 1 3 col c w B v L) : RI w v L := by
  rcases h.1.2 with ⟨rfl, h0⟩ | ⟨g, cap, cur, rfl, _, hg, h1, _⟩
  · have : L = [] := List.eq_nil_of_length_eq_zero h0
    subst this
    exact RI.nil w
  · refine ⟨_, cap, rfl, h1, (fun e => by cases e), fun i hi => ⟨g, 0, rfl, ?_⟩⟩
    obtain ⟨g', c', e, _, hc, _⟩ := h.atI i hi
    cases e
    rw [Nat.zero_add]
    exact hc
set_option maxHeartbeats 4000000 in
theorem digits_any (b n d : Nat) (hb : 1 ≤ b ∧ b ≤ 16) (hd : d ≤ 24) (hn : n ≤ 1048576) (w : World) :
    Calls Try.prog 44 #[.int .i64 (n : Int), .int .i64 (b : Int), .int .i64 (d : Int)] w fun e w' => (∃ v, e = .returned v ∧ OwI w' w.heap.size v (dig b n d)) ∧ Below w.heap.size w w' := by
  have mk := run_mkI d (by omega)
  have hm := ow_made w w.heap.size (Nat.le_refl _) (List.replicate d 0) (by simp [maxLen]; omega)
  rw [List.length_replicate] at hm
  have HM := hid hm
  have HB := hid ((Below.refl w.heap.size w).alloc (Nat.le_refl _) (.cells (ic (List.replicate d 0)).toArray 3))
  have hb0 : (b : Int) ≠ 0 := by omega
  have hb1 : ¬ (b : Int) = -1 := by omega
  clear hm
  generalize hwa : w.alloc (.cells (ic (List.replicate d 0)).toArray 3) = wa at *
  go_enter Try.func44, Try.ntmps44
  go_wp2_with fail
  go_loopw [0, 8] (fun s0 s8 wr => ∃ (j c : Nat) (z : Int) (S : List Int), j ≤ d ∧ c ≤ 1048576 ∧ s0 = .int .i64 (c : Int) ∧ s8 = .int .i64 z ∧ Hid (z = (j : Int) - 1) ∧ Hid (S.length = d - j ∧ dig b n d = dig b c j ++ S) ∧ Hid (OwI wr w.heap.size (.slice (some ⟨w.heap.size, 0, none⟩) d d) (List.replicate j 0 ++ S)) ∧ Hid (Below w.heap.size w wr)) (fun _ s8 _ => (intOf s8 + 1).toNat)
  case atStart => exact ⟨d, n, _, [], Nat.le_refl _, hn, rfl, rfl, hid rfl, hid ⟨by simp, by simp⟩, hid (by simpa using HM.out), HB⟩
  case round =>
    obtain ⟨j, c, z, S, hj, hc, h0, h8, HZ, HS, HO, HBr⟩ := hrel
    subst h0 h8
    by_cases hj1 : 1 ≤ j
    · obtain ⟨i, rfl⟩ : ∃ i, j = i + 1 := ⟨j - 1, by omega⟩
      have hz : z = (i : Int) := by have := HZ.out; omega
      subst hz
      have hI : (0 : Int) ≤ (i : Int) := by omega
      have hiL : i < (List.replicate (i + 1) (0 : Int) ++ S).length := by simp; omega
      obtain ⟨g, cp, e, hcp, hcell, hfr, hBg⟩ := HO.out.atI i hiL
      injection e with e1 e2 e3
      injection e1 with e1
      injection e1 with e1
      subst e1
      obtain ⟨z0, hz0⟩ : ∃ z, wr.cell? ⟨w.heap.size, i, none⟩ = some (.int .i64 z) := ⟨_, hcell⟩
      have hset : (List.replicate (i + 1) (0 : Int) ++ S).set i ((c : Int) % (b : Int)) = List.replicate i 0 ++ (((c % b : Nat) : Int) :: S) := by
        rw [List.replicate_succ', List.append_assoc, List.set_append_right _ _ (by simp)]
        simp
      have HO2 := hid (show OwI (wr.setCell ⟨w.heap.size, i, none⟩ (.int .i64 ((c : Int) % (b : Int)))) w.heap.size (.slice (some ⟨w.heap.size, 0, none⟩) d d) (List.replicate i 0 ++ (((c % b : Nat) : Int) :: S)) by rw [← hset]; exact HO.out.set1 eN_len i hiL _ rfl rfl)
      have HB2 := hid (HBr.out.setCell (p := ⟨w.heap.size, i, none⟩) (Nat.le_refl _) (.int .i64 ((c : Int) % (b : Int))))
      have HS2 := hid (show (((c % b : Nat) : Int) :: S).length = d - i ∧ dig b n d = dig b (c / b) i ++ (((c % b : Nat) : Int) :: S) from ⟨by have := HS.out.1; simp; omega, by rw [HS.out.2, dig, List.append_assoc]; rfl⟩)
      have hdv : c / b ≤ 1048576 := Nat.le_trans (Nat.div_le_self _ _) hc
      have HDv := hid hdv
      have hwq : wrap64 ((c : Int) / (b : Int)) = (c : Int) / (b : Int) := by
        rw [← Int.natCast_ediv]
        generalize c / b = q at hdv
        unfold wrap64
        omega
      have hid' : (i : Int) < (d : Int) := by omega
      clear hset hcell e2 e3 hiL hdv hcp
      go_wp2
      go_roundw
      case rel => exact ⟨i, c / b, (i : Int) - 1, ((c % b : Nat) : Int) :: S, by omega, HDv.out, by first | rfl | (simp; done) | (simp; exact hwq), by first | rfl | go_num, hid rfl, HS2, HO2, HB2⟩
      case measure => first | (simp [intOf]; done) | (simp [intOf]; omega)
    · have hz : z = -1 := by have := HZ.out; omega
      subst hz
      have hj0 : j = 0 := by omega
      subst hj0
      have HF := hid (show OwI wr w.heap.size (.slice (some ⟨w.heap.size, 0, none⟩) d d) (dig b n d) by rw [HS.out.2]; exact HO.out)
      clear hj1
      go_wp2
      go_ret
      exact ⟨⟨_, rfl, HF.out⟩, HBr.out⟩
end Go.Proofs.Ytaiccmbhdgecgaa
