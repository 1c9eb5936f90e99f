import Derived.Test.YtbmnkedbpomnkaaRows
import Derived.Test.YtbmnkedbpomnkaaPoly
import Derived.WalkKit
import Derived.ProofKit
import Derived.OpenShut
import Derived.Laws.BitsAllLaws
namespace Go.Proofs.Ytbmnkedbpomnkaa
open Go.ChangeShapes Go.WideShapes Go.ChangeAt Go.RowKit

theorem ret_int {k : IntKind} {a b : Int} (h : a = b) : Ending.returned (.int k a) = .returned (.int k b) := by rw [h]

theorem odd_of (x : Int) (h0 : 0 ≤ x) (h1 : x < 4294967296) : (bits BinOp.and IntKind.u32 x 1 == 1) = decide (x.toNat % 2 = 1) := by
  rw [u32_and x 1 h0 h1 (by omega) (by omega), show (1 : Int).toNat = 1 from rfl, nat_mask1]
  rw [Bool.eq_iff_iff]; simp; omega

theorem mv_odd (x : Int) (h0 : 0 ≤ x) (h1 : x < 4294967296) (h : (bits BinOp.and IntKind.u32 x 1 == 1) = true) :
    bits BinOp.xor IntKind.u32 (x / 2) 2197175160 = Poly.mv x.toNat := by
  rw [odd_of x h0 h1] at h
  have h := of_decide_eq_true h
  unfold Poly.mv
  rw [if_pos h, u32_xor _ _ (by omega) (by omega) (by omega) (by omega), show (x / 2).toNat = x.toNat / 2 from by omega]
  rfl

theorem mv_even (x : Int) (h0 : 0 ≤ x) (h1 : x < 4294967296) (h : (bits BinOp.and IntKind.u32 x 1 == 1) = false) :
    x / 2 = Poly.mv x.toNat := by
  rw [odd_of x h0 h1] at h
  have h := of_decide_eq_false h
  unfold Poly.mv
  rw [if_neg h]
  omega

set_option maxHeartbeats 400000 in
theorem moveBit_any (x : Int) (w : World) (h0 : 0 ≤ x) (h1 : x < 4294967296) :
    Calls Try.prog 12 #[.int .u32 x] w fun e w' => e = .returned (.int .u32 (Poly.mv x.toNat)) ∧ w' = w := by
  go_enter Try.func12, Try.ntmps12
  go_wp2
  · go_ret
    exact ⟨ret_int (mv_odd x h0 h1 ‹_›), rfl⟩
  · go_ret
    exact ⟨ret_int (mv_even x h0 h1 ‹_›), rfl⟩

def bitAt (k : Nat) : Nat := 2147483648 / 2 ^ k

theorem bitAt_pow (k : Nat) (h : k < 32) : bitAt k = 2 ^ (31 - k) := by
  unfold bitAt
  rw [show 2147483648 = 2 ^ (31 - k) * 2 ^ k by rw [← Nat.pow_add, show 31 - k + k = 31 by omega]]
  exact Nat.mul_div_cancel _ (Nat.two_pow_pos k)

theorem bitAt_lt (k : Nat) : bitAt k < 4294967296 :=
  Nat.lt_of_le_of_lt (Nat.div_le_self _ _) (by omega)

theorem bitAt_half (k : Nat) : bitAt k / 2 = bitAt (k + 1) := by
  unfold bitAt
  rw [Nat.pow_succ, Nat.div_div_eq_div_mul]

theorem bitAt_end : bitAt 32 = 0 := by decide

theorem and_bitAt (a k : Nat) (ha : a < 4294967296) (hk : k < 32) :
    (bits BinOp.and IntKind.u32 (a : Int) (bitAt k : Int) != 0) = a.testBit (31 - k) := by
  rw [u32_and_nat a _ ha (bitAt_lt k), bitAt_pow k hk, nat_bit, Nat.testBit_eq_decide_div_mod_eq]
  have hp := Nat.two_pow_pos (31 - k)
  rcases Nat.mod_two_eq_zero_or_one (a / 2 ^ (31 - k)) with h | h
  · simp [h]
  · rw [h, Nat.one_mul]
    rw [bne_iff_ne.2 (show ((2 ^ (31 - k) : Nat) : Int) ≠ 0 by omega)]
    rfl

set_option maxHeartbeats 400000 in
theorem times_nat (a b : Nat) (w : World) (ha : a < 4294967296) (hb : b < 4294967296) :
    Calls Try.prog 7 #[.int .u32 a, .int .u32 b] w fun e w' => e = .returned (.int .u32 (Poly.mul a b)) ∧ w' = w := by
  go_enter Try.func7, Try.ntmps7
  go_wp2
  go_loop [1, 5, 6] (fun v p t => ∃ k : Nat, k ≤ 32 ∧ v = .int .u32 (Poly.itr k b : Nat) ∧ p = .int .u32 (Poly.mulTo a b k : Nat) ∧ t = .int .u32 (bitAt k : Nat)) (fun _ _ t => (intOf t).toNat)
  case atStart => exact ⟨0, by omega, rfl, rfl, rfl⟩
  case round =>
    obtain ⟨k, hk, rfl, rfl, rfl⟩ := hrel
    by_cases hlt : k < 32
    · have hi := Poly.itr_lt k b hb
      have hm := Poly.mulTo_lt a b k hb
      have hbl := bitAt_lt k
      have hpos : 0 < bitAt k := by rw [bitAt_pow k hlt]; exact Nat.two_pow_pos _
      have hne : ((bitAt k : Int) != 0) = true := by simp; omega
      have H1 : Hid (bitAt k / 2 = bitAt (k + 1)) := bitAt_half k
      have H2 : Hid (Poly.mulTo a b (k + 1) = if a.testBit (31 - k) then Poly.mulTo a b k ^^^ Poly.itr k b else Poly.mulTo a b k) := rfl
      have H3 : Hid (Poly.itr (k + 1) b = Poly.mv (Poly.itr k b)) := rfl
      have hab := and_bitAt a k ha hlt
      cases htb : a.testBit (31 - k)
      all_goals
        rw [htb] at hab
        have H4 : Hid (_ = _) := htb
        clear htb
        go_wp2_with (go_at_call 12; refine (moveBit_any _ _ (by omega) (by omega)).mono ?_; rintro e w' ⟨rfl, rfl⟩)
        go_round
        case rel =>
          refine ⟨k + 1, by omega, ?_, ?_, ?_⟩
          · rw [H3.out]
          · rw [H2.out, H4.out]
            first | rfl | (rw [u32_xor_nat _ _ hm hi]; rfl)
          · rw [← H1.out]; go_num
        case measure => simp [intOf]; omega
    · have e32 : k = 32 := by omega
      subst e32
      have hne : ((bitAt 32 : Int) != 0) = false := by rw [bitAt_end]; rfl
      go_wp2
      go_ret
      exact ⟨rfl, rfl⟩

theorem times_any (a b : Int) (w : World) (ha0 : 0 ≤ a) (ha : a < 4294967296) (hb0 : 0 ≤ b) (hb : b < 4294967296) :
    Calls Try.prog 7 #[.int .u32 a, .int .u32 b] w fun e w' => e = .returned (.int .u32 (Poly.mul a.toNat b.toNat)) ∧ w' = w := by
  obtain ⟨a, rfl⟩ := Int.eq_ofNat_of_zero_le ha0
  obtain ⟨b, rfl⟩ := Int.eq_ofNat_of_zero_le hb0
  rw [Int.toNat_natCast, Int.toNat_natCast]
  exact times_nat a b w (by omega) (by omega)

theorem and_one_i64 (n : Nat) (h : n < 9223372036854775808) : (bits BinOp.and IntKind.i64 (n : Int) 1 == 1) = decide (n % 2 = 1) := by
  have h2 : bits BinOp.and IntKind.i64 (n : Int) 1 = (n : Int) % 2 := by
    have h1 : (BitVec.ofInt 64 1).toNat = 2 ^ 1 - 1 := by decide
    have key : (BitVec.ofInt 64 (n : Int) &&& BitVec.ofInt 64 1).toNat = ((n : Int) % ((2 ^ 64 : Nat) : Int)).toNat % 2 ^ 1 := by
      rw [BitVec.toNat_and, BitVec.toNat_ofInt, h1, Nat.and_two_pow_sub_one_eq_mod]
    show IntKind.i64.wrap ((BitVec.ofInt 64 (n : Int) &&& BitVec.ofInt 64 1).toNat : Nat) = (n : Int) % 2
    rw [key, IntKind.wrap_i64]
    omega
  rw [h2, Bool.eq_iff_iff]; simp; omega

set_option maxHeartbeats 400000 in
theorem power_nat (b n : Nat) (w : World) (hb : b < 4294967296) (hn : n ≤ 2199023255552) :
    Calls Try.prog 8 #[.int .u32 b, .int .i64 n] w fun e w' => e = .returned (.int .u32 (Poly.pw b n)) ∧ w' = w := by
  go_enter Try.func8, Try.ntmps8
  go_wp2
  go_loop [0, 1, 5] (fun v c p => ∃ B N P : Nat, B < 4294967296 ∧ P < 4294967296 ∧ N ≤ n ∧ v = .int .u32 B ∧ c = .int .i64 N ∧ p = .int .u32 P ∧ Hid (Poly.mul P (Poly.pw B N) = Poly.pw b n)) (fun _ c _ => (intOf c).toNat)
  case atStart => exact ⟨b, n, Poly.one, hb, Poly.one_lt, Nat.le_refl _, rfl, rfl, rfl, Poly.one_mul _ (Poly.pw_lt b n hb)⟩
  case round =>
    obtain ⟨B, N, P, hB, hP, hN, rfl, rfl, rfl, HM⟩ := hrel
    by_cases hlt : 0 < N
    · have h1 := and_one_i64 N (by omega)
      have H2 : Hid (_ = _) := Poly.pw_round P B N hB
      have hm1 := Poly.mul_lt B B hB
      have hm2 := Poly.mul_lt P B hB
      by_cases hodd : N % 2 = 1
      all_goals
        have H3 : Hid (_) := hodd
        simp only [hodd, decide_true, decide_false] at h1
        clear hodd
        go_wp2_with (go_at_call 7; refine (times_any _ _ _ (by omega) (by omega) (by omega) (by omega)).mono ?_; rintro e w' ⟨rfl, rfl⟩)
        go_round
        case rel =>
          refine ⟨Poly.mul B B, N / 2, _, hm1, ?_, by omega, rfl, by go_num, rfl, ?_⟩
          · assumption
          · have h := H2.out
            rw [HM.out] at h
            first | rw [if_pos H3.out] at h | rw [if_neg H3.out] at h
            exact h.symm
        case measure => simp [intOf]; omega
    · have e0 : N = 0 := by omega
      subst e0
      go_wp2
      go_ret
      refine ⟨ret_int ?_, rfl⟩
      have h := HM.out
      simp only [Poly.pw] at h
      rw [Poly.mul_one P hP] at h
      rw [h]

theorem power_any (b n : Int) (w : World) (hb0 : 0 ≤ b) (hb : b < 4294967296) (hn0 : 0 ≤ n) (hn : n ≤ 2199023255552) :
    Calls Try.prog 8 #[.int .u32 b, .int .i64 n] w fun e w' => e = .returned (.int .u32 (Poly.pw b.toNat n.toNat)) ∧ w' = w := by
  obtain ⟨b, rfl⟩ := Int.eq_ofNat_of_zero_le hb0
  obtain ⟨n, rfl⟩ := Int.eq_ofNat_of_zero_le hn0
  rw [Int.toNat_natCast, Int.toNat_natCast]
  exact power_nat b n w (by omega) (by omega)

/-- the sum of two, one behind the other, the second of n bytes -/
def joinS (a b n : Nat) : Nat := Poly.mul a (Poly.pw 8388608 n) ^^^ b

theorem joinS_lt (a b n : Nat) (hb : b < 4294967296) : joinS a b n < 4294967296 :=
  Nat.xor_lt_two_pow (n := 32) (Poly.mul_lt _ _ (Poly.pw_lt _ _ (by decide))) hb

set_option maxHeartbeats 400000 in
theorem join_yes (a b n : Int) (w : World) (ha0 : 0 ≤ a) (ha : a < 4294967296) (hb0 : 0 ≤ b) (hb : b < 4294967296) (hn0 : 0 ≤ n) (hn : n ≤ 1099511627776) :
    Calls Try.prog 5 #[.int .u32 a, .int .u32 b, .int .i64 n] w fun e w' => e = .returned (.tuple #[.int .u32 (joinS a.toNat b.toNat n.toNat), .int .i64 0]) ∧ w' = w := by
  have hp := Poly.pw_lt 8388608 n.toNat (by decide)
  have hm := Poly.mul_lt a.toNat _ hp
  go_enter Try.func5, Try.ntmps5
  go_wp2_with (first | (go_at_call 8; refine (power_any _ _ _ (by omega) (by omega) (by omega) (by omega)).mono ?_; rintro e w' ⟨rfl, rfl⟩) | (go_at_call 7; refine (times_any _ _ _ (by omega) (by omega) (by omega) (by omega)).mono ?_; rintro e w' ⟨rfl, rfl⟩))
  go_ret2
  refine ⟨?_, rfl⟩
  rw [u32_xor _ _ (by omega) (by omega) hb0 hb]
  rfl

set_option maxHeartbeats 400000 in
theorem join_no (a b n : Int) (w : World) (hn : n < 0 ∨ 1099511627776 < n) :
    Calls Try.prog 5 #[.int .u32 a, .int .u32 b, .int .i64 n] w fun e w' => e = .returned (.tuple #[.int .u32 0, .int .i64 2]) ∧ w' = w := by
  rcases hn with hn | hn
  · go_enter Try.func5, Try.ntmps5
    go_wp2
    go_ret2
    exact ⟨rfl, rfl⟩
  · have hn' : 0 ≤ n := by omega
    go_enter Try.func5, Try.ntmps5
    go_wp2
    go_ret2
    exact ⟨rfl, rfl⟩
end Go.Proofs.Ytbmnkedbpomnkaa
