/-
  How numbers are read: the contracts of both readers.
-/
import Derived.Test.YtfhicemfhkhjaabNums
namespace Go.Proofs.Ytfhicemfhkhjaab
open Go.RowKit

def rdV (l : List UInt8) : Value := .tuple #[.int .u64 ((rd l 0 0).1 : Nat), .int .i64 ((rd l 0 0).2.1 : Nat), .int .i64 ((rd l 0 0).2.2 : Nat)]

theorem rdV_eq (l : List UInt8) (a b c : Nat) (h : rd l 0 0 = (a, b, c)) : rdV l = .tuple #[.int .u64 (a : Nat), .int .i64 (b : Nat), .int .i64 (c : Nat)] := by
  unfold rdV
  rw [h]

theorem ret_int {k : IntKind} {a b : Int} (h : a = b) : Ending.returned (.int k a) = .returned (.int k b) := by rw [h]

theorem ret3 {k1 k2 k3 : IntKind} {a b c a' b' c' : Int} (h1 : a = a') (h2 : b = b') (h3 : c = c') :
    Ending.returned (.tuple #[.int k1 a, .int k2 b, .int k3 c]) = .returned (.tuple #[.int k1 a', .int k2 b', .int k3 c']) := by rw [h1, h2, h3]

theorem acc_or (acc c k : Nat) (P : Int) (hP : P = ((2 ^ (7 * k) : Nat) : Int)) (ha : acc < 128 ^ k) (hc : c < 256) (hk : k ≤ 9) (h9 : k = 9 → c ≤ 1) :
    bits BinOp.or IntKind.u64 (acc : Int) (IntKind.u64.wrap (IntKind.u64.wrap (bits BinOp.and IntKind.u8 (c : Int) 127) * P)) = ((acc + c % 128 * 128 ^ k : Nat) : Int) := by
  have e1 : bits BinOp.and IntKind.u8 (c : Int) 127 = ((c % 128 : Nat) : Int) := by
    rw [show (127 : Int) = ((127 : Nat) : Int) from rfl, u8_and_nat c 127 hc (by omega), and_low c hc]
  have e2 : IntKind.u64.wrap ((c % 128 : Nat) : Int) = ((c % 128 : Nat) : Int) := by rw [IntKind.wrap_u64]; omega
  have e3 : (2 : Nat) ^ (7 * k) = 128 ^ k := by rw [Nat.pow_mul]
  have hb : c % 128 * 128 ^ k < 18446744073709551616 := by
    rcases Nat.lt_or_ge k 9 with h | h
    · have h1 : (128 : Nat) ^ k ≤ 72057594037927936 := Nat.le_trans (Nat.pow_le_pow_right (by decide) (show k ≤ 8 by omega)) (by decide)
      exact Nat.lt_of_le_of_lt (Nat.mul_le_mul (show c % 128 ≤ 127 by omega) h1) (by decide)
    · have hk' : k = 9 := by omega
      subst hk'
      have h1 := h9 rfl
      exact Nat.lt_of_le_of_lt (Nat.mul_le_mul_right _ (show c % 128 ≤ 1 by omega)) (by decide)
  have hA : acc < 18446744073709551616 := Nat.lt_of_lt_of_le ha (Nat.le_trans (pow_le k hk) (by decide))
  rw [e1, e2, hP, e3]
  have e4 : IntKind.u64.wrap (((c % 128 : Nat) : Int) * ((128 ^ k : Nat) : Int)) = ((c % 128 * 128 ^ k : Nat) : Int) := by
    rw [← Int.natCast_mul, IntKind.wrap_u64]
    generalize c % 128 * 128 ^ k = x at hb
    omega
  rw [e4, u64_or_nat _ _ hA hb, join_bits k acc (c % 128) ha]

/-- what a group is worth -/
def p128 (k : Nat) : Nat := 128 ^ k

theorem sum_lt (acc c k : Nat) (ha : acc < 128 ^ k) (hk : k ≤ 9) (h9 : k = 9 → c ≤ 1) : acc + c % 128 * 128 ^ k < 18446744073709551616 := by
  rcases Nat.lt_or_ge k 9 with h | h
  · exact Nat.lt_of_lt_of_le (pow_next k acc (c % 128) ha (Nat.mod_lt _ (by decide))) (Nat.le_trans (pow_le (k + 1) (by omega)) (by decide))
  · have hk' : k = 9 := by omega
    subst hk'
    have h1 := h9 rfl
    have h2 : c % 128 * 128 ^ 9 ≤ 1 * 128 ^ 9 := Nat.mul_le_mul_right _ (by omega)
    have h3 : 128 ^ 9 = 9223372036854775808 := by decide
    rw [h3] at ha h2 ⊢
    omega

theorem acc_add (acc c k : Nat) (ha : acc < 128 ^ k) (hk : k ≤ 9) (h9 : k = 9 → c ≤ 1) :
    IntKind.u64.wrap ((acc : Int) + IntKind.u64.wrap ((c : Int) % 128 * (p128 k : Nat))) = ((acc + c % 128 * 128 ^ k : Nat) : Int) := by
  have hs := sum_lt acc c k ha hk h9
  have e1 : (c : Int) % 128 * (p128 k : Nat) = ((c % 128 * 128 ^ k : Nat) : Int) := by
    unfold p128
    rw [Int.natCast_mul]
    rfl
  rw [e1]
  generalize c % 128 * 128 ^ k = x at hs
  rw [IntKind.wrap_u64, IntKind.wrap_u64]
  omega

theorem worth_next (k : Nat) (hk : k < 9) : IntKind.u64.wrap ((p128 k : Nat) * 128) = (p128 (k + 1) : Nat) := by
  have h1 := pow_le (k + 1) (by omega)
  have e : (p128 (k + 1)) = p128 k * 128 := by unfold p128; rw [Nat.pow_succ]
  have h2 : p128 (k + 1) ≤ 9223372036854775808 := h1
  rw [e] at h2 ⊢
  rw [IntKind.wrap_u64]
  omega

theorem pow_int (k : Nat) : (2 : Int) ^ (7 * k) = ((2 ^ (7 * k) : Nat) : Int) := by simp

set_option maxRecDepth 100000 in
set_option maxHeartbeats 1000000 in
theorem uint_some (b off cap : Nat) (l : List UInt8) (w : World) (hl : l.length ≤ 140737488355328)
    (hcell : ∀ j (hj : j < l.length), w.cell? ⟨b, off + j, none⟩ = some (.int .u8 (l[j].toNat : Int))) :
    Calls Try.prog 125 #[.slice (some ⟨b, off, none⟩) l.length cap] w fun e w' => e = .returned (rdV l) ∧ w' = w := by
  have HC : Hid (_) := hcell
  clear hcell
  go_enter Try.func125, Try.ntmps125
  go_wp2
  go_loop [5, 10] (fun n i => ∃ k acc : Nat, k ≤ l.length ∧ k ≤ 9 ∧ i = .int .i64 k ∧ n = .int .u64 acc ∧ Hid (acc < 128 ^ k) ∧ Hid (rd l 0 0 = rd (l.drop k) k acc)) (fun _ i => l.length - (intOf i).toNat)
  case atStart => exact ⟨0, 0, by omega, by omega, rfl, rfl, Nat.one_pos, rfl⟩
  case round =>
    obtain ⟨k, acc, hk, hk9, rfl, rfl, HA, HR⟩ := hrel
    by_cases hlt : k < l.length
    · have hc := HC.out k hlt
      have HS : Hid (_) := HR.out.trans (rd_step l k acc hlt)
      have hu := UInt8.toNat_lt l[k]
      generalize l[k].toNat = c at hc HS hu
      by_cases h9 : k = 9
      · subst h9
        by_cases h1 : 1 < c
        · have HS' : Hid (rd l 0 0 = (0, 9, 11)) := by
            have h := HS.out
            rw [if_pos ⟨rfl, h1⟩] at h
            exact h
          go_wp2
          go_ret3
          refine ⟨?_, rfl⟩
          rw [rdV_eq _ _ _ _ HS'.out]
          rfl
        · by_cases h0 : c = 0
          · have HS' : Hid (rd l 0 0 = (0, 9, 10)) := by
              have h := HS.out
              rw [if_neg (by omega), if_pos (by omega)] at h
              exact h
            subst h0
            go_wp2
            go_ret3
            refine ⟨?_, rfl⟩
            rw [rdV_eq _ _ _ _ HS'.out]
            rfl
          · have hne : ((c : Int) == 0) = false := by simp; omega
            have hlo : c < 128 := by omega
            have HS' : Hid (rd l 0 0 = (acc + c % 128 * 128 ^ 9, 9 + 1, 0)) := by
              have h := HS.out
              rw [if_neg (by omega), if_neg (by omega), if_pos hlo] at h
              exact h
            go_wp2
            go_ret3
            refine ⟨?_, rfl⟩
            rw [rdV_eq _ _ _ _ HS'.out]
            exact ret3 (acc_or acc c 9 _ (by decide) HA.out (by omega) (by omega) (fun _ => by omega)) rfl rfl
      · have hk9' : ((k : Int) == 9) = false := by simp; omega
        by_cases h0 : c = 0 ∧ 0 < k
        · obtain ⟨h0, hp⟩ := h0
          have HS' : Hid (rd l 0 0 = (0, k, 10)) := by
            have h := HS.out
            rw [if_neg (by omega), if_pos (by omega)] at h
            exact h
          subst h0
          go_wp2
          go_ret3
          refine ⟨?_, rfl⟩
          rw [rdV_eq _ _ _ _ HS'.out]
          rfl
        · have HV : Hid (_) := acc_or acc c k _ (pow_int k) HA.out (by omega) hk9 (fun h => absurd h h9)
          by_cases hlo : c < 128
          · have HS' : Hid (rd l 0 0 = (acc + c % 128 * 128 ^ k, k + 1, 0)) := by
              have h := HS.out
              rw [if_neg (by omega), if_neg (by omega), if_pos hlo] at h
              exact h
            by_cases hp : 0 < k
            · have hne : ((c : Int) == 0) = false := by simp; omega
              clear h0
              go_wp2
              go_ret3
              refine ⟨?_, rfl⟩
              rw [rdV_eq _ _ _ _ HS'.out]
              exact ret3 HV.out (by omega) rfl
            · clear h0
              go_wp2
              go_ret3
              refine ⟨?_, rfl⟩
              rw [rdV_eq _ _ _ _ HS'.out]
              exact ret3 HV.out (by omega) rfl
          · have HS' : Hid (rd l 0 0 = rd (l.drop (k + 1)) (k + 1) (acc + c % 128 * 128 ^ k)) := by
              have h := HS.out
              rw [if_neg (by omega), if_neg (by omega), if_neg hlo] at h
              exact h
            have HB : Hid (_) := pow_next k acc (c % 128) HA.out (Nat.mod_lt _ (by decide))
            have hne : ((c : Int) == 0) = false := by simp; omega
            clear h0
            go_wp2
            all_goals
              go_round
              case rel => exact ⟨k + 1, acc + c % 128 * 128 ^ k, by omega, by omega, by go_num, congrArg _ HV.out, HB, HS'⟩
              case measure => simp [intOf]; omega
    · have e : k = l.length := by omega
      subst e
      go_wp2
      go_ret3
      refine ⟨?_, rfl⟩
      rw [rdV_eq l 0 l.length 3 (HR.out.trans (rd_end l acc))]
      rfl

set_option maxRecDepth 100000 in
set_option maxHeartbeats 400000 in
theorem uint_none (ao : Option Addr) (cap : Nat) (w : World) :
    Calls Try.prog 125 #[.slice ao 0 cap] w fun e w' => e = .returned (rdV []) ∧ w' = w := by
  go_enter Try.func125, Try.ntmps125
  go_wp2
  go_loop [10] (fun i => i = .int .i64 0) (fun _ => 0)
  case atStart => rfl
  case round =>
    subst hrel
    go_wp2
    go_ret3
    exact ⟨rfl, rfl⟩

theorem uint_any (v : Value) (l : List UInt8) (w : World) (hr : Reads w v l) (hl : l.length ≤ 140737488355328) :
    Calls Try.prog 125 #[v] w fun e w' => e = .returned (rdV l) ∧ w' = w := by
  rcases hr with ⟨rfl, ao, cap, rfl, _⟩ | ⟨b, off, cap, rfl, _, hcell⟩
  · exact uint_none ao cap w
  · exact uint_some b off cap l w hl hcell

set_option maxRecDepth 100000 in
set_option maxHeartbeats 400000 in
theorem refUint_none (ao : Option Addr) (cap : Nat) (w : World) :
    Calls Try.prog 89 #[.slice ao 0 cap] w fun e w' => e = .returned (rdV []) ∧ w' = w := by
  go_enter Try.func89, Try.ntmps89
  go_wp2
  go_loop [7] (fun i => i = .int .i64 0) (fun _ => 0)
  case atStart => rfl
  case round =>
    subst hrel
    go_wp2
    go_ret3
    exact ⟨rfl, rfl⟩

set_option maxRecDepth 100000 in
set_option maxHeartbeats 1000000 in
theorem refUint_some (b off cap : Nat) (l : List UInt8) (w : World) (hl : l.length ≤ 140737488355328)
    (hcell : ∀ j (hj : j < l.length), w.cell? ⟨b, off + j, none⟩ = some (.int .u8 (l[j].toNat : Int))) :
    Calls Try.prog 89 #[.slice (some ⟨b, off, none⟩) l.length cap] w fun e w' => e = .returned (rdV l) ∧ w' = w := by
  have HC : Hid (_) := hcell
  clear hcell
  go_enter Try.func89, Try.ntmps89
  go_wp2
  go_loop [5, 6, 7] (fun n p i => ∃ k acc : Nat, k ≤ l.length ∧ k ≤ 9 ∧ i = .int .i64 k ∧ n = .int .u64 acc ∧ p = .int .u64 (p128 k) ∧ Hid (acc < 128 ^ k) ∧ Hid (rd l 0 0 = rd (l.drop k) k acc)) (fun _ _ i => l.length - (intOf i).toNat)
  case atStart => exact ⟨0, 0, by omega, by omega, rfl, rfl, rfl, Nat.one_pos, rfl⟩
  case round =>
    obtain ⟨k, acc, hk, hk9, rfl, rfl, rfl, HA, HR⟩ := hrel
    by_cases hlt : k < l.length
    · have hc := HC.out k hlt
      have HS : Hid (_) := HR.out.trans (rd_step l k acc hlt)
      have hu := UInt8.toNat_lt l[k]
      generalize l[k].toNat = c at hc HS hu
      by_cases h9 : k = 9
      · subst h9
        by_cases h1 : 1 < c
        · have HS' : Hid (rd l 0 0 = (0, 9, 11)) := by
            have h := HS.out
            rw [if_pos ⟨rfl, h1⟩] at h
            exact h
          go_wp2
          go_ret3
          refine ⟨?_, rfl⟩
          rw [rdV_eq _ _ _ _ HS'.out]
          rfl
        · by_cases h0 : c = 0
          · have HS' : Hid (rd l 0 0 = (0, 9, 10)) := by
              have h := HS.out
              rw [if_neg (by omega), if_pos (by omega)] at h
              exact h
            subst h0
            go_wp2
            go_ret3
            refine ⟨?_, rfl⟩
            rw [rdV_eq _ _ _ _ HS'.out]
            rfl
          · have hne : ((c : Int) == 0) = false := by simp; omega
            have hlo : c < 128 := by omega
            have HS' : Hid (rd l 0 0 = (acc + c % 128 * 128 ^ 9, 9 + 1, 0)) := by
              have h := HS.out
              rw [if_neg (by omega), if_neg (by omega), if_pos hlo] at h
              exact h
            go_wp2
            go_ret3
            refine ⟨?_, rfl⟩
            rw [rdV_eq _ _ _ _ HS'.out]
            exact ret3 (acc_add acc c 9 HA.out (by omega) (fun _ => by omega)) rfl rfl
      · have hk9' : ((k : Int) == 9) = false := by simp; omega
        by_cases h0 : c = 0 ∧ 0 < k
        · obtain ⟨h0, hp⟩ := h0
          have HS' : Hid (rd l 0 0 = (0, k, 10)) := by
            have h := HS.out
            rw [if_neg (by omega), if_pos (by omega)] at h
            exact h
          subst h0
          go_wp2
          go_ret3
          refine ⟨?_, rfl⟩
          rw [rdV_eq _ _ _ _ HS'.out]
          rfl
        · by_cases hlo : c < 128
          · have HS' : Hid (rd l 0 0 = (acc + c % 128 * 128 ^ k, k + 1, 0)) := by
              have h := HS.out
              rw [if_neg (by omega), if_neg (by omega), if_pos hlo] at h
              exact h
            by_cases hp : 0 < k
            · have hne : ((c : Int) == 0) = false := by simp; omega
              clear h0
              go_wp2
              go_ret3
              refine ⟨?_, rfl⟩
              rw [rdV_eq _ _ _ _ HS'.out]
              exact ret3 (acc_add acc c k HA.out hk9 (fun h => absurd h h9)) (by omega) rfl
            · clear h0
              go_wp2
              go_ret3
              refine ⟨?_, rfl⟩
              rw [rdV_eq _ _ _ _ HS'.out]
              exact ret3 (acc_add acc c k HA.out hk9 (fun h => absurd h h9)) (by omega) rfl
          · have HS' : Hid (rd l 0 0 = rd (l.drop (k + 1)) (k + 1) (acc + c % 128 * 128 ^ k)) := by
              have h := HS.out
              rw [if_neg (by omega), if_neg (by omega), if_neg hlo] at h
              exact h
            have HB : Hid (_) := pow_next k acc (c % 128) HA.out (Nat.mod_lt _ (by decide))
            have hne : ((c : Int) == 0) = false := by simp; omega
            clear h0
            go_wp2
            all_goals
              go_round
              case rel =>
                exact ⟨k + 1, acc + c % 128 * 128 ^ k, by omega, by omega, by go_num, congrArg _ (acc_add acc c k HA.out hk9 (fun h => absurd h h9)), congrArg _ (worth_next k (by omega)), HB, HS'⟩
              case measure => simp [intOf]; omega
    · have e : k = l.length := by omega
      subst e
      go_wp2
      go_ret3
      refine ⟨?_, rfl⟩
      rw [rdV_eq l 0 l.length 3 (HR.out.trans (rd_end l acc))]
      rfl

theorem refUint_any (v : Value) (l : List UInt8) (w : World) (hr : Reads w v l) (hl : l.length ≤ 140737488355328) :
    Calls Try.prog 89 #[v] w fun e w' => e = .returned (rdV l) ∧ w' = w := by
  rcases hr with ⟨rfl, ao, cap, rfl, _⟩ | ⟨b, off, cap, rfl, _, hcell⟩
  · exact refUint_none ao cap w
  · exact refUint_some b off cap l w hl hcell

end Go.Proofs.Ytfhicemfhkhjaab
