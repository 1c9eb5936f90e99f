/-
  Numbers out of digits.
-/
import Derived.Test.YtpplkoilpblpkaaDoorFaultsD
namespace Go.Proofs.YtpplkoilpblpkaaDoor
open Go.RowKit
set_option maxRecDepth 100000

def nm (l : List UInt8) : Nat := l.foldl (fun n c => n * 10 + dv c) 0

theorem nm_snoc (l : List UInt8) (c : UInt8) : nm (l ++ [c]) = nm l * 10 + dv c := by simp [nm]
theorem dv_le (c : UInt8) : dv c ≤ 255 := by unfold dv; omega

theorem nm_take_succ (l : List UInt8) (k : Nat) (h : k < l.length) : nm (l.take (k + 1)) = nm (l.take k) * 10 + dv l[k] := by
  rw [List.take_succ_eq_append_getElem h, nm_snoc]

theorem nm_bound (l : List UInt8) (k : Nat) : k ≤ l.length → nm (l.take k) + 29 ≤ 29 * 10 ^ k := by
  induction k with
  | zero => intro _; exact Nat.le_refl _
  | succ k ih =>
    intro h
    rw [nm_take_succ l k (by omega), Nat.pow_succ]
    have h1 := ih (by omega)
    have h2 := dv_le (l[k]'(by omega))
    omega

theorem nm_small (l : List UInt8) (k : Nat) (h : k ≤ l.length) (hk : k ≤ 15) : nm (l.take k) ≤ 29000000000000000 := by
  have h1 := nm_bound l k h
  have h2 : 10 ^ k ≤ 10 ^ 15 := Nat.pow_le_pow_right (by omega) hk
  have h3 : (10 : Nat) ^ 15 = 1000000000000000 := by decide
  omega

set_option maxHeartbeats 800000 in
theorem number_any (s : ByteArray) (w : World) (hs : s.size ≤ 15) :
    Calls Tryd.prog 56 #[.string s] w fun e w' => e = .returned (.int .i64 (nm s.data.toList : Nat)) ∧ w' = w := by
  have hl := len_list s
  go_enter Tryd.func56, Tryd.ntmps56
  go_wp2
  go_loop [3, 7] (fun t i => ∃ k : Nat, k ≤ s.size ∧ t = .int .i64 (nm (s.data.toList.take k) : Nat) ∧ i = .int .i64 (k : Nat)) (fun _ i => s.size - (intOf i).toNat)
  case atStart => exact ⟨0, by omega, rfl, rfl⟩
  case round =>
    obtain ⟨k, hk, rfl, rfl⟩ := hrel
    by_cases hlt : k < s.size
    · have hb := nm_small s.data.toList k (by omega) (by omega)
      have hx := nm_take_succ s.data.toList k (by omega)
      rw [byte_list s k hlt] at hx
      unfold dv at hx
      have HX : Hid (_) := hx
      clear hx
      generalize nm (s.data.toList.take k) = n at hb HX
      go_wp2
      go_round
      case rel => exact ⟨k + 1, by omega, int_eq (by rw [HX.out]; omega), by go_num⟩
      case measure => simp [intOf]; omega
    · have hkk : k = s.size := by omega
      subst hkk
      have ht : s.data.toList.take s.size = s.data.toList := by rw [← hl, List.take_length]
      rw [ht]
      go_wp2
      go_ret
      exact ⟨rfl, rfl⟩

theorem byF_zero (l : List UInt8) : byF dF l = 0 ↔ AllD l := by
  constructor
  · intro h c hc
    induction l with
    | nil => cases hc
    | cons x t ih =>
      unfold byF at h
      by_cases hx : dF x = 0
      · rw [if_pos hx] at h
        rcases List.mem_cons.1 hc with rfl | hc
        · unfold dF at hx
          cases hb : isDB c with
          | true => exact (isDB_iff c).1 hb
          | false => rw [hb] at hx; cases hx
        · exact ih h hc
      · rw [if_neg hx] at h; exact absurd h hx
  · intro h
    exact byF_none fun c hc => by unfold dF; rw [(isDB_iff c).2 (h c hc)]; rfl

theorem fltE_zero {least most : Nat} {l : List UInt8} : fltE least most dF 0 l = 0 ↔ least ≤ l.length ∧ l.length ≤ most ∧ AllD l := by
  unfold fltE
  constructor
  · intro h
    split at h
    · cases h
    · split at h
      · cases h
      · split at h
        · next h3 => exact absurd h h3
        · next h1 h2 h3 => exact ⟨by omega, by omega, (byF_zero l).1 (Decidable.not_not.1 h3)⟩
  · rintro ⟨h1, h2, h3⟩
    rw [if_neg (by omega), if_neg (by omega), if_neg (by rw [(byF_zero l).2 h3]; simp)]
end Go.Proofs.YtpplkoilpblpkaaDoor
