/-
  The sums: the contracts of both sides.
-/
import Derived.Test.YtpplkoilpblpkaaDoorRows
import Derived.Test.YtpplkoilpblpkaaDoorCodes
import Derived.WalkKit
import Derived.ProofKit
import Derived.OpenShut
namespace Go.Proofs.YtpplkoilpblpkaaDoor
open Go.RowKit
set_option maxRecDepth 100000

theorem wsum_le (f : Nat → Nat) (n : Nat) (h : ∀ i, f i ≤ 255) : wsum f n ≤ 765 * n := by
  induction n with
  | zero => exact Nat.le_refl _
  | succ n ih =>
    unfold wsum
    have := h n
    split <;> omega

theorem dg_le (l : List UInt8) (i : Nat) : dg l i ≤ 255 := by
  unfold dg
  cases l.reverse[i]? with
  | none => exact Nat.zero_le _
  | some c => show dv c ≤ 255; unfold dv; omega

theorem dg_byte (s : ByteArray) (i : Nat) (h : i < s.size) : dg s.data.toList i = ((s[s.size - 1 - i]'(by omega)).toNat + 208) % 256 := by
  rw [dg_at _ _ (by rw [Array.length_toList]; exact h)]
  simp only [Array.length_toList, Array.getElem_toList]
  rfl

theorem ret_int {k : IntKind} {a b : Int} (h : a = b) : Ending.returned (.int k a) = .returned (.int k b) := by rw [h]
theorem ret_bool {a b : Bool} (h : a = b) : Ending.returned (.bool a) = .returned (.bool b) := by rw [h]
theorem int_eq {k : IntKind} {a b : Int} (h : a = b) : Value.int k a = .int k b := by rw [h]

set_option maxHeartbeats 400000 in
theorem sum_any (s : ByteArray) (w : World) (hs : s.size ≤ 100) :
    Calls Tryd.prog 54 #[.string s] w fun e w' => e = .returned (.int .i64 (sm s.data.toList : Nat)) ∧ w' = w := by
  go_enter Tryd.func54, Tryd.ntmps54
  go_wp2
  go_loop [3, 8] (fun t i => ∃ k : Nat, k ≤ s.size ∧ t = .int .i64 (wsum (dg s.data.toList) k : Nat) ∧ i = .int .i64 (k : Nat)) (fun _ i => s.size - (intOf i).toNat)
  case atStart => exact ⟨0, by omega, rfl, rfl⟩
  case round =>
    obtain ⟨k, hk, rfl, rfl⟩ := hrel
    by_cases hlt : k < s.size
    · have hd := dg_byte s k hlt
      have hw := wsum_le (dg s.data.toList) k (dg_le _)
      have hl := dg_le s.data.toList k
      have hx : wsum (dg s.data.toList) (k + 1) = wsum (dg s.data.toList) k + (if k % 2 = 1 then 3 * dg s.data.toList k else dg s.data.toList k) := rfl
      by_cases ho : k % 2 = 1
      · have hoI : ((k : Int) % 2 == 1) = true := by simp; omega
        rw [if_pos ho] at hx
        go_wp2
        go_round
        case rel => exact ⟨k + 1, by omega, int_eq (by omega), by go_num⟩
        case measure => simp [intOf]; omega
      · have hoI : ((k : Int) % 2 == 1) = false := by simp; omega
        rw [if_neg ho] at hx
        go_wp2
        go_round
        case rel => exact ⟨k + 1, by omega, int_eq (by omega), by go_num⟩
        case measure => simp [intOf]; omega
    · have hkk : k = s.size := by omega
      subst hkk
      go_wp2
      go_ret
      exact ⟨rfl, rfl⟩

/-- is it a digit? -/
def isDB (c : UInt8) : Bool := decide (48 ≤ c.toNat) && decide (c.toNat ≤ 57)
theorem isDB_iff (c : UInt8) : isDB c = true ↔ IsD c := by simp [isDB, IsD]

theorem isDigit_any (c : UInt8) (w : World) :
    Calls Tryd.prog 53 #[.int .u8 (c.toNat : Int)] w fun e w' => e = .returned (.bool (isDB c)) ∧ w' = w := by
  unfold isDB
  by_cases h1 : 48 ≤ c.toNat <;> by_cases h2 : c.toNat ≤ 57
  all_goals
    have h3 : (c.toNat : Int) ≤ 57 ↔ c.toNat ≤ 57 := by omega
    go_enter Tryd.func53, Tryd.ntmps53
    go_wp2
    all_goals go_ret
    all_goals exact ⟨ret_bool (by simp [h1, h2]), rfl⟩

/-- the place of the first byte that is no digit -/
def foN : List UInt8 → Nat → Int
  | [], _ => -1
  | c :: t, k => if isDB c then foN t (k + 1) else (k : Int)
def fo (l : List UInt8) : Int := foN l 0

theorem foN_none (l : List UInt8) (k : Nat) (h : ∀ c ∈ l, isDB c = true) : foN l k = -1 := by
  induction l generalizing k with
  | nil => rfl
  | cons c t ih => unfold foN; rw [if_pos (h c (by simp)), ih _ (fun x hx => h x (by simp [hx]))]
theorem foN_some (l : List UInt8) (k j : Nat) (hj : j < l.length) (h : ∀ i (hi : i < j), isDB (l[i]'(by omega)) = true) (hn : isDB l[j] = false) : foN l k = ((k + j : Nat) : Int) := by
  induction l generalizing k j with
  | nil => simp at hj
  | cons c t ih =>
    unfold foN
    cases j with
    | zero => rw [if_neg (by simpa using hn)]; rfl
    | succ j =>
      rw [if_pos (by have := h 0 (by omega); simpa using this), ih (k + 1) j (by simpa using hj) (fun i hi => by have := h (i + 1) (by omega); simpa using this) (by simpa using hn)]
      congr 1
      omega
theorem fo_none {l : List UInt8} (h : ∀ c ∈ l, isDB c = true) : fo l = -1 := foN_none l 0 h
theorem fo_some {l : List UInt8} {j : Nat} (hj : j < l.length) (h : ∀ i (hi : i < j), isDB (l[i]'(by omega)) = true) (hn : isDB l[j] = false) : fo l = (j : Int) := by
  have := foN_some l 0 j hj h hn
  simpa [fo] using this

theorem foN_cases (l : List UInt8) (k : Nat) : ((∀ c ∈ l, isDB c = true) ∧ foN l k = -1) ∨ ∃ (j : Nat) (hj : j < l.length), isDB l[j] = false ∧ foN l k = ((k + j : Nat) : Int) := by
  induction l generalizing k with
  | nil => exact .inl ⟨by simp, rfl⟩
  | cons c t ih =>
    unfold foN
    cases hc : isDB c with
    | false => exact .inr ⟨0, by simp, by simpa using hc, by simp⟩
    | true =>
      rcases ih (k + 1) with ⟨a, b⟩ | ⟨j, hj, a, b⟩
      · exact .inl ⟨by intro x hx; rcases List.mem_cons.1 hx with rfl | hx; exact hc; exact a x hx, by simpa using b⟩
      · refine .inr ⟨j + 1, by simpa using hj, by simpa using a, ?_⟩
        rw [if_pos rfl, b]
        congr 1
        omega

theorem fo_cases (l : List UInt8) : (AllD l ∧ fo l = -1) ∨ ∃ j : Nat, j < l.length ∧ ¬ AllD l ∧ fo l = (j : Int) := by
  rcases foN_cases l 0 with ⟨a, b⟩ | ⟨j, hj, a, b⟩
  · exact .inl ⟨fun c hc => (isDB_iff c).1 (a c hc), b⟩
  · refine .inr ⟨j, hj, fun h => ?_, by simpa [fo] using b⟩
    rw [(isDB_iff _).2 (h _ (List.getElem_mem hj))] at a
    cases a

theorem byte_list (s : ByteArray) (k : Nat) (h : k < s.size) : s.data.toList[k]'(by rw [Array.length_toList]; exact h) = s[k]'h := by
  simp only [Array.getElem_toList]
  rfl
theorem len_list (s : ByteArray) : s.data.toList.length = s.size := by rw [Array.length_toList]; rfl

set_option maxHeartbeats 400000 in
theorem firstOther_any (s : ByteArray) (w : World) (hs : s.size ≤ 9223372036854775807) :
    Calls Tryd.prog 41 #[.string s] w fun e w' => e = .returned (.int .i64 (fo s.data.toList)) ∧ w' = w := by
  have HS : Hid (_) := hs
  clear hs
  go_enter Tryd.func41, Tryd.ntmps41
  go_wp2
  go_loop [6] (fun i => ∃ k : Nat, k ≤ s.size ∧ i = .int .i64 (k : Nat) ∧ ∀ j (hj : j < k) (hl : k ≤ s.size), isDB (s[j]'(by omega)) = true) (fun i => s.size - (intOf i).toNat)
  case atStart => exact ⟨0, by omega, rfl, fun j hj => by omega⟩
  case round =>
    obtain ⟨k, hk, rfl, hall⟩ := hrel
    have HA : Hid (_) := hall
    clear hall
    by_cases hlt : k < s.size
    · have hs := HS.out
      cases hb : isDB (s[k]'hlt) with
      | true =>
        go_wp2_with (go_at_call 53; refine (isDigit_any _ _).mono ?_; rintro e w' ⟨rfl, rfl⟩)
        go_round
        case rel =>
          refine ⟨k + 1, by omega, by go_num, fun j hj hl => ?_⟩
          by_cases e : j = k
          · subst e; exact hb
          · exact HA.out j (by omega) (by omega)
        case measure => simp [intOf]; omega
      | false =>
        go_wp2_with (go_at_call 53; refine (isDigit_any _ _).mono ?_; rintro e w' ⟨rfl, rfl⟩)
        go_ret
        refine ⟨ret_int ?_, rfl⟩
        rw [fo_some (j := k) (by rw [len_list]; exact hlt) (fun i hi => by rw [byte_list s i (by omega)]; exact HA.out i hi hk) (by rw [byte_list s k hlt]; exact hb)]
    · go_wp2
      go_ret
      refine ⟨ret_int ?_, rfl⟩
      refine (fo_none fun c hc => ?_).symm
      obtain ⟨i, hi, rfl⟩ := List.mem_iff_getElem.1 hc
      rw [len_list] at hi
      rw [byte_list s i hi]
      exact HA.out i (by omega) hk

theorem sumHolds_any (s : ByteArray) (w : World) (hs : s.size ≤ 100) :
    Calls Tryd.prog 55 #[.string s] w fun e w' => e = .returned (.bool (decide (sm s.data.toList % 10 = 0))) ∧ w' = w := by
  go_enter Tryd.func55, Tryd.ntmps55
  go_wp2_with (go_at_call 54; refine (sum_any _ _ hs).mono ?_; rintro e w' ⟨rfl, rfl⟩)
  go_ret
  exact ⟨ret_bool (by rw [Bool.eq_iff_iff]; simp; omega), rfl⟩

theorem checkDigit_any (s : ByteArray) (w : World) (hs : s.size ≤ 99) :
    Calls Tryd.prog 42 #[.string s] w fun e w' => e = .returned (.int .u8 ((ck s.data.toList).toNat : Int)) ∧ w' = w := by
  go_enter Tryd.func42, Tryd.ntmps42
  have hz : (s ++ (⟨#[48]⟩ : ByteArray)).size = s.size + 1 := by simp [ByteArray.size_append]; rfl
  have hd : (s ++ (⟨#[48]⟩ : ByteArray)).data.toList = s.data.toList ++ [48] := by simp
  have hk := ck_toNat s.data.toList
  unfold ckN at hk
  go_wp2_with fail
  refine (sum_any _ _ (by omega)).mono ?_
  rintro e w' ⟨rfl, rfl⟩
  rw [hd]
  clear hd hz
  go_wp2
  go_ret
  exact ⟨ret_int (by rw [hk]; omega), rfl⟩
end Go.Proofs.YtpplkoilpblpkaaDoor
