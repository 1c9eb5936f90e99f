/-
  How far a text stands as a shape begins: reach, and the document's agrees.
-/
import Derived.Test.YtjpglgemnaknhaaGreatDoorCfn
namespace Go.Proofs.YtjpglgemnaknhaaGreatDoor
open Go.RowKit
set_option maxRecDepth 100000

/-- is it a digit? -/
def isDB (c : UInt8) : Bool := decide (48 ≤ c.toNat) && decide (c.toNat ≤ 57)
/-- may the byte stand where the shape has s? -/
def fitB (c s : UInt8) : Bool := if s = 100 then isDB c else c == s
/-- how many bytes fit -/
def rl : List UInt8 → List UInt8 → Nat
  | c :: t, s :: u => if fitB c s then rl t u + 1 else 0
  | _, _ => 0

theorem rl_at (t s : List UInt8) (k : Nat) (h1 : k ≤ t.length) (h2 : k ≤ s.length) (h : ∀ j (_ : j < k) (a : j < t.length) (b : j < s.length), fitB t[j] s[j] = true)
    (hn : k = t.length ∨ k = s.length ∨ ∃ (a : k < t.length) (b : k < s.length), fitB t[k] s[k] = false) : rl t s = k := by
  induction k generalizing t s with
  | zero =>
    rcases hn with hn | hn | ⟨a, b, hn⟩
    · match t, hn with
      | [], _ => unfold rl; rfl
    · match s, hn with
      | [], _ => cases t <;> rfl
    · match t, s, a, b, hn with
      | c :: t, x :: s, _, _, hn =>
        have hn' : fitB c x = false := hn
        unfold rl
        rw [hn']
        rfl
  | succ k ih =>
    match t, s, h1, h2, h, hn with
    | c :: t, x :: s, h1, h2, h, hn =>
      have h0 : fitB c x = true := h 0 (by omega) (by simp) (by simp)
      unfold rl
      rw [h0, if_pos rfl, ih t s (by simpa using h1) (by simpa using h2) (fun j hj a b => by
        have := h (j + 1) (by omega) (by simpa using a) (by simpa using b)
        simpa using this) ?_]
      rcases hn with hn | hn | ⟨a, b, hn⟩
      · exact .inl (by simpa using hn)
      · exact .inr (.inl (by simpa using hn))
      · exact .inr (.inr ⟨by simpa using a, by simpa using b, by simpa using hn⟩)

theorem isDigit_any (c : UInt8) (w : World) :
    Calls Tryz.prog 71 #[.int .u8 (c.toNat : Int)] w fun e w' => e = .returned (.bool (isDB c)) ∧ w' = w := by
  unfold isDB
  by_cases h1 : 48 ≤ c.toNat <;> by_cases h2 : c.toNat ≤ 57
  all_goals
    have h3 : (c.toNat : Int) ≤ 57 ↔ c.toNat ≤ 57 := by omega
    go_enter Tryz.func71, Tryz.ntmps71
    go_wp2
    all_goals go_ret
    all_goals exact ⟨ret_bool (by simp [h1, h2]), rfl⟩

theorem byte_at (s : ByteArray) (k : Nat) (h : k < s.size) : s.data.toList[k]'(by rw [Array.length_toList]; exact h) = s[k] := by
  rw [Array.getElem_toList]; rfl

set_option maxHeartbeats 1000000 in
theorem reach_any (t s : ByteArray) (ht : t.size ≤ 1000) (hs : s.size ≤ 1000) (w : World) :
    Calls Tryz.prog 36 #[.string t, .string s] w fun e w' => e = .returned (.int .i64 (rl t.data.toList s.data.toList : Nat)) ∧ ∃ n, w' = w.drewN n := by
  have lt : t.data.toList.length = t.size := Array.length_toList
  have ls : s.data.toList.length = s.size := Array.length_toList
  have HD := hid (fun c w => isDigit_any c w)
  have LT := hid lt
  have LS := hid ls
  clear lt ls
  go_enter Tryz.func36, Tryz.ntmps36
  go_wp2_with fail
  go_loopw [5] (fun n wr => ∃ k : Nat, n = .int .i64 (k : Int) ∧ k ≤ t.size ∧ k ≤ s.size ∧ (∀ j (_ : j < k) (a : j < t.data.toList.length) (b : j < s.data.toList.length), fitB (t.data.toList[j]) (s.data.toList[j]) = true) ∧ ∃ q, wr = w.drewN q) (fun n _ => t.size - (intOf n).toNat)
  case atStart => exact ⟨0, rfl, by omega, by omega, fun j hj => by omega, 0, rfl⟩
  case round =>
    obtain ⟨k, rfl, hkt, hks, hall, hdr⟩ := hrel
    have HA := hid hall
    have HDR := hid hdr
    have HDN : Hid (∀ m, ∃ n, wr.drewN m = w.drewN n) := fun m => by obtain ⟨q, hq⟩ := HDR.out; exact ⟨q + m, by rw [hq, World.drewN_drewN]⟩
    clear hall hdr
    by_cases h1 : k < t.size
    · by_cases h2 : k < s.size
      · have i1 : (k : Int) < (t.size : Int) := by omega
        have i2 : (k : Int) < (s.size : Int) := by omega
        have bt := byte_at t k h1
        have bs := byte_at s k h2
        have HF : Hid (fitB (t.data.toList[k]'(by rw [LT.out]; exact h1)) (s.data.toList[k]'(by rw [LS.out]; exact h2)) = fitB t[k] s[k]) := by rw [bt, bs]; exact rfl
        clear bt bs
        have HG := hid (HD.out t[k])
        by_cases hd : s[k] = 100
        · have hx : (s[k]'h2).toNat = 100 := by rw [hd]; rfl
          by_cases hg : isDB t[k] = true
          · rw [hg] at HG
            have HOK := hid (show fitB t[k] s[k] = true by unfold fitB; rw [if_pos hd]; exact hg)
            clear hd hg
            go_wp2_with fail
            go_quiet (first
              | (go_at_call 71; exact Calls.quiet_of_same (HG.out _)))
            go_wp2
            go_roundw
            case rel =>
              refine ⟨k + 1, by go_num, by omega, by omega, fun j hj a b => ?_, HDN.out _⟩
              by_cases e : j = k
              · subst e; rw [HF.out]; exact HOK.out
              · exact HA.out j (by omega) a b
            case measure => simp [intOf]; omega
          · have hg' : isDB t[k] = false := by simpa using hg
            rw [hg'] at HG
            have HNO := hid (show fitB t[k] s[k] = false by unfold fitB; rw [if_pos hd]; exact hg')
            clear hd hg hg'
            go_wp2_with fail
            go_quiet (first
              | (go_at_call 71; exact Calls.quiet_of_same (HG.out _)))
            go_wp2
            go_ret
            exact ⟨ret_int (by rw [rl_at _ _ k (by rw [LT.out]; omega) (by rw [LS.out]; omega) HA.out (.inr (.inr ⟨by rw [LT.out]; exact h1, by rw [LS.out]; exact h2, by rw [HF.out]; exact HNO.out⟩))]), HDN.out _⟩
        · have hx : ((s[k]'h2).toNat == 100) = false := by
            rw [beq_eq_false_iff_ne]; intro e; exact hd (UInt8.toNat_inj.mp e)
          have hxi : (((s[k]'h2).toNat : Int) == 100) = false := by
            rw [beq_eq_false_iff_ne]; intro e; exact hd (UInt8.toNat_inj.mp (by show (s[k]'h2).toNat = 100; omega))
          have hxn : (((s[k]'h2).toNat : Int) != 100) = true := by unfold bne; rw [hxi]; rfl
          by_cases hg : t[k] = s[k]
          · have HOK := hid (show fitB t[k] s[k] = true by unfold fitB; rw [if_neg hd, hg]; simp)
            have hen : (((s[k]'h2).toNat : Int) != ((t[k]'h1).toNat : Int)) = false := by rw [hg]; simp
            clear hd hg
            go_wp2_with fail
            go_quiet (fail)
            go_wp2
            go_roundw
            case rel =>
              refine ⟨k + 1, by go_num, by omega, by omega, fun j hj a b => ?_, HDN.out _⟩
              by_cases e : j = k
              · subst e; rw [HF.out]; exact HOK.out
              · exact HA.out j (by omega) a b
            case measure => simp [intOf]; omega
          · have HNO := hid (show fitB t[k] s[k] = false by unfold fitB; rw [if_neg hd]; exact beq_eq_false_iff_ne.2 hg)
            have he : ((s[k]'h2).toNat == (t[k]'h1).toNat) = false := by
              rw [beq_eq_false_iff_ne]; intro e; exact hg (UInt8.toNat_inj.mp e.symm)
            have hei : (((s[k]'h2).toNat : Int) == ((t[k]'h1).toNat : Int)) = false := by
              rw [beq_eq_false_iff_ne]; intro e; exact hg (UInt8.toNat_inj.mp (by omega))
            have hen : (((s[k]'h2).toNat : Int) != ((t[k]'h1).toNat : Int)) = true := by unfold bne; rw [hei]; rfl
            clear hd hg
            go_wp2_with fail
            go_quiet (fail)
            go_wp2
            go_ret
            exact ⟨ret_int (by rw [rl_at _ _ k (by rw [LT.out]; omega) (by rw [LS.out]; omega) HA.out (.inr (.inr ⟨by rw [LT.out]; exact h1, by rw [LS.out]; exact h2, by rw [HF.out]; exact HNO.out⟩))]), HDN.out _⟩
      · have hk : k = s.size := by omega
        go_wp2
        go_ret
        exact ⟨ret_int (by have e := rl_at _ _ k (by rw [LT.out]; omega) (by rw [LS.out]; omega) HA.out (.inr (.inl (by rw [LS.out]; exact hk))); omega), HDR.out⟩
    · have hk : k = t.size := by omega
      go_wp2
      go_ret
      exact ⟨ret_int (by have e := rl_at _ _ k (by rw [LT.out]; omega) (by rw [LS.out]; omega) HA.out (.inl (by rw [LT.out]; exact hk)); omega), HDR.out⟩
end Go.Proofs.YtjpglgemnaknhaaGreatDoor
