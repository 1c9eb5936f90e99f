/-
  How far a text stands as a shape begins: reach, and the document's agrees.
-/
import Derived.Test.YtcmllfipaiacfaaGreatDoorReach
namespace Go.Proofs.YtcmllfipaiacfaaGreatDoor
open Go.RowKit
set_option maxRecDepth 100000

set_option maxHeartbeats 1000000 in
theorem agrees_any (t s : ByteArray) (ht : t.size ≤ 1000) (hs : s.size ≤ 1000) (w : World) :
    Calls Tryz.prog 63 #[.string t, .string s] w fun e w' => e = .returned (.int .i64 (rl t.data.toList s.data.toList : Nat)) ∧ ∃ n, w' = w.drewN n := by
  have lt : t.data.toList.length = t.size := Array.length_toList
  have ls : s.data.toList.length = s.size := Array.length_toList
  have HD := hid (fun c w => refDigit_any c w)
  have LT := hid lt
  have LS := hid ls
  clear lt ls
  go_enter Tryz.func63, Tryz.ntmps63
  go_wp2_with fail
  go_loopw [5] (fun n wr => ∃ k : Nat, n = .int .i64 (k : Int) ∧ k ≤ t.size ∧ k ≤ s.size ∧ (∀ j (_ : j < k) (a : j < t.data.toList.length) (b : j < s.data.toList.length), fitB (t.data.toList[j]) (s.data.toList[j]) = true) ∧ ∃ q, wr = w.drewN q) (fun n _ => t.size - (intOf n).toNat)
  case atStart => exact ⟨0, rfl, by omega, by omega, fun j hj => by omega, 0, rfl⟩
  case round =>
    obtain ⟨k, rfl, hkt, hks, hall, hdr⟩ := hrel
    have HA := hid hall
    have HDR := hid hdr
    have HDN : Hid (∀ m, ∃ n, wr.drewN m = w.drewN n) := fun m => by obtain ⟨q, hq⟩ := HDR.out; exact ⟨q + m, by rw [hq, World.drewN_drewN]⟩
    clear hall hdr
    by_cases h1 : k < t.size
    · by_cases h2 : k < s.size
      · have i1 : (k : Int) < (t.size : Int) := by omega
        have i2 : (k : Int) < (s.size : Int) := by omega
        have bt := byte_at t k h1
        have bs := byte_at s k h2
        have HF : Hid (fitB (t.data.toList[k]'(by rw [LT.out]; exact h1)) (s.data.toList[k]'(by rw [LS.out]; exact h2)) = fitB t[k] s[k]) := by rw [bt, bs]; exact rfl
        clear bt bs
        have HG := hid (HD.out t[k])
        by_cases hd : s[k] = 100
        · have hx : (s[k]'h2).toNat = 100 := by rw [hd]; rfl
          by_cases hg : isDB t[k] = true
          · rw [hg] at HG
            have HOK := hid (show fitB t[k] s[k] = true by unfold fitB; rw [if_pos hd]; exact hg)
            clear hd hg
            go_wp2_with fail
            refine (HG.out _).mono ?_
            rintro e w' ⟨rfl, rfl⟩
            go_wp2_with fail
            go_quiet (fail)
            go_wp2
            go_roundw
            case rel =>
              refine ⟨k + 1, by go_num, by omega, by omega, fun j hj a b => ?_, HDN.out _⟩
              by_cases e : j = k
              · subst e; rw [HF.out]; exact HOK.out
              · exact HA.out j (by omega) a b
            case measure => simp [intOf]; omega
          · have hg' : isDB t[k] = false := by simpa using hg
            rw [hg'] at HG
            have HNO := hid (show fitB t[k] s[k] = false by unfold fitB; rw [if_pos hd]; exact hg')
            clear hd hg hg'
            go_wp2_with fail
            refine (HG.out _).mono ?_
            rintro e w' ⟨rfl, rfl⟩
            go_wp2_with fail
            go_quiet (fail)
            go_wp2
            go_ret
            exact ⟨ret_int (by rw [rl_at _ _ k (by rw [LT.out]; omega) (by rw [LS.out]; omega) HA.out (.inr (.inr ⟨by rw [LT.out]; exact h1, by rw [LS.out]; exact h2, by rw [HF.out]; exact HNO.out⟩))]), HDN.out _⟩
        · generalize isDB (t[k]'h1) = bd at HG
          have hx : ((s[k]'h2).toNat == 100) = false := by
            rw [beq_eq_false_iff_ne]; intro e; exact hd (UInt8.toNat_inj.mp e)
          have hxi : (((s[k]'h2).toNat : Int) == 100) = false := by
            rw [beq_eq_false_iff_ne]; intro e; exact hd (UInt8.toNat_inj.mp (by show (s[k]'h2).toNat = 100; omega))
          have hxn : (((s[k]'h2).toNat : Int) != 100) = true := by unfold bne; rw [hxi]; rfl
          by_cases hg : t[k] = s[k]
          · have HOK := hid (show fitB t[k] s[k] = true by unfold fitB; rw [if_neg hd, hg]; simp)
            have hen : (((t[k]'h1).toNat : Int) != ((s[k]'h2).toNat : Int)) = false := by rw [hg]; simp
            clear hd hg
            go_wp2_with fail
            refine (HG.out _).mono ?_
            rintro e w' ⟨rfl, rfl⟩
            go_wp2_with fail
            go_quiet (fail)
            go_wp2
            go_roundw
            case rel =>
              refine ⟨k + 1, by go_num, by omega, by omega, fun j hj a b => ?_, HDN.out _⟩
              by_cases e : j = k
              · subst e; rw [HF.out]; exact HOK.out
              · exact HA.out j (by omega) a b
            case measure => simp [intOf]; omega
          · have HNO := hid (show fitB t[k] s[k] = false by unfold fitB; rw [if_neg hd]; exact beq_eq_false_iff_ne.2 hg)
            have he : ((s[k]'h2).toNat == (t[k]'h1).toNat) = false := by
              rw [beq_eq_false_iff_ne]; intro e; exact hg (UInt8.toNat_inj.mp e.symm)
            have hei : (((t[k]'h1).toNat : Int) == ((s[k]'h2).toNat : Int)) = false := by
              rw [beq_eq_false_iff_ne]; intro e; exact hg (UInt8.toNat_inj.mp (by omega))
            have hen : (((t[k]'h1).toNat : Int) != ((s[k]'h2).toNat : Int)) = true := by unfold bne; rw [hei]; rfl
            clear hd hg
            go_wp2_with fail
            refine (HG.out _).mono ?_
            rintro e w' ⟨rfl, rfl⟩
            go_wp2_with fail
            go_quiet (fail)
            go_wp2
            go_ret
            exact ⟨ret_int (by rw [rl_at _ _ k (by rw [LT.out]; omega) (by rw [LS.out]; omega) HA.out (.inr (.inr ⟨by rw [LT.out]; exact h1, by rw [LS.out]; exact h2, by rw [HF.out]; exact HNO.out⟩))]), HDN.out _⟩
      · have hk : k = s.size := by omega
        go_wp2
        go_ret
        exact ⟨ret_int (by have e := rl_at _ _ k (by rw [LT.out]; omega) (by rw [LS.out]; omega) HA.out (.inr (.inl (by rw [LS.out]; exact hk))); omega), HDR.out⟩
    · have hk : k = t.size := by omega
      go_wp2
      go_ret
      exact ⟨ret_int (by have e := rl_at _ _ k (by rw [LT.out]; omega) (by rw [LS.out]; omega) HA.out (.inl (by rw [LT.out]; exact hk)); omega), HDR.out⟩
end Go.Proofs.YtcmllfipaiacfaaGreatDoor
