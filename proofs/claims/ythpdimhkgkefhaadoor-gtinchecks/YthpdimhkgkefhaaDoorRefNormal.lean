/-
  Normal on the document's side.
-/
import Derived.Test.YthpdimhkgkefhaaDoorLevels
namespace Go.Proofs.YthpdimhkgkefhaaDoor
open Go.RowKit
set_option maxRecDepth 100000

/-- a string's size -/
def strLen : Value → Nat
  | .string s => s.size
  | _ => 0

set_option maxHeartbeats 800000 in
theorem refNormal_any (s : ByteArray) (w : World) :
    Calls Tryd.prog 8 #[.string s] w fun e w' => e = .returned (.tuple #[.string ⟨(nrmT s.data.toList).toArray⟩, .int .i64 (nrmE s.data.toList)]) ∧ w' = w := by
  have hl := len_list s
  have HK : Hid (_) := refCheck_any s w
  by_cases h1 : (chkE s.data.toList).1 = 0
  · have hc := chk_zero h1
    have hsz := hc.2.1
    by_cases h2 : 14 < s.size
    · have e1 : nrmE s.data.toList = 21 := by unfold nrmE; rw [if_neg (by simpa using h1), if_pos (by omega)]
      have e2 : nrmT s.data.toList = [] := by unfold nrmT; rw [e1]; rfl
      have h18 : s.size = 18 := by unfold SizeOk at hsz; omega
      have h18I : (s.size : Int) = 18 := by omega
      rw [e1, e2]
      rw [chk_code hc] at HK
      clear h1 hc hsz e1 e2
      go_enter Tryd.func8, Tryd.ntmps8
      go_wp2_with fail
      refine Calls.mono HK.out ?_
      rintro e w' ⟨rfl, rfl⟩
      go_wp2
      go_ret2
      exact ⟨rfl, rfl⟩
    · have e1 : nrmE s.data.toList = 0 := nrmE_zero.2 ⟨hc, by omega⟩
      have e2 : nrmT s.data.toList = nrm s.data.toList := by unfold nrmT; rw [if_pos e1]
      rw [e1, e2]
      rw [chk_code hc] at HK
      have h8 : 8 ≤ s.size := by unfold SizeOk at hsz; omega
      have h18b : ((s.size : Int) == 18) = false := by simp; omega
      clear h1 hc hsz e1 e2
      go_enter Tryd.func8, Tryd.ntmps8
      go_wp2_with fail
      refine Calls.mono HK.out ?_
      rintro e w' ⟨rfl, rfl⟩
      clear HK
      go_wp2_with fail
      go_loop [0] (fun t => ∃ (k : Nat) (tb : ByteArray), t = .string tb ∧ k ≤ 14 - s.size ∧ tb.data.toList = List.replicate k 48 ++ s.data.toList) (fun t => 14 - strLen t)
      case atStart => exact ⟨0, s, rfl, Nat.zero_le _, rfl⟩
      case round =>
        obtain ⟨k, tb, rfl, hk, htb⟩ := hrel
        have htl : tb.size = k + s.size := by rw [← len_list, htb, List.length_append, List.length_replicate, hl]
        have HT : Hid (_) := htb
        clear htb
        by_cases hlt : tb.size < 14
        · have hsn : ((⟨#[48]⟩ : ByteArray) ++ tb).size = tb.size + 1 := by simp [ByteArray.size_append]; exact Nat.add_comm _ _
          have HS : Hid (_) := hsn
          have H2 : Hid (_) := htl
          clear hsn htl
          go_wp2
          go_round
          case rel =>
            have := H2.out
            refine ⟨k + 1, _, rfl, by omega, ?_⟩
            rw [ByteArray.data_append, Array.toList_append, HT.out, List.replicate_succ]
            rfl
          case measure =>
            show 14 - ((⟨#[48]⟩ : ByteArray) ++ tb).size < 14 - tb.size
            rw [HS.out]
            omega
        · have hkk : k = 14 - s.size := by omega
          have H2 : Hid (_) := htl
          clear htl
          go_wp2
          go_ret2
          refine ⟨?_, rfl⟩
          unfold nrm
          rw [hl, ← hkk, ← HT.out]
          rfl
  · have e1 : nrmE s.data.toList = (chkE s.data.toList).1 := by unfold nrmE; rw [if_pos h1]
    have e2 : nrmT s.data.toList = [] := by unfold nrmT; rw [e1, if_neg h1]
    rw [e1, e2]
    generalize chkE s.data.toList = q at HK h1
    obtain ⟨q1, q2⟩ := q
    simp only at h1 HK ⊢
    have h1b : (q1 != 0) = true := by simp [h1]
    go_enter Tryd.func8, Tryd.ntmps8
    go_wp2_with fail
    refine Calls.mono HK.out ?_
    rintro e w' ⟨rfl, rfl⟩
    go_wp2
    go_ret2
    exact ⟨rfl, rfl⟩

end Go.Proofs.YthpdimhkgkefhaaDoor
