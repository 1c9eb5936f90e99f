/-
  Packs: Normal on the document's side, Pack on both, and GtinPacks' own walk.
-/
import Derived.Test.YteiacefbjmacbaaLevels
namespace Go.Proofs.Yteiacefbjmacbaa
open Go.RowKit

/-- a string's size -/
def strLen : Value → Nat
  | .string s => s.size
  | _ => 0

set_option maxHeartbeats 800000 in
theorem refNormal_any (s : ByteArray) (w : World) :
    Calls Try.prog 32 #[.string s] w fun e w' => e = .returned (.tuple #[.string ⟨(nrmT s.data.toList).toArray⟩, .int .i64 (nrmE s.data.toList)]) ∧ w' = w := by
  have hl := len_list s
  have HK : Hid (_) := refCheck_any s w
  by_cases h1 : (chkE s.data.toList).1 = 0
  · have hc := chk_zero h1
    have hsz := hc.2.1
    by_cases h2 : 14 < s.size
    · have e1 : nrmE s.data.toList = 21 := by unfold nrmE; rw [if_neg (by simpa using h1), if_pos (by omega)]
      have e2 : nrmT s.data.toList = [] := by unfold nrmT; rw [e1]; rfl
      have h18 : s.size = 18 := by unfold SizeOk at hsz; omega
      have h18I : (s.size : Int) = 18 := by omega
      rw [e1, e2]
      rw [chk_code hc] at HK
      clear h1 hc hsz e1 e2
      go_enter Try.func32, Try.ntmps32
      go_wp2_with fail
      refine Calls.mono HK.out ?_
      rintro e w' ⟨rfl, rfl⟩
      go_wp2
      go_ret2
      exact ⟨rfl, rfl⟩
    · have e1 : nrmE s.data.toList = 0 := nrmE_zero.2 ⟨hc, by omega⟩
      have e2 : nrmT s.data.toList = nrm s.data.toList := by unfold nrmT; rw [if_pos e1]
      rw [e1, e2]
      rw [chk_code hc] at HK
      have h8 : 8 ≤ s.size := by unfold SizeOk at hsz; omega
      have h18b : ((s.size : Int) == 18) = false := by simp; omega
      clear h1 hc hsz e1 e2
      go_enter Try.func32, Try.ntmps32
      go_wp2_with fail
      refine Calls.mono HK.out ?_
      rintro e w' ⟨rfl, rfl⟩
      clear HK
      go_wp2_with fail
      go_loop [0] (fun t => ∃ (k : Nat) (tb : ByteArray), t = .string tb ∧ k ≤ 14 - s.size ∧ tb.data.toList = List.replicate k 48 ++ s.data.toList) (fun t => 14 - strLen t)
      case atStart => exact ⟨0, s, rfl, Nat.zero_le _, rfl⟩
      case round =>
        obtain ⟨k, tb, rfl, hk, htb⟩ := hrel
        have htl : tb.size = k + s.size := by rw [← len_list, htb, List.length_append, List.length_replicate, hl]
        have HT : Hid (_) := htb
        clear htb
        by_cases hlt : tb.size < 14
        · have hsn : ((⟨#[48]⟩ : ByteArray) ++ tb).size = tb.size + 1 := by simp [ByteArray.size_append]; exact Nat.add_comm _ _
          have HS : Hid (_) := hsn
          have H2 : Hid (_) := htl
          clear hsn htl
          go_wp2
          go_round
          case rel =>
            have := H2.out
            refine ⟨k + 1, _, rfl, by omega, ?_⟩
            rw [ByteArray.data_append, Array.toList_append, HT.out, List.replicate_succ]
            rfl
          case measure =>
            show 14 - ((⟨#[48]⟩ : ByteArray) ++ tb).size < 14 - tb.size
            rw [HS.out]
            omega
        · have hkk : k = 14 - s.size := by omega
          have H2 : Hid (_) := htl
          clear htl
          go_wp2
          go_ret2
          refine ⟨?_, rfl⟩
          unfold nrm
          rw [hl, ← hkk, ← HT.out]
          rfl
  · have e1 : nrmE s.data.toList = (chkE s.data.toList).1 := by unfold nrmE; rw [if_pos h1]
    have e2 : nrmT s.data.toList = [] := by unfold nrmT; rw [e1, if_neg h1]
    rw [e1, e2]
    generalize chkE s.data.toList = q at HK h1
    obtain ⟨q1, q2⟩ := q
    simp only at h1 HK ⊢
    have h1b : (q1 != 0) = true := by simp [h1]
    go_enter Try.func32, Try.ntmps32
    go_wp2_with fail
    refine Calls.mono HK.out ?_
    rintro e w' ⟨rfl, rfl⟩
    go_wp2
    go_ret2
    exact ⟨rfl, rfl⟩

/-- what Pack answers: the error, the text -/
def pckE (l : List UInt8) (v : Int) : Int := if nrmE l ≠ 0 then nrmE l else if v < 1 ∨ 9 < v then 2 else 0
def lvC (v : Int) : UInt8 := UInt8.ofNat (48 + v.toNat)
def pckT (l : List UInt8) (v : Int) : List UInt8 := if pckE l v = 0 then lv (nrm l) (lvC v) else []

theorem lvC_toNat {v : Int} (h0 : 0 ≤ v) (h9 : v ≤ 9) : 48 + v = ((lvC v).toNat : Int) := by
  unfold lvC
  rw [UInt8.toNat_ofNat']
  omega



set_option maxHeartbeats 800000 in
theorem pack_any (s : ByteArray) (v : Int) (w : World) (hs : s.size ≤ 9223372036854775807) :
    Calls Try.prog 19 #[.string s, .int .i64 v] w fun e w' => e = .returned (.tuple #[.string ⟨(pckT s.data.toList v).toArray⟩, .int .i64 (pckE s.data.toList v)]) ∧ Below w.heap.size w w' := by
  have HN : Hid (_) := normal_any s w hs
  clear hs
  by_cases h1 : nrmE s.data.toList = 0
  · have ht := nrmE_zero.1 h1
    have e2 : nrmT s.data.toList = nrm s.data.toList := by unfold nrmT; rw [if_pos h1]
    rw [h1, e2] at HN
    by_cases h2 : v < 1 ∨ 9 < v
    · have p1 : pckE s.data.toList v = 2 := by unfold pckE; rw [if_neg (by simpa using h1), if_pos h2]
      have p2 : pckT s.data.toList v = [] := by unfold pckT; rw [p1]; rfl
      rw [p1, p2]
      clear p1 p2 h1 e2 ht
      by_cases hv : v < 1
      all_goals
        go_enter Try.func19, Try.ntmps19
        go_wp2_with fail
        refine Calls.mono HN.out ?_
        rintro e w1 ⟨rfl, hb⟩
        clear HN
      · go_wp2
        go_ret2
        exact ⟨rfl, hb⟩
      · have h9 : 9 < v := by omega
        go_wp2
        go_ret2
        exact ⟨rfl, hb⟩
    · have p1 : pckE s.data.toList v = 0 := by unfold pckE; rw [if_neg (by simpa using h1), if_neg h2]
      have p2 : pckT s.data.toList v = lv (nrm s.data.toList) (lvC v) := by unfold pckT; rw [if_pos p1]
      rw [p1, p2]
      have hlen := nrm_len ht.2
      have hsz : (⟨(nrm s.data.toList).toArray⟩ : ByteArray).size = 14 := by rw [← len_list]; simpa using hlen
      have hv0 : ¬ v < 1 := by omega
      have hv9 : ¬ 9 < v := by omega
      clear p1 p2 h1 e2 ht h2 hlen
      go_enter Try.func19, Try.ntmps19
      go_wp2_with fail
      refine Calls.mono HN.out ?_
      rintro e w1 ⟨rfl, hb⟩
      clear HN
      have hz := hb.size
      have HL : Hid (_) := atLevel_any ⟨(nrm s.data.toList).toArray⟩ v (lvC v) w1 hsz (by omega) (by omega) (lvC_toNat (by omega) (by omega))
      clear hsz
      go_wp2_with fail
      refine Calls.mono HL.out ?_
      rintro e w2 ⟨rfl, hb2⟩
      clear HL
      go_wp2
      go_ret2
      exact ⟨rfl, hb.trans (hb2.mono hz)⟩
  · have p1 : pckE s.data.toList v = nrmE s.data.toList := by unfold pckE; rw [if_pos h1]
    have p2 : pckT s.data.toList v = [] := by unfold pckT; rw [p1, if_neg h1]
    have e2 : nrmT s.data.toList = [] := by unfold nrmT; rw [if_neg h1]
    rw [p1, p2]
    rw [e2] at HN
    generalize nrmE s.data.toList = q at HN h1
    have h1b : (q != 0) = true := by simp [h1]
    clear p1 p2 e2
    go_enter Try.func19, Try.ntmps19
    go_wp2_with fail
    refine Calls.mono HN.out ?_
    rintro e w1 ⟨rfl, hb⟩
    go_wp2
    go_ret2
    exact ⟨rfl, hb⟩

set_option maxHeartbeats 800000 in
theorem refPack_any (s : ByteArray) (v : Int) (w : World) :
    Calls Try.prog 20 #[.string s, .int .i64 v] w fun e w' => e = .returned (.tuple #[.string ⟨(pckT s.data.toList v).toArray⟩, .int .i64 (pckE s.data.toList v)]) ∧ Below w.heap.size w w' := by
  have HN : Hid (_) := refNormal_any s w
  by_cases h1 : nrmE s.data.toList = 0
  · have ht := nrmE_zero.1 h1
    have e2 : nrmT s.data.toList = nrm s.data.toList := by unfold nrmT; rw [if_pos h1]
    rw [h1, e2] at HN
    by_cases h2 : v < 1 ∨ 9 < v
    · have p1 : pckE s.data.toList v = 2 := by unfold pckE; rw [if_neg (by simpa using h1), if_pos h2]
      have p2 : pckT s.data.toList v = [] := by unfold pckT; rw [p1]; rfl
      rw [p1, p2]
      clear p1 p2 h1 e2 ht
      by_cases hv : v < 1
      all_goals
        go_enter Try.func20, Try.ntmps20
        go_wp2_with fail
        refine Calls.mono HN.out ?_
        rintro e w1 ⟨rfl, rfl⟩
        clear HN
      · go_wp2
        go_ret2
        exact ⟨rfl, Below.refl _ _⟩
      · have h9 : 9 < v := by omega
        go_wp2
        go_ret2
        exact ⟨rfl, Below.refl _ _⟩
    · have p1 : pckE s.data.toList v = 0 := by unfold pckE; rw [if_neg (by simpa using h1), if_neg h2]
      have p2 : pckT s.data.toList v = lv (nrm s.data.toList) (lvC v) := by unfold pckT; rw [if_pos p1]
      rw [p1, p2]
      have hlen := nrm_len ht.2
      have hsz : (⟨(nrm s.data.toList).toArray⟩ : ByteArray).size = 14 := by rw [← len_list]; simpa using hlen
      have hv0 : ¬ v < 1 := by omega
      have hv9 : ¬ 9 < v := by omega
      have hcn := lvC_toNat (v := v) (by omega) (by omega)
      have HL : Hid (_) := leveled_any ⟨(nrm s.data.toList).toArray⟩ (48 + v) (lvC v) w hsz hcn (nrm_allD ht.1.1) (by unfold IsD; omega)
      clear p1 p2 h1 e2 ht h2 hlen hcn hsz
      go_enter Try.func20, Try.ntmps20
      go_wp2_with fail
      refine Calls.mono HN.out ?_
      rintro e w1 ⟨rfl, rfl⟩
      clear HN
      go_wp2_with fail
      refine Calls.mono HL.out ?_
      rintro e w2 ⟨rfl, hb2⟩
      clear HL
      go_wp2
      go_ret2
      exact ⟨rfl, hb2⟩
  · have p1 : pckE s.data.toList v = nrmE s.data.toList := by unfold pckE; rw [if_pos h1]
    have p2 : pckT s.data.toList v = [] := by unfold pckT; rw [p1, if_neg h1]
    have e2 : nrmT s.data.toList = [] := by unfold nrmT; rw [if_neg h1]
    rw [p1, p2]
    rw [e2] at HN
    generalize nrmE s.data.toList = q at HN h1
    have h1b : (q != 0) = true := by simp [h1]
    clear p1 p2 e2
    go_enter Try.func20, Try.ntmps20
    go_wp2_with fail
    refine Calls.mono HN.out ?_
    rintro e w1 ⟨rfl, rfl⟩
    go_wp2
    go_ret2
    exact ⟨rfl, Below.refl _ _⟩
end Go.Proofs.Yteiacefbjmacbaa
