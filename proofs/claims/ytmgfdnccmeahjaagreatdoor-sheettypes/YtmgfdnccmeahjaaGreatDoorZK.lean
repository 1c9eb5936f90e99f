/-
  Td1: Sheets, the document: sign, whole, signed, Int.
  Td2: Sheets, the document: signed, Int, Hundred.
  Td3: Sheets, the document: Hundred. Laid by mktd3.py.
  Td4: Sheets, the document: typed. Laid by mktd4.py.
-/
import Derived.Test.YtmgfdnccmeahjaaGreatDoorZG
import Derived.Test.YtmgfdnccmeahjaaGreatDoorZJ
import Derived.Test.YtmgfdnccmeahjaaGreatDoorZTy7
namespace Go.Proofs.YtmgfdnccmeahjaaGreatDoor
open Go.RowKit
set_option maxRecDepth 100000
set_option linter.unusedVariables false
set_option linter.unusedSimpArgs false

theorem head_of {s : ByteArray} (h0 : 0 < s.size) : ∃ r, s.data.toList = s[0] :: r := by
  cases hcr : s.data.toList with
  | nil => have := szL s; rw [hcr] at this; simp at this; omega
  | cons c r =>
    have h1 := atL s 0 h0
    have h2 : s.data.toList[0]'(by rw [szL]; exact h0) = (c :: r)[0]'(by simp) := by simp only [hcr]
    exact ⟨r, by rw [← h1, h2]; rfl⟩
theorem empty_of {s : ByteArray} : s.toList.isEmpty = decide (s.size = 0) := by
  rw [ByteArray.toList_eq]
  have := szL s
  cases hcr : s.data.toList with
  | nil => rw [hcr] at this; simp at this; rw [decide_eq_true this.symm]; rfl
  | cons c r => rw [hcr] at this; simp at this; rw [decide_eq_false (by omega)]; rfl
set_option maxHeartbeats 400000 in
theorem dsign_any (s : ByteArray) (w : World) (hs : s.size ≤ 281474976710656) :
    Calls Tryz.prog 129 #[.string s] w fun e w' => (∃ t : ByteArray, e = .returned (.tuple #[.string t, .bool (ngt s.data.toList)]) ∧ t.data.toList = bdy s.data.toList) ∧ w' = w := by
  by_cases h0 : s.size = 0
  · have e2 : s.toList.isEmpty = true := by rw [empty_of, decide_eq_true h0]
    have hnil : s.data.toList = [] := List.eq_nil_of_length_eq_zero (by rw [szL]; exact h0)
    have HR := hid (show ngt s.data.toList = false ∧ bdy s.data.toList = s.data.toList by rw [hnil]; exact ⟨rfl, rfl⟩)
    rw [HR.out.1, HR.out.2]
    clear hnil
    go_enter Tryz.func129, Tryz.ntmps129
    go_wp2
    go_ret2
    exact ⟨⟨s, rfl, rfl⟩, rfl⟩
  · have e2 : s.toList.isEmpty = false := by rw [empty_of, decide_eq_false h0]
    have h1 : 0 < s.size := by omega
    have h1I : (0 : Int) < (s.size : Int) := by omega
    have h1J : (1 : Int) ≤ (s.size : Int) := by omega
    obtain ⟨r, hr⟩ := head_of h1
    by_cases h45 : s[0].toNat = 45
    · have hc : s[0] = 45 := UInt8.toNat_inj.1 (by rw [h45]; rfl)
      have HR := hid (show ngt s.data.toList = true ∧ bdy s.data.toList = s.data.toList.drop 1 by rw [hr, hc]; exact ⟨rfl, rfl⟩)
      rw [HR.out.1, HR.out.2]
      have e3 : ((s[0].toNat : Int) == 45) = true := by rw [h45]; rfl
      have HL := hid (szL s)
      clear hr hc
      go_enter Tryz.func129, Tryz.ntmps129
      go_wp2
      go_ret2
      refine ⟨⟨_, rfl, ?_⟩, rfl⟩
      rw [Lib.extract_data, ← HL.out, List.take_of_length_le (by simp)]
    · have hc : s[0] ≠ 45 := fun e => h45 (by rw [e]; rfl)
      have HR := hid (show ngt s.data.toList = false ∧ bdy s.data.toList = s.data.toList by
        have : ngt s.data.toList = false := by rw [hr]; simp [ngt, hc]
        exact ⟨this, by unfold bdy; rw [this]; rfl⟩)
      rw [HR.out.1, HR.out.2]
      have e3 : ((s[0].toNat : Int) == 45) = false := by simp; omega
      clear hr hc
      go_enter Tryz.func129, Tryz.ntmps129
      go_wp2
      go_ret2
      exact ⟨⟨s, rfl, rfl⟩, rfl⟩
theorem whR_no {d : List UInt8} {most : Nat} (h : wh d = false) : whR d most = none := by unfold whR; rw [h]; rfl
theorem dvf_take {d : List UInt8} {k : Nat} (hk : k < d.length) : dvf 0 (d.take (k + 1)) = dvf 0 (d.take k) * 10 + (d[k].toNat - 48) := by
  rw [List.take_succ_eq_append_getElem hk, dvf_app]
  rfl
theorem dvf_mono {d : List UInt8} (k : Nat) : dvf 0 (d.take k) ≤ dvf 0 d := by
  have := dvf_app (d.take k) (d.drop k) 0
  rw [List.take_append_drop] at this
  rw [this]
  exact dvf_ge _ _
theorem case48 (s : ByteArray) (h1 : 0 < s.size) (hz : ¬ (s[0].toNat = 48 ∧ 1 < s.size)) : (((s[0].toNat : Int) == 48) = true ∧ ¬ (1 : Int) < (s.size : Int)) ∨ ((s[0].toNat : Int) == 48) = false := by
  by_cases hc : s[0].toNat = 48
  · exact .inl ⟨by rw [hc]; rfl, by omega⟩
  · exact .inr (beq_eq_false_iff_ne.2 (by omega))
theorem whR_big {d : List UInt8} {most : Nat} (h : most < dvf 0 d) : whR d most = none := by unfold whR; rw [decide_eq_false (by omega), Bool.and_false]; rfl
theorem whR_yes {d : List UInt8} {most : Nat} (hw : wh d = true) (h : dvf 0 d ≤ most) : whR d most = some (dvf 0 d) := by unfold whR; rw [hw, decide_eq_true h]; rfl
def whV (r : Option Nat) : Value := .tuple #[.int .u64 ((r.getD 0 : Nat) : Int), .bool r.isSome]
set_option maxHeartbeats 2000000 in
theorem dwhole_any (s : ByteArray) (most : Nat) (w : World) (hs : s.size ≤ 281474976710656) (hm : most ≤ 9223372036854775808) (h9 : 9 ≤ most) :
    Calls Tryz.prog 130 #[.string s, .int .u64 (most : Int)] w fun e w' => e = .returned (whV (whR s.data.toList most)) ∧ w' = w := by
  by_cases h0 : s.size = 0
  · have e2 : s.toList.isEmpty = true := by rw [empty_of, decide_eq_true h0]
    have hnil : s.data.toList = [] := List.eq_nil_of_length_eq_zero (by rw [szL]; exact h0)
    rw [hnil, whR_no (by rfl)]
    unfold whV
    have e3 : (s.toList == ([] : List UInt8)) = true := by rw [ByteArray.toList_eq, hnil]; rfl
    clear hnil
    go_enter Tryz.func130, Tryz.ntmps130
    go_wp2
    go_ret2
    exact ⟨rfl, rfl⟩
  · have h1 : 0 < s.size := by omega
    have h1I : (0 : Int) < (s.size : Int) := by omega
    have e2 : (s.toList == ([] : List UInt8)) = false := by
      obtain ⟨r, hr⟩ := head_of h1
      rw [ByteArray.toList_eq, hr]; rfl
    have e2b : s.toList.isEmpty = false := by rw [empty_of, decide_eq_false h0]
    obtain ⟨V, hV⟩ : ∃ V, whR s.data.toList most = V := ⟨_, rfl⟩
    rw [hV]
    have HV := hid hV
    clear hV
    by_cases hz : s[0].toNat = 48 ∧ 1 < s.size
    · have e3 : ((s[0].toNat : Int) == 48) = true := by rw [hz.1]; rfl
      have e4 : (1 : Int) < (s.size : Int) := by omega
      have hv : V = none := by
        rw [← HV.out]
        obtain ⟨r, hr⟩ := head_of h1
        have hc : s[0] = 48 := UInt8.toNat_inj.1 (by rw [hz.1]; rfl)
        have hl := szL s
        rw [hr] at hl
        rw [hr, hc]
        apply whR_no
        match r, hl with
        | [], hl => simp at hl; omega
        | a :: b, _ => simp [wh]
      subst hv
      unfold whV
      clear hz
      go_enter Tryz.func130, Tryz.ntmps130
      go_wp2
      go_ret2
      exact ⟨rfl, rfl⟩
    · have HW := hid (show (∀ i (hi : i < s.data.toList.length), dg s.data.toList[i] = true) → wh s.data.toList = true from fun hall => by
        rw [wh_yes hall]
        obtain ⟨r, hr⟩ := head_of h1
        have hl := szL s
        rw [hr] at hl
        rw [hr]
        by_cases hc : s[0].toNat = 48
        · have hr0 : r = [] := List.eq_nil_of_length_eq_zero (by simp at hl; omega)
          have hc' : s[0] = 48 := UInt8.toNat_inj.1 (by rw [hc]; rfl)
          rw [hr0, hc']; rfl
        · have hc' : s[0] ≠ 48 := fun e => hc (by rw [e]; rfl)
          simp [hc'])
      have hcase := case48 s h1 hz
      clear hz
      rcases hcase with ⟨e3, e4⟩ | e3
      all_goals
        go_enter Tryz.func130, Tryz.ntmps130
        go_wp2_with fail
        go_loop [6, 7] (fun n i => ∃ k : Nat, k ≤ s.size ∧ i = .int .i64 (k : Int) ∧ n = .int .u64 ((dvf 0 (s.data.toList.take k) : Nat) : Int) ∧ Hid (dvf 0 (s.data.toList.take k) ≤ most) ∧ Hid (∀ j (hj : j < s.data.toList.length), j < k → dg s.data.toList[j] = true)) (fun _ i => s.size - (intOf i).toNat)
        case atStart => exact ⟨0, Nat.zero_le _, rfl, rfl, hid (by rw [List.take_zero]; exact Nat.zero_le _), hid fun j _ h => absurd h (Nat.not_lt_zero _)⟩
        case round =>
          obtain ⟨k, hk, rfl, rfl, HM, HA⟩ := hrel
          clear e2 e2b e3
          by_cases hlt : k < s.size
          · have hI : (k : Int) < (s.size : Int) := by omega
            have hat := atL s k hlt
            have HT := hid (dvf_take (d := s.data.toList) (k := k) (by rw [szL]; exact hlt))
            have HMo := hid (dvf_mono (d := s.data.toList) (k + 1))
            obtain ⟨n, hn⟩ : ∃ n, dvf 0 (s.data.toList.take k) = n := ⟨_, rfl⟩
            rw [hn] at HM HT ⊢
            rw [hat] at HT
            have HN := hid hn
            clear hn
            by_cases hx1 : s[k].toNat < 48
            · have h1I : (s[k].toNat : Int) < 48 := by omega
              have hv : V = none := by rw [← HV.out]; exact whR_no (wh_no (i := k) (by rw [szL]; exact hlt) (by rw [hat]; simp [dg]; omega))
              subst hv
              clear hat
              go_wp2
              go_ret2
              exact ⟨rfl, rfl⟩
            · by_cases hx2 : 57 < s[k].toNat
              · have h1I : ¬ (s[k].toNat : Int) < 48 := by omega
                have h2I : (57 : Int) < (s[k].toNat : Int) := by omega
                have hv : V = none := by rw [← HV.out]; exact whR_no (wh_no (i := k) (by rw [szL]; exact hlt) (by rw [hat]; simp [dg]; omega))
                subst hv
                clear hat
                go_wp2
                go_ret2
                exact ⟨rfl, rfl⟩
              · have h1I : ¬ (s[k].toNat : Int) < 48 := by omega
                have h2I : ¬ (57 : Int) < (s[k].toNat : Int) := by omega
                have HB := hid (show ∀ j (hj : j < s.data.toList.length), j < k + 1 → dg s.data.toList[j] = true from fun j hj hlt2 => by
                  by_cases e : j = k
                  · subst e
                    rw [hat]
                    simp [dg]; omega
                  · exact HA.out j hj (by omega))
                obtain ⟨y, hy⟩ : ∃ y, s[k].toNat = 48 + y := ⟨s[k].toNat - 48, by omega⟩
                have HX := hid hat
                clear hat
                have hsub : (s[k].toNat : Int) - 48 = (y : Int) := by omega
                rw [hy] at HT
                by_cases hg : (most - y) / 10 < n
                · have hgI : ((most : Int) - (48 + (y : Int) - 48)) / 10 < (n : Int) := by omega
                  have hv : V = none := by
                    rw [← HV.out]
                    exact whR_big (Nat.lt_of_lt_of_le (by rw [HT.out]; omega) HMo.out)
                  subst hv
                  clear hg
                  go_wp2
                  go_ret2
                  exact ⟨rfl, rfl⟩
                · have hgI : ¬ ((most : Int) - (48 + (y : Int) - 48)) / 10 < (n : Int) := by omega
                  have HM2 := hid (show dvf 0 (s.data.toList.take (k + 1)) ≤ most by rw [HT.out]; omega)
                  have HC2 := hid (show (n : Int) * 10 + (48 + (y : Int) - 48) = ((dvf 0 (s.data.toList.take (k + 1)) : Nat) : Int) by rw [HT.out]; omega)
                  have hnb : n ≤ 922337203685477580 := by omega
                  clear hg
                  go_wp2
                  go_round
                  case rel => exact ⟨k + 1, by omega, by go_num, by rw [HC2.out], HM2, HB⟩
                  case measure => simp [intOf]; omega
          · have hI : ¬ (k : Int) < (s.size : Int) := by omega
            have hkl : k = s.size := by omega
            have htk : s.data.toList.take k = s.data.toList := List.take_of_length_le (by rw [szL]; omega)
            have hv : V = some (dvf 0 s.data.toList) := by
              rw [← HV.out]
              refine whR_yes (HW.out fun i hi => HA.out i hi (by rw [szL] at hi; omega)) ?_
              have := HM.out
              rw [htk] at this
              exact this
            subst hv
            rw [htk]
            clear htk
            go_wp2
            go_ret2
            exact ⟨rfl, rfl⟩
end Go.Proofs.YtmgfdnccmeahjaaGreatDoor

namespace Go.Proofs.YtmgfdnccmeahjaaGreatDoor
open Go.RowKit
set_option maxRecDepth 100000
set_option linter.unusedVariables false
set_option linter.unusedSimpArgs false

def sgn (n : Nat) (b : Bool) : Int := if b then -(n : Int) else n
set_option maxHeartbeats 400000 in
theorem dsigned_any (n : Nat) (b : Bool) (w : World) (hn : n ≤ 9223372036854775808) (h1 : b = false → n ≤ 9223372036854775807) :
    Calls Tryz.prog 131 #[.int .u64 (n : Int), .bool b] w fun e w' => e = .returned (.int .i64 (sgn n b)) ∧ w' = w := by
  cases b with
  | false =>
    have h2 := h1 rfl
    have h3 : (n : Int) ≤ 9223372036854775807 := by omega
    clear h1 h2 hn
    go_enter Tryz.func131, Tryz.ntmps131
    go_wp2
    go_ret
    exact ⟨rfl, rfl⟩
  | true =>
    clear h1
    by_cases hz : n = 0
    · subst hz
      go_enter Tryz.func131, Tryz.ntmps131
      go_wp2
      go_ret
      exact ⟨rfl, rfl⟩
    · have h3 : (n : Int) ≤ 9223372036854775808 := by omega
      have h4 : (0 : Int) < (n : Int) := by omega
      clear hn hz
      go_enter Tryz.func131, Tryz.ntmps131
      go_wp2
      go_ret
      refine ⟨?_, rfl⟩
      show Ending.returned (.int .i64 (-((n : Int) - 1) - 1)) = _
      rw [show sgn n true = -((n : Int) - 1) - 1 by unfold sgn; simp; omega]
theorem whR_le {d : List UInt8} {most n : Nat} (h : whR d most = some n) : n ≤ most := by
  unfold whR at h
  split at h
  · next hc =>
    injection h with h; subst h
    rw [Bool.and_eq_true] at hc
    exact of_decide_eq_true hc.2
  · cases h
/-- what Int, Hundred answer -/
def nvV (r : Option Int) : Value := .tuple #[.int .i64 (r.getD 0), .bool r.isSome]
set_option maxHeartbeats 1000000 in
theorem dInt_any (s : ByteArray) (w : World) (hs : s.size ≤ 281474976710656) :
    Calls Tryz.prog 108 #[.string s] w fun e w' => e = .returned (nvV (intR s.data.toList)) ∧ w' = w := by
  have HS := hid (dsign_any s w hs)
  have hi := intR_is s.data.toList
  have hbl : (bdy s.data.toList).length ≤ s.size := by
    rw [← szL]; unfold bdy; split <;> simp
  obtain ⟨I, hI⟩ : ∃ I, intR s.data.toList = I := ⟨_, rfl⟩
  rw [hI] at hi ⊢
  obtain ⟨ng, hng⟩ : ∃ ng, ngt s.data.toList = ng := ⟨_, rfl⟩
  rw [hng] at HS hi
  obtain ⟨B, hB⟩ : ∃ B, bdy s.data.toList = B := ⟨_, rfl⟩
  rw [hB] at HS hi hbl
  have HB := hid hbl
  clear hI hng hB hbl
  cases ng with
  | false =>
    have HW := hid (fun (t : ByteArray) (ht : t.data.toList = B) => (by
      have := dwhole_any t 9223372036854775807 w (by have := HB.out; rw [← szL, ht]; omega) (by omega) (by omega)
      rw [ht] at this; exact this : Calls Tryz.prog 130 #[.string t, .int .u64 (9223372036854775807 : Int)] w fun e w' => e = .returned (whV (whR B 9223372036854775807)) ∧ w' = w))
    have hi : I = match whR B 9223372036854775807 with
      | some n => if false && n == 0 then none else some (sgn n false)
      | none => none := hi
    cases hq : whR B 9223372036854775807 with
    | none =>
      rw [hq] at hi HW
      have hi2 : I = none := hi
      subst hi2
      rw [show whV none = .tuple #[.int .u64 0, .bool false] from rfl] at HW
      rw [show nvV none = .tuple #[.int .i64 0, .bool false] from rfl]
      clear hi hq
      go_enter Tryz.func108, Tryz.ntmps108
      go_wp2_with fail
      refine Calls.mono HS.out ?_
      rintro e w1 ⟨⟨t, rfl, ht⟩, hw⟩
      replace hw := hw.symm
      subst hw
      have HU := hid (HW.out t ht)
      clear ht
      go_wp2_with fail
      refine Calls.mono HU.out ?_
      rintro e w1 ⟨rfl, hw⟩
      replace hw := hw.symm
      subst hw
      go_wp2
      go_ret2
      exact ⟨rfl, rfl⟩
    | some n =>
      have hle := whR_le hq
      rw [hq] at hi HW
      rw [show whV (some n) = .tuple #[.int .u64 (n : Int), .bool true] from rfl] at HW
      have hi2 : I = some (sgn n false) := hi
      subst hi2
      rw [show nvV (some (sgn n false)) = .tuple #[.int .i64 (sgn n false), .bool true] from rfl]
      have HG := hid (dsigned_any n false w (by omega) (fun _ => hle))
      clear hi hq hle
      go_enter Tryz.func108, Tryz.ntmps108
      go_wp2_with fail
      refine Calls.mono HS.out ?_
      rintro e w1 ⟨⟨t, rfl, ht⟩, hw⟩
      replace hw := hw.symm
      subst hw
      have HU := hid (HW.out t ht)
      clear ht
      go_wp2_with fail
      refine Calls.mono HU.out ?_
      rintro e w1 ⟨rfl, hw⟩
      replace hw := hw.symm
      subst hw
      go_wp2_with fail
      refine Calls.mono HG.out ?_
      rintro e w1 ⟨rfl, hw⟩
      replace hw := hw.symm
      subst hw
      go_wp2
      go_ret2
      exact ⟨rfl, rfl⟩
  | true =>
    have HW := hid (fun (t : ByteArray) (ht : t.data.toList = B) => (by
      have := dwhole_any t 9223372036854775808 w (by have := HB.out; rw [← szL, ht]; omega) (by omega) (by omega)
      rw [ht] at this; exact this : Calls Tryz.prog 130 #[.string t, .int .u64 (9223372036854775808 : Int)] w fun e w' => e = .returned (whV (whR B 9223372036854775808)) ∧ w' = w))
    have hi : I = match whR B 9223372036854775808 with
      | some n => if true && n == 0 then none else some (sgn n true)
      | none => none := hi
    cases hq : whR B 9223372036854775808 with
    | none =>
      rw [hq] at hi HW
      have hi2 : I = none := hi
      subst hi2
      rw [show whV none = .tuple #[.int .u64 0, .bool false] from rfl] at HW
      rw [show nvV none = .tuple #[.int .i64 0, .bool false] from rfl]
      clear hi hq
      go_enter Tryz.func108, Tryz.ntmps108
      go_wp2_with fail
      refine Calls.mono HS.out ?_
      rintro e w1 ⟨⟨t, rfl, ht⟩, hw⟩
      replace hw := hw.symm
      subst hw
      have HU := hid (HW.out t ht)
      clear ht
      go_wp2_with fail
      refine Calls.mono HU.out ?_
      rintro e w1 ⟨rfl, hw⟩
      replace hw := hw.symm
      subst hw
      go_wp2
      go_ret2
      exact ⟨rfl, rfl⟩
    | some n =>
      have hle := whR_le hq
      rw [hq] at hi HW
      rw [show whV (some n) = .tuple #[.int .u64 (n : Int), .bool true] from rfl] at HW
      by_cases hz : n = 0
      · subst hz
        have hi2 : I = none := hi
        subst hi2
        rw [show nvV none = .tuple #[.int .i64 0, .bool false] from rfl]
        clear hi hq hle
        go_enter Tryz.func108, Tryz.ntmps108
        go_wp2_with fail
        refine Calls.mono HS.out ?_
        rintro e w1 ⟨⟨t, rfl, ht⟩, hw⟩
        replace hw := hw.symm
        subst hw
        have HU := hid (HW.out t ht)
        clear ht
        go_wp2_with fail
        refine Calls.mono HU.out ?_
        rintro e w1 ⟨rfl, hw⟩
        replace hw := hw.symm
        subst hw
        go_wp2
        go_ret2
        exact ⟨rfl, rfl⟩
      · have hzb : (n == 0) = false := beq_eq_false_iff_ne.2 hz
        have hi2 : I = some (sgn n true) := by rw [hi]; show (if (true && n == 0) = true then none else some (sgn n true)) = _; rw [hzb]; rfl
        subst hi2
        rw [show nvV (some (sgn n true)) = .tuple #[.int .i64 (sgn n true), .bool true] from rfl]
        have HG := hid (dsigned_any n true w hle (fun h => by cases h))
        have hzI : ((n : Int) == 0) = false := beq_eq_false_iff_ne.2 (by omega)
        clear hi hq hle hzb hz
        go_enter Tryz.func108, Tryz.ntmps108
        go_wp2_with fail
        refine Calls.mono HS.out ?_
        rintro e w1 ⟨⟨t, rfl, ht⟩, hw⟩
        replace hw := hw.symm
        subst hw
        have HU := hid (HW.out t ht)
        clear ht
        go_wp2_with fail
        refine Calls.mono HU.out ?_
        rintro e w1 ⟨rfl, hw⟩
        replace hw := hw.symm
        subst hw
        go_wp2_with fail
        refine Calls.mono HG.out ?_
        rintro e w1 ⟨rfl, hw⟩
        replace hw := hw.symm
        subst hw
        go_wp2
        go_ret2
        exact ⟨rfl, rfl⟩
end Go.Proofs.YtmgfdnccmeahjaaGreatDoor

namespace Go.Proofs.YtmgfdnccmeahjaaGreatDoor
open Go.RowKit
set_option maxRecDepth 100000
set_option linter.unusedVariables false
set_option linter.unusedSimpArgs false

theorem wr64 {x : Int} (h1 : -9223372036854775808 ≤ x) (h2 : x ≤ 9223372036854775807) : wrap64 x = x := by
  unfold wrap64
  omega
theorem gd_at {t : ByteArray} {B : List UInt8} (hB : t.data.toList = B) {i : Nat} (h : i < t.size) : B.getD i 0 = t[i] := by
  subst hB
  rw [List.getD_eq_getElem?_getD, List.getElem?_eq_getElem (by rw [szL]; exact h)]
  exact atL t i h
theorem hcs_two {t : ByteArray} {B : List UInt8} (hB : t.data.toList = B) {m : Nat} (hm : t.size = m + 3) (h1 : m + 1 < t.size) (h2 : m + 2 < t.size) (hp : ptd B = true) : hcs B = ((t[m + 1]'h1).toNat - 48) * 10 + ((t[m + 2]'h2).toNat - 48) := by
  have hl : B.length = m + 3 := by rw [← hB, szL, hm]
  have k1 : m + 1 < B.length := by omega
  have k2 : m + 1 + 1 < B.length := by omega
  have hd : B.drop (m + 1) = [B[m + 1]'k1, B[m + 1 + 1]'k2] := by
    rw [List.drop_eq_getElem_cons k1, List.drop_eq_getElem_cons k2, List.drop_eq_nil_of_le (by omega)]
  have e1 : B[m + 1]'k1 = t[m + 1]'h1 := by subst hB; exact atL t (m + 1) h1
  have e2 : B[m + 1 + 1]'k2 = t[m + 2]'h2 := by subst hB; exact atL t (m + 2) h2
  have hh : hcs B = dvf 0 (B.drop (B.length - 2)) := if_pos hp
  have hk : B.length - 2 = m + 1 := by omega
  rw [hh, hk, hd, e1, e2]
  generalize t[m + 1]'h1 = a
  generalize t[m + 2]'h2 = b
  show (0 * 10 + (a.toNat - 48)) * 10 + (b.toNat - 48) = _
  rw [Nat.zero_mul, Nat.zero_add]
theorem fin_big {ng : Bool} {m : Nat} (h : 1000000000000000 < m) : fin ng m = none := by unfold fin; rw [decide_eq_true h]; rfl
theorem fin_yes {ng : Bool} {m : Nat} (h : m ≤ 1000000000000000) (hz : (ng && m == 0) = false) : fin ng m = some (sgn m ng) := by
  unfold fin sgn
  rw [decide_eq_false (by omega), hz]; rfl
theorem fin_cases (ng : Bool) (m : Nat) : (1000000000000000 < m ∧ fin ng m = none) ∨ (m ≤ 1000000000000000 ∧ ng = true ∧ m = 0 ∧ fin ng m = none) ∨ (m ≤ 1000000000000000 ∧ fin ng m = some (sgn m ng) ∧ (ng = false ∨ (ng = true ∧ ((m : Int) == 0) = false))) := by
  by_cases h : m ≤ 1000000000000000
  · cases ng with
    | false => exact .inr (.inr ⟨h, fin_yes h rfl, .inl rfl⟩)
    | true =>
      by_cases hz : m = 0
      · subst hz; exact .inr (.inl ⟨h, rfl, rfl, rfl⟩)
      · exact .inr (.inr ⟨h, fin_yes h (by simp [hz]), .inr ⟨rfl, beq_eq_false_iff_ne.2 (by omega)⟩⟩)
  · exact .inl ⟨by omega, fin_big (by omega)⟩
theorem none_w : whV none = .tuple #[.int .u64 0, .bool false] := rfl
theorem some_w (n : Nat) : whV (some n) = .tuple #[.int .u64 (n : Int), .bool true] := rfl
theorem none_n : nvV none = .tuple #[.int .i64 0, .bool false] := rfl
theorem some_n (n : Int) : nvV (some n) = .tuple #[.int .i64 n, .bool true] := rfl
set_option maxHeartbeats 4000000 in
theorem dHun_any (s : ByteArray) (w : World) (hs : s.size ≤ 281474976710656) :
    Calls Tryz.prog 109 #[.string s] w fun e w' => e = .returned (nvV (hunR s.data.toList)) ∧ Below w.heap.size w w' := by
  have HS := hid (dsign_any s w hs)
  have HI := hid (show hunR s.data.toList = if ptd (bdy s.data.toList) && !(dg ((bdy s.data.toList).getD ((bdy s.data.toList).length - 2) 0) && dg ((bdy s.data.toList).getD ((bdy s.data.toList).length - 1) 0)) then none
      else match whR (hwh (bdy s.data.toList)) 1000000000000000 with
        | none => none
        | some n => fin (ngt s.data.toList) (n * 100 + hcs (bdy s.data.toList)) from rfl)
  have HBl := hid (show (bdy s.data.toList).length ≤ s.size by rw [← szL]; unfold bdy; split <;> simp)
  obtain ⟨I, hI⟩ : ∃ I, hunR s.data.toList = I := ⟨_, rfl⟩
  rw [hI] at HI ⊢
  obtain ⟨ng, hng⟩ : ∃ ng, ngt s.data.toList = ng := ⟨_, rfl⟩
  rw [hng] at HS HI
  obtain ⟨B, hB⟩ : ∃ B, bdy s.data.toList = B := ⟨_, rfl⟩
  rw [hB] at HS HI HBl
  clear hI hng hB
  go_enter Tryz.func109, Tryz.ntmps109
  go_wp2_with fail
  refine Calls.mono HS.out ?_
  rintro e w1 ⟨⟨t, rfl, ht⟩, hw⟩
  replace hw := hw.symm
  subst hw
  have HT := hid ht
  have HTl := hid (szL t)
  clear ht
  by_cases h3 : 3 ≤ t.size
  · obtain ⟨m, hm⟩ : ∃ m, t.size = m + 3 := ⟨t.size - 3, by omega⟩
    have hsz : (t.size : Int) = (m : Int) + 3 := by omega
    have q3 : (m : Int) + 3 - 3 = (m : Int) := by omega
    have q2 : (m : Int) + 3 - 2 = (m : Int) + 1 := by omega
    have q1 : (m : Int) + 3 - 1 = (m : Int) + 2 := by omega
    have hb : (m : Int) ≤ 281474976710656 := by
      have h1 := HTl.out
      rw [HT.out] at h1
      have := HBl.out
      omega
    have w3 : wrap64 (m : Int) = (m : Int) := wr64 (by omega) (by omega)
    have w2 : wrap64 ((m : Int) + 1) = (m : Int) + 1 := wr64 (by omega) (by omega)
    have w1 : wrap64 ((m : Int) + 2) = (m : Int) + 2 := wr64 (by omega) (by omega)
    have z2 : ((m : Int) + 1).toNat = m + 1 := by omega
    have z1 : ((m : Int) + 2).toNat = m + 2 := by omega
    have p2 : (0 : Int) ≤ (m : Int) + 1 := by omega
    have p1 : (0 : Int) ≤ (m : Int) + 2 := by omega
    have l3 : (m : Int) < (m : Int) + 3 := by omega
    have l2 : (m : Int) + 1 < (m : Int) + 3 := by omega
    have l1 : (m : Int) + 2 < (m : Int) + 3 := by omega
    have m3 : m < t.size := by omega
    have m2 : m + 1 < t.size := by omega
    have m1 : m + 2 < t.size := by omega
    have hge : (3 : Int) ≤ (m : Int) + 3 := by omega
    have HM := hid hm
    have HBm := hid (show B.length = m + 3 by rw [← HT.out, HTl.out, hm])
    clear h3 hm
    obtain ⟨x3, hx3⟩ : ∃ x : Nat, (t[m]'m3).toNat = x := ⟨_, rfl⟩
    obtain ⟨x2, hx2⟩ : ∃ x : Nat, (t[m + 1]'m2).toNat = x := ⟨_, rfl⟩
    obtain ⟨x1, hx1⟩ : ∃ x : Nat, (t[m + 2]'m1).toNat = x := ⟨_, rfl⟩
    have HG3 := hid (show B.getD (B.length - 3) 0 = t[m]'m3 by rw [HBm.out]; exact gd_at HT.out m3)
    have HG2 := hid (show B.getD (B.length - 2) 0 = t[m + 1]'m2 by rw [HBm.out]; exact gd_at HT.out m2)
    have HG1 := hid (show B.getD (B.length - 1) 0 = t[m + 2]'m1 by rw [HBm.out]; exact gd_at HT.out m1)
    have HX := hid (And.intro hx3 (And.intro hx2 hx1))
    by_cases h46 : x3 = 46
    · subst h46
      have HP := hid (show ptd B = true by
        unfold ptd
        rw [HG3.out, HBm.out, decide_eq_true (by omega)]
        have : t[m]'m3 = 46 := UInt8.toNat_inj.1 (by rw [HX.out.1]; rfl)
        rw [this]; rfl)
      by_cases g2 : 48 ≤ x2 ∧ x2 ≤ 57
      · have g2a : ¬ ((x2 : Int) < 48) := by omega
        have g2b : ¬ ((57 : Int) < (x2 : Int)) := by omega
        by_cases g1 : 48 ≤ x1 ∧ x1 ≤ 57
        · have g1a : ¬ ((x1 : Int) < 48) := by omega
          have g1b : ¬ ((57 : Int) < (x1 : Int)) := by omega
          obtain ⟨C, hC⟩ : ∃ C, (x2 - 48) * 10 + (x1 - 48) = C := ⟨_, rfl⟩
          have hCI : ((x2 : Int) - 48) * 10 + ((x1 : Int) - 48) = (C : Int) := by omega
          have hC9 : C ≤ 99 := by omega
          have v2 : ((x2 : Int) - 48) % 256 = (x2 : Int) - 48 := by omega
          have v1 : ((x1 : Int) - 48) % 256 = (x1 : Int) - 48 := by omega
          have HF := hid (show I = match whR (B.take m) 1000000000000000 with
            | none => none
            | some n => fin ng (n * 100 + C) by
              have d2 : dg (t[m + 1]'m2) = true := by simp [dg]; have := HX.out.2.1; omega
              have d1 : dg (t[m + 2]'m1) = true := by simp [dg]; have := HX.out.2.2; omega
              have e1 : hwh B = B.take m := by unfold hwh; rw [HP.out, HBm.out]; rfl
              have e2 : hcs B = C := by rw [hcs_two HT.out HM.out m2 m1 HP.out, HX.out.2.1, HX.out.2.2, hC]
              rw [HI.out, HP.out, HG2.out, HG1.out, d2, d1, e1, e2]; rfl)
          have HQ := hid (fun n (h : whR (B.take m) 1000000000000000 = some n) => whR_le h)
          have HW := hid (fun w => dwhole_any (t.extract 0 m) 1000000000000000 w (by rw [ByteArray.size_extract]; omega) (by omega) (by omega))
          rw [show (t.extract 0 m).data.toList = B.take m by rw [Lib.extract_data, HT.out]; simp] at HW
          obtain ⟨q, hq⟩ : ∃ q, whR (B.take m) 1000000000000000 = q := ⟨_, rfl⟩
          rw [hq] at HW HF HQ
          clear hq hC g2 g1
          go_wp2_with fail
          go_region
          all_goals
            go_wp2_with fail
            refine Calls.mono (HW.out _) ?_
            rintro e w1 ⟨rfl, hw⟩
            replace hw := hw.symm
            subst hw
            cases q with
            | none =>
              have HI2 := hid (show I = none from HF.out)
              rw [none_w]
              go_wp2
              go_ret2
              exact ⟨by rw [HI2.out, none_n]; rfl, (Below.refl _ _).drew⟩
            | some n =>
              have hle := HQ.out n rfl
              have HF2 := hid (show I = fin ng (n * 100 + C) from HF.out)
              rw [some_w]
              have hnl : n ≤ 1000000000000000 := hle
              obtain ⟨M, hM⟩ : ∃ M, n * 100 + C = M := ⟨_, rfl⟩
              have hMI : (n : Int) * 100 + (C : Int) = (M : Int) := by omega
              rw [hM] at HF2
              have HMn := hid hM
              clear hM
              rcases fin_cases ng M with ⟨hm, hf⟩ | ⟨hm, rfl, rfl, hf⟩ | ⟨hm, hf, hz⟩
              · have hmI : (1000000000000000 : Int) < (M : Int) := by omega
                have HI2 := hid (HF2.out.trans hf)
                clear hf hm hle
                go_wp2
                go_ret2
                exact ⟨by rw [HI2.out, none_n]; rfl, (Below.refl _ _).drew⟩
              · have hmI : ¬ (1000000000000000 : Int) < ((0 : Nat) : Int) := by omega
                have HI2 := hid (HF2.out.trans hf)
                clear hf hm hle
                go_wp2
                go_ret2
                exact ⟨by rw [HI2.out, none_n]; rfl, (Below.refl _ _).drew⟩
              · have hmI : ¬ (1000000000000000 : Int) < (M : Int) := by omega
                have HI2 := hid (HF2.out.trans hf)
                have HG := hid (fun w => dsigned_any M ng w (by omega) (fun _ => by omega))
                clear hf hm hle
                rcases hz with rfl | ⟨rfl, hz⟩
                all_goals
                  go_wp2_with fail
                  refine Calls.mono (HG.out _) ?_
                  rintro e w1 ⟨rfl, hw⟩
                  replace hw := hw.symm
                  subst hw
                  go_wp2
                  go_ret2
                  exact ⟨by rw [HI2.out, some_n]; rfl, (Below.refl _ _).drew⟩
        · have HI2 := hid (show I = none by
            have d1 : dg (t[m + 2]'m1) = false := by simp [dg]; have := HX.out.2.2; omega
            rw [HI.out, HP.out, HG2.out, HG1.out, d1, Bool.and_false]; rfl)
          have hc : (x1 : Int) < 48 ∨ (¬ (x1 : Int) < 48 ∧ (57 : Int) < (x1 : Int)) := by omega
          clear g1 g2
          rcases hc with hc | ⟨hc, hc2⟩
          all_goals
            go_wp2_with fail
            go_ret2
            exact ⟨by rw [HI2.out, none_n]; rfl, Below.refl _ _⟩
      · have HI2 := hid (show I = none by
          have d2 : dg (t[m + 1]'m2) = false := by simp [dg]; have := HX.out.2.1; omega
          rw [HI.out, HP.out, HG2.out, HG1.out, d2, Bool.false_and]; rfl)
        have hc : (x2 : Int) < 48 ∨ (¬ (x2 : Int) < 48 ∧ (57 : Int) < (x2 : Int)) := by omega
        clear g2
        rcases hc with hc | ⟨hc, hc2⟩
        all_goals
          go_wp2_with fail
          go_ret2
          exact ⟨by rw [HI2.out, none_n]; rfl, Below.refl _ _⟩
    · have h46b : ((x3 : Int) == 46) = false := beq_eq_false_iff_ne.2 (by omega)
      have hpt : ptd B = false := by
        unfold ptd
        rw [HG3.out]
        have : t[m]'m3 ≠ 46 := fun e => h46 (by rw [← HX.out.1, e]; rfl)
        simp [this]
      have HF := hid (show I = match whR B 1000000000000000 with
        | none => none
        | some n => fin ng (n * 100 + 0) by
          have e1 : hwh B = B := by unfold hwh; rw [hpt]; rfl
          have e2 : hcs B = 0 := by unfold hcs; rw [hpt]; rfl
          rw [HI.out, hpt, e1, e2]; rfl)
      have HQ := hid (fun n (h : whR B 1000000000000000 = some n) => whR_le h)
      have HW := hid (fun w => dwhole_any t 1000000000000000 w (by have := HBl.out; rw [← szL, HT.out]; omega) (by omega) (by omega))
      rw [HT.out] at HW
      obtain ⟨q, hq⟩ : ∃ q, whR B 1000000000000000 = q := ⟨_, rfl⟩
      rw [hq] at HW HF HQ
      clear hpt hq
      go_wp2_with fail
      refine Calls.mono (HW.out _) ?_
      rintro e w1 ⟨rfl, hw⟩
      replace hw := hw.symm
      subst hw
      cases q with
      | none =>
        have HI2 := hid (show I = none from HF.out)
        rw [none_w]
        go_wp2
        go_ret2
        exact ⟨by rw [HI2.out, none_n]; rfl, Below.refl _ _⟩
      | some n =>
        have hle := HQ.out n rfl
        have HF2 := hid (show I = fin ng (n * 100 + 0) from HF.out)
        rw [some_w]
        have hnl : n ≤ 1000000000000000 := hle
        obtain ⟨M, hM⟩ : ∃ M, n * 100 + 0 = M := ⟨_, rfl⟩
        have hMI : (n : Int) * 100 = (M : Int) := by omega
        rw [hM] at HF2
        have HMn := hid hM
        clear hM
        rcases fin_cases ng M with ⟨hm, hf⟩ | ⟨hm, rfl, rfl, hf⟩ | ⟨hm, hf, hz⟩
        · have hmI : (1000000000000000 : Int) < (M : Int) := by omega
          have HI2 := hid (HF2.out.trans hf)
          clear hf hm hle
          go_wp2
          go_ret2
          exact ⟨by rw [HI2.out, none_n]; rfl, Below.refl _ _⟩
        · have hmI : ¬ (1000000000000000 : Int) < ((0 : Nat) : Int) := by omega
          have HI2 := hid (HF2.out.trans hf)
          clear hf hm hle
          go_wp2
          go_ret2
          exact ⟨by rw [HI2.out, none_n]; rfl, Below.refl _ _⟩
        · have hmI : ¬ (1000000000000000 : Int) < (M : Int) := by omega
          have HI2 := hid (HF2.out.trans hf)
          have HG := hid (fun w => dsigned_any M ng w (by omega) (fun _ => by omega))
          clear hf hm hle
          rcases hz with rfl | ⟨rfl, hz⟩
          all_goals
            go_wp2_with fail
            refine Calls.mono (HG.out _) ?_
            rintro e w1 ⟨rfl, hw⟩
            replace hw := hw.symm
            subst hw
            go_wp2
            go_ret2
            exact ⟨by rw [HI2.out, some_n]; rfl, Below.refl _ _⟩
  · have hpt : ptd B = false := by
      unfold ptd
      rw [decide_eq_false (by rw [← HT.out, HTl.out]; omega)]; rfl
    have hlt : ¬ (3 : Int) ≤ (t.size : Int) := by omega
    have HF := hid (show I = match whR B 1000000000000000 with
      | none => none
      | some n => fin ng (n * 100 + 0) by
        have e1 : hwh B = B := by unfold hwh; rw [hpt]; rfl
        have e2 : hcs B = 0 := by unfold hcs; rw [hpt]; rfl
        rw [HI.out, hpt, e1, e2]; rfl)
    have HQ := hid (fun n (h : whR B 1000000000000000 = some n) => whR_le h)
    have HW := hid (fun w => dwhole_any t 1000000000000000 w (by have := HBl.out; rw [← szL, HT.out]; omega) (by omega) (by omega))
    rw [HT.out] at HW
    obtain ⟨q, hq⟩ : ∃ q, whR B 1000000000000000 = q := ⟨_, rfl⟩
    rw [hq] at HW HF HQ
    clear hpt hq
    go_wp2_with fail
    refine Calls.mono (HW.out _) ?_
    rintro e w1 ⟨rfl, hw⟩
    replace hw := hw.symm
    subst hw
    cases q with
    | none =>
      have HI2 := hid (show I = none from HF.out)
      rw [none_w]
      go_wp2
      go_ret2
      exact ⟨by rw [HI2.out, none_n]; rfl, Below.refl _ _⟩
    | some n =>
      have hle := HQ.out n rfl
      have HF2 := hid (show I = fin ng (n * 100 + 0) from HF.out)
      rw [some_w]
      have hnl : n ≤ 1000000000000000 := hle
      obtain ⟨M, hM⟩ : ∃ M, n * 100 + 0 = M := ⟨_, rfl⟩
      have hMI : (n : Int) * 100 = (M : Int) := by omega
      rw [hM] at HF2
      have HMn := hid hM
      clear hM
      rcases fin_cases ng M with ⟨hm, hf⟩ | ⟨hm, rfl, rfl, hf⟩ | ⟨hm, hf, hz⟩
      · have hmI : (1000000000000000 : Int) < (M : Int) := by omega
        have HI2 := hid (HF2.out.trans hf)
        clear hf hm hle
        go_wp2
        go_ret2
        exact ⟨by rw [HI2.out, none_n]; rfl, Below.refl _ _⟩
      · have hmI : ¬ (1000000000000000 : Int) < ((0 : Nat) : Int) := by omega
        have HI2 := hid (HF2.out.trans hf)
        clear hf hm hle
        go_wp2
        go_ret2
        exact ⟨by rw [HI2.out, none_n]; rfl, Below.refl _ _⟩
      · have hmI : ¬ (1000000000000000 : Int) < (M : Int) := by omega
        have HI2 := hid (HF2.out.trans hf)
        have HG := hid (fun w => dsigned_any M ng w (by omega) (fun _ => by omega))
        clear hf hm hle
        rcases hz with rfl | ⟨rfl, hz⟩
        all_goals
          go_wp2_with fail
          refine Calls.mono (HG.out _) ?_
          rintro e w1 ⟨rfl, hw⟩
          replace hw := hw.symm
          subst hw
          go_wp2
          go_ret2
          exact ⟨by rw [HI2.out, some_n]; rfl, Below.refl _ _⟩
end Go.Proofs.YtmgfdnccmeahjaaGreatDoor

namespace Go.Proofs.YtmgfdnccmeahjaaGreatDoor
open Go.RowKit
set_option maxRecDepth 100000
set_option linter.unusedVariables false
set_option linter.unusedSimpArgs false

/-- what the document's typed answers -/
def TdP (k : Nat) (r : Rd) (e : Ending) : Prop :=
  (r.1 = 0 ∧ ∃ t : ByteArray, t.data.toList = r.2.2.1 ∧ e = .returned (.tuple #[cellV k r.2.1 t, .int .i64 0, .int .i64 0])) ∨
  (r.1 ≠ 0 ∧ e = .returned (.tuple #[cellV 0 0 ⟨#[]⟩, .int .i64 (r.1 : Int), .int .i64 r.2.2.2]))
theorem results_c3 {fn : Func} {p q u : Tmp} (h : fn.results = #[.cell p 52, .tmp q, .tmp u]) (tmps : Array Value) (w : World) (g k : Nat) (n : Int) (t : ByteArray) (hp : tmps.getD p undef = .pointer (some ⟨g, 0, none⟩)) (h0 : w.cell? ⟨g, 0, none⟩ = some (.int .i64 (k : Int))) (h1 : w.cell? ⟨g, 1, none⟩ = some (.string t)) (h2 : w.cell? ⟨g, 2, none⟩ = some (.int .i64 n)) :
    (results fn tmps).run Tryz.prog w = .ok (.tuple #[cellV k n t, tmps.getD q undef, tmps.getD u undef]) w := by
  have hp' : tmps[p]?.getD undef = .pointer (some ⟨g, 0, none⟩) := by simpa using hp
  simp [results, h, hp', asAddr, go_sem, h0, h1, h2, cellV]
theorem td_close {fn : Func} {p q u : Tmp} {post : Ending → World → Prop} {tmps : Array Value} {W : World} {g k : Nat} {n : Int} {t : ByteArray} {cv ev : Value} (h : fn.results = #[.cell p 52, .tmp q, .tmp u]) (hp : tmps.getD p undef = .pointer (some ⟨g, 0, none⟩))
    (hW : W.heap[g]? = some (.cells #[.int .i64 (k : Int), .string t, .int .i64 n] 52 (0, 0))) (hq : tmps.getD q undef = cv) (hu : tmps.getD u undef = ev) (hpost : post (.returned (.tuple #[cellV k n t, cv, ev])) W) : bodyPost Tryz.prog fn post Exit.ret { tmps := tmps, defers := [] } W := by
  have c := Lib.cell_of_heap hW
  have := results_c3 (q := q) (u := u) h tmps W g k n t hp (c 0) (c 1) (c 2)
  rw [hq, hu] at this
  exact ⟨rfl, _, this, hpost⟩
theorem alloc_old {w : World} {g : Nat} {o : Obj} {x : _} (h : w.heap[g]? = some x) : (w.alloc o).heap[g]? = some x := ((Below.refl w.heap.size w).alloc (Nat.le_refl _) o).block g (Array.getElem?_eq_some_iff.1 h).1 |>.trans h
/-- typed's three structs -/
def W3 (k : Int) (w : World) : World := ((w.alloc (.cells #[.int .i64 0, .string ⟨#[]⟩, .int .i64 0] 52)).alloc (.cells #[.int .i64 k, .string ⟨#[]⟩, .int .i64 0] 52)).alloc (.cells #[.int .i64 0, .int .i64 0, .int .i64 0] 187)
/-- the three structs' blocks -/
abbrev X3 (k : Int) (w W : World) : Prop := Below w.heap.size w W ∧ W.heap[w.heap.size]? = some (.cells #[.int .i64 0, .string ⟨#[]⟩, .int .i64 0] 52 (0, 0)) ∧ W.heap[w.heap.size + 1]? = some (.cells #[.int .i64 k, .string ⟨#[]⟩, .int .i64 0] 52 (0, 0)) ∧ W.heap[w.heap.size + 1 + 1]? = some (.cells #[.int .i64 0, .int .i64 0, .int .i64 0] 187 (0, 0))
theorem X3.step {k : Int} {w W w2 : World} (h : X3 k w W) (hb : Below W.heap.size W w2) : X3 k w w2 :=
  ⟨h.1.trans (hb.mono h.1.size), (hb.block _ (Array.getElem?_eq_some_iff.1 h.2.1).1).trans h.2.1, (hb.block _ (Array.getElem?_eq_some_iff.1 h.2.2.1).1).trans h.2.2.1, (hb.block _ (Array.getElem?_eq_some_iff.1 h.2.2.2).1).trans h.2.2.2⟩
theorem set_old {w : World} {g g1 o : Nat} {v : Value} {x : _} (h : w.heap[g]? = some x) (hne : g1 ≠ g) : (w.setCell ⟨g1, o, none⟩ v).heap[g]? = some x := by
  rw [heap_setCell_other _ _ _ _ (fun e => hne e.symm)]; exact h
abbrev Y3 (k : Int) (w W : World) : Prop := Below w.heap.size w W ∧ W.heap[w.heap.size]? = some (.cells #[.int .i64 0, .string ⟨#[]⟩, .int .i64 0] 52 (0, 0)) ∧ W.heap[w.heap.size + 1]? = some (.cells #[.int .i64 k, .string ⟨#[]⟩, .int .i64 0] 52 (0, 0)) ∧ True
theorem Y3.step {k : Int} {w W w2 : World} (h : Y3 k w W) (hb : Below W.heap.size W w2) : Y3 k w w2 :=
  ⟨h.1.trans (hb.mono h.1.size), (hb.block _ (Array.getElem?_eq_some_iff.1 h.2.1).1).trans h.2.1, (hb.block _ (Array.getElem?_eq_some_iff.1 h.2.2.1).1).trans h.2.2.1, trivial⟩
theorem X3.dset {k : Int} {w W : World} (h : X3 k w W) (y m d : Value) : Y3 k w (((W.setCell ⟨w.heap.size + 1 + 1, 0, none⟩ y).setCell ⟨w.heap.size + 1 + 1, 1, none⟩ m).setCell ⟨w.heap.size + 1 + 1, 2, none⟩ d) :=
  ⟨below3 h.1 (by omega) _ _ _, set_old (set_old (set_old h.2.1 (by omega)) (by omega)) (by omega), set_old (set_old (set_old h.2.2.1 (by omega)) (by omega)) (by omega), trivial⟩
theorem W3_is (k : Int) (w : World) : X3 k w (W3 k w) := by
  have h1 := heap_alloc_new w (.cells #[.int .i64 0, .string ⟨#[]⟩, .int .i64 0] 52)
  have b1 := (Below.refl w.heap.size w).alloc (Nat.le_refl _) (.cells #[.int .i64 0, .string ⟨#[]⟩, .int .i64 0] 52)
  have s1 : (w.alloc (.cells #[.int .i64 0, .string ⟨#[]⟩, .int .i64 0] 52)).heap.size = w.heap.size + 1 := by simp [go_sem]
  unfold W3
  generalize w.alloc (.cells #[.int .i64 0, .string ⟨#[]⟩, .int .i64 0] 52) = w1 at h1 b1 s1
  have h2 := heap_alloc_new w1 (.cells #[.int .i64 k, .string ⟨#[]⟩, .int .i64 0] 52)
  have h12 := alloc_old (o := (.cells #[.int .i64 k, .string ⟨#[]⟩, .int .i64 0] 52)) h1
  have b2 := b1.alloc b1.size (.cells #[.int .i64 k, .string ⟨#[]⟩, .int .i64 0] 52)
  have s2 : (w1.alloc (.cells #[.int .i64 k, .string ⟨#[]⟩, .int .i64 0] 52)).heap.size = w.heap.size + 1 + 1 := by simp [go_sem]; omega
  rw [s1] at h2
  generalize w1.alloc (.cells #[.int .i64 k, .string ⟨#[]⟩, .int .i64 0] 52) = w2 at h2 h12 b2 s2
  have h3 := heap_alloc_new w2 (.cells #[.int .i64 0, .int .i64 0, .int .i64 0] 187)
  rw [s2] at h3
  exact ⟨b2.alloc b2.size _, alloc_old h12, alloc_old h2, h3⟩
set_option maxHeartbeats 1000000 in
theorem dtyped1_any (s : ByteArray) (w : World) :
    Calls Tryz.prog 75 #[.string s, .int .i64 1] w fun e w' => TdP 1 (0, 0, s.data.toList, 0) e ∧ Below w.heap.size w w' := by
  obtain ⟨W, hW⟩ : ∃ W, W3 1 w = W := ⟨_, rfl⟩
  have HX := hid (W3_is 1 w)
  rw [hW] at HX
  unfold W3 at hW
  have HWw := hid hW
  clear hW
  go_enter Tryz.func75, Tryz.ntmps75
  go_wp2
  exact td_close (k := 1) (g := w.heap.size) rfl rfl (alloc_old (alloc_old (heap_alloc_new w _))) rfl rfl ⟨.inl ⟨rfl, s, rfl, rfl⟩, (((Below.refl w.heap.size w).alloc (Nat.le_refl _) _).alloc (by simp [go_sem]) _).alloc (by simp [go_sem]; omega) _⟩
set_option maxHeartbeats 1000000 in
theorem dtyped2_any (s : ByteArray) (w : World) (hs : s.size ≤ 281474976710656) :
    Calls Tryz.prog 75 #[.string s, .int .i64 2] w fun e w' => TdP 2 (rdInt s.data.toList) e ∧ Below w.heap.size w w' := by
  obtain ⟨W, hW⟩ : ∃ W, W3 2 w = W := ⟨_, rfl⟩
  have HX := hid (W3_is 2 w)
  rw [hW] at HX
  unfold W3 at hW
  have HWw := hid hW
  clear hW
  have HC := hid (dInt_any s W hs)
  have HR := hid (show rdInt s.data.toList = match intR s.data.toList with | some v => (0, v, [], 0) | none => (14, 0, [], 0) from rfl)
  obtain ⟨I, hI⟩ : ∃ I, intR s.data.toList = I := ⟨_, rfl⟩
  rw [hI] at HC HR
  clear hI
  cases I with
  | none =>
    have HR2 := hid (show rdInt s.data.toList = (14, 0, [], 0) from HR.out)
    rw [show nvV none = .tuple #[.int .i64 0, .bool false] from rfl] at HC
    clear HR
    go_enter Tryz.func75, Tryz.ntmps75
    go_wp2_with fail
    rw [HWw.out]
    refine Calls.mono HC.out ?_
    rintro e w2 ⟨rfl, hw⟩
    replace hw := hw.symm
    subst hw
    have HX2 := hid HX.out
    have cx := Lib.cell_of_heap HX2.out.2.1
    have x0 := cx 0
    have x1 := cx 1
    have x2 := cx 2
    have fx := Lib.frozen_of_heap HX2.out.2.1
    have f0 := fx 0
    have f1 := fx 1
    have f2 := fx 2
    have cy := Lib.cell_of_heap HX2.out.2.2.1
    have y0 := cy 0
    have y1 := cy 1
    have y2 := cy 2
    have fy := Lib.frozen_of_heap HX2.out.2.2.1
    have g0 := fy 0
    have g1 := fy 1
    have g2 := fy 2
    have ne1 : ¬ (w.heap.size = w.heap.size + 1) := by omega
    have ne2 : ¬ (w.heap.size + 1 = w.heap.size) := by omega
    clear cx fx cy fy
    go_wp2
    exact td_close (k := 0) (g := w.heap.size) rfl rfl (put3 (set_old HX2.out.2.1 (by omega)) _ _ _) rfl rfl ⟨.inr ⟨by rw [HR2.out]; exact (by decide : (14 : Nat) ≠ 0), by rw [HR2.out]; rfl⟩, below3 (Below.setCell HX2.out.1 (by simp <;> omega) _) (Nat.le_refl _) _ _ _⟩
  | some v =>
    have HR2 := hid (show rdInt s.data.toList = (0, v, [], 0) from HR.out)
    rw [show nvV (some v) = .tuple #[.int .i64 v, .bool true] from rfl] at HC
    clear HR
    go_enter Tryz.func75, Tryz.ntmps75
    go_wp2_with fail
    rw [HWw.out]
    refine Calls.mono HC.out ?_
    rintro e w2 ⟨rfl, hw⟩
    replace hw := hw.symm
    subst hw
    have HX2 := hid HX.out
    have cx := Lib.cell_of_heap HX2.out.2.1
    have x0 := cx 0
    have x1 := cx 1
    have x2 := cx 2
    have fx := Lib.frozen_of_heap HX2.out.2.1
    have f0 := fx 0
    have f1 := fx 1
    have f2 := fx 2
    have cy := Lib.cell_of_heap HX2.out.2.2.1
    have y0 := cy 0
    have y1 := cy 1
    have y2 := cy 2
    have fy := Lib.frozen_of_heap HX2.out.2.2.1
    have g0 := fy 0
    have g1 := fy 1
    have g2 := fy 2
    have ne1 : ¬ (w.heap.size = w.heap.size + 1) := by omega
    have ne2 : ¬ (w.heap.size + 1 = w.heap.size) := by omega
    clear cx fx cy fy
    go_wp2
    exact td_close (k := 2) (g := w.heap.size) rfl rfl (put3 (set_old HX2.out.2.1 (by omega)) _ _ _) rfl rfl ⟨.inl ⟨by rw [HR2.out], ⟨#[]⟩, by rw [HR2.out], by rw [HR2.out]; rfl⟩, below3 (Below.setCell HX2.out.1 (by simp <;> omega) _) (Nat.le_refl _) _ _ _⟩
set_option maxHeartbeats 1000000 in
theorem dtyped3_any (s : ByteArray) (w : World) (hs : s.size ≤ 281474976710656) :
    Calls Tryz.prog 75 #[.string s, .int .i64 3] w fun e w' => TdP 3 (rdCents s.data.toList) e ∧ Below w.heap.size w w' := by
  obtain ⟨W, hW⟩ : ∃ W, W3 3 w = W := ⟨_, rfl⟩
  have HX := hid (W3_is 3 w)
  rw [hW] at HX
  unfold W3 at hW
  have HWw := hid hW
  clear hW
  have HC := hid (dHun_any s W hs)
  have HR := hid (show rdCents s.data.toList = match hunR s.data.toList with | some v => (0, v, [], 0) | none => (15, 0, [], 0) from by rw [← centR_is]; rfl)
  obtain ⟨I, hI⟩ : ∃ I, hunR s.data.toList = I := ⟨_, rfl⟩
  rw [hI] at HC HR
  clear hI
  cases I with
  | none =>
    have HR2 := hid (show rdCents s.data.toList = (15, 0, [], 0) from HR.out)
    rw [show nvV none = .tuple #[.int .i64 0, .bool false] from rfl] at HC
    clear HR
    go_enter Tryz.func75, Tryz.ntmps75
    go_wp2_with fail
    rw [HWw.out]
    refine Calls.mono HC.out ?_
    rintro e w2 ⟨rfl, hw⟩
    have HX2 := hid (HX.out.step hw)
    clear hw
    have cx := Lib.cell_of_heap HX2.out.2.1
    have x0 := cx 0
    have x1 := cx 1
    have x2 := cx 2
    have fx := Lib.frozen_of_heap HX2.out.2.1
    have f0 := fx 0
    have f1 := fx 1
    have f2 := fx 2
    have cy := Lib.cell_of_heap HX2.out.2.2.1
    have y0 := cy 0
    have y1 := cy 1
    have y2 := cy 2
    have fy := Lib.frozen_of_heap HX2.out.2.2.1
    have g0 := fy 0
    have g1 := fy 1
    have g2 := fy 2
    have ne1 : ¬ (w.heap.size = w.heap.size + 1) := by omega
    have ne2 : ¬ (w.heap.size + 1 = w.heap.size) := by omega
    clear cx fx cy fy
    go_wp2
    exact td_close (k := 0) (g := w.heap.size) rfl rfl (put3 (set_old HX2.out.2.1 (by omega)) _ _ _) rfl rfl ⟨.inr ⟨by rw [HR2.out]; exact (by decide : (15 : Nat) ≠ 0), by rw [HR2.out]; rfl⟩, below3 (Below.setCell HX2.out.1 (by simp <;> omega) _) (Nat.le_refl _) _ _ _⟩
  | some v =>
    have HR2 := hid (show rdCents s.data.toList = (0, v, [], 0) from HR.out)
    rw [show nvV (some v) = .tuple #[.int .i64 v, .bool true] from rfl] at HC
    clear HR
    go_enter Tryz.func75, Tryz.ntmps75
    go_wp2_with fail
    rw [HWw.out]
    refine Calls.mono HC.out ?_
    rintro e w2 ⟨rfl, hw⟩
    have HX2 := hid (HX.out.step hw)
    clear hw
    have cx := Lib.cell_of_heap HX2.out.2.1
    have x0 := cx 0
    have x1 := cx 1
    have x2 := cx 2
    have fx := Lib.frozen_of_heap HX2.out.2.1
    have f0 := fx 0
    have f1 := fx 1
    have f2 := fx 2
    have cy := Lib.cell_of_heap HX2.out.2.2.1
    have y0 := cy 0
    have y1 := cy 1
    have y2 := cy 2
    have fy := Lib.frozen_of_heap HX2.out.2.2.1
    have g0 := fy 0
    have g1 := fy 1
    have g2 := fy 2
    have ne1 : ¬ (w.heap.size = w.heap.size + 1) := by omega
    have ne2 : ¬ (w.heap.size + 1 = w.heap.size) := by omega
    clear cx fx cy fy
    go_wp2
    exact td_close (k := 3) (g := w.heap.size) rfl rfl (put3 (set_old HX2.out.2.1 (by omega)) _ _ _) rfl rfl ⟨.inl ⟨by rw [HR2.out], ⟨#[]⟩, by rw [HR2.out], by rw [HR2.out]; rfl⟩, below3 (Below.setCell HX2.out.1 (by simp <;> omega) _) (Nat.le_refl _) _ _ _⟩
set_option maxHeartbeats 1000000 in
theorem dtyped5_any (s : ByteArray) (w : World) (hs : s.size ≤ 281474976710656) :
    Calls Tryz.prog 75 #[.string s, .int .i64 5] w fun e w' => TdP 5 (rdCode s.data.toList) e ∧ Below w.heap.size w w' := by
  obtain ⟨W, hW⟩ : ∃ W, W3 5 w = W := ⟨_, rfl⟩
  have HX := hid (W3_is 5 w)
  rw [hW] at HX
  unfold W3 at hW
  have HWw := hid hW
  clear hW
  have HC := hid (refNormal_any s W)
  have HR := hid (show rdCode s.data.toList = if nrmE s.data.toList = 0 then (0, 0, nrmT s.data.toList, 0) else (17, 0, [], nrmE s.data.toList) from rfl)
  obtain ⟨E, hE⟩ : ∃ E, nrmE s.data.toList = E := ⟨_, rfl⟩
  obtain ⟨T, hT⟩ : ∃ T, nrmT s.data.toList = T := ⟨_, rfl⟩
  rw [hE, hT] at HC HR
  clear hE hT
  by_cases hE : E = 0
  · have HR2 := hid (show rdCode s.data.toList = (0, 0, T, 0) by rw [HR.out, if_pos hE])
    subst hE
    clear HR
    go_enter Tryz.func75, Tryz.ntmps75
    go_wp2_with fail
    rw [HWw.out]
    refine Calls.mono HC.out ?_
    rintro e w2 ⟨rfl, hw⟩
    replace hw := hw.symm
    subst hw
    have HX2 := hid HX.out
    have cx := Lib.cell_of_heap HX2.out.2.1
    have x0 := cx 0
    have x1 := cx 1
    have x2 := cx 2
    have fx := Lib.frozen_of_heap HX2.out.2.1
    have f0 := fx 0
    have f1 := fx 1
    have f2 := fx 2
    have cy := Lib.cell_of_heap HX2.out.2.2.1
    have y0 := cy 0
    have y1 := cy 1
    have y2 := cy 2
    have fy := Lib.frozen_of_heap HX2.out.2.2.1
    have g0 := fy 0
    have g1 := fy 1
    have g2 := fy 2
    have ne1 : ¬ (w.heap.size = w.heap.size + 1) := by omega
    have ne2 : ¬ (w.heap.size + 1 = w.heap.size) := by omega
    clear cx fx cy fy
    go_wp2
    exact td_close (k := 5) (g := w.heap.size) rfl rfl (put3 (set_old HX2.out.2.1 (by omega)) _ _ _) rfl rfl ⟨.inl ⟨by rw [HR2.out], ⟨T.toArray⟩, by rw [HR2.out], by rw [HR2.out]; rfl⟩, below3 (Below.setCell HX2.out.1 (by simp <;> omega) _) (Nat.le_refl _) _ _ _⟩
  · have HR2 := hid (show rdCode s.data.toList = (17, 0, [], E) by rw [HR.out, if_neg hE])
    have hEb : (E == 0) = false := beq_eq_false_iff_ne.2 hE
    have hEc : (E != 0) = true := bne_iff_ne.2 hE
    clear HR
    go_enter Tryz.func75, Tryz.ntmps75
    go_wp2_with fail
    rw [HWw.out]
    refine Calls.mono HC.out ?_
    rintro e w2 ⟨rfl, hw⟩
    replace hw := hw.symm
    subst hw
    have HX2 := hid HX.out
    have cx := Lib.cell_of_heap HX2.out.2.1
    have x0 := cx 0
    have x1 := cx 1
    have x2 := cx 2
    have fx := Lib.frozen_of_heap HX2.out.2.1
    have f0 := fx 0
    have f1 := fx 1
    have f2 := fx 2
    have cy := Lib.cell_of_heap HX2.out.2.2.1
    have y0 := cy 0
    have y1 := cy 1
    have y2 := cy 2
    have fy := Lib.frozen_of_heap HX2.out.2.2.1
    have g0 := fy 0
    have g1 := fy 1
    have g2 := fy 2
    have ne1 : ¬ (w.heap.size = w.heap.size + 1) := by omega
    have ne2 : ¬ (w.heap.size + 1 = w.heap.size) := by omega
    clear cx fx cy fy
    go_wp2
    exact td_close (k := 0) (g := w.heap.size) rfl rfl (put3 (set_old HX2.out.2.1 (by omega)) _ _ _) rfl rfl ⟨.inr ⟨by rw [HR2.out]; exact (by decide : (17 : Nat) ≠ 0), by rw [HR2.out]; rfl⟩, below3 (Below.setCell HX2.out.1 (by simp <;> omega) _) (Nat.le_refl _) _ _ _⟩
theorem eqq_yes (s : ByteArray) (L : List UInt8) : (s.toList == L) = decide (s.data.toList = L) := by
  rw [ByteArray.toList_eq]
  by_cases h : s.data.toList = L
  · rw [decide_eq_true h]; simpa using h
  · rw [decide_eq_false h]; simpa using h
set_option maxHeartbeats 1000000 in
theorem dtyped6_any (s : ByteArray) (w : World) :
    Calls Tryz.prog 75 #[.string s, .int .i64 6] w fun e w' => TdP 6 (rdYes s.data.toList) e ∧ Below w.heap.size w w' := by
  have HR := hid (show rdYes s.data.toList = if s.data.toList = [121, 101, 115] then (0, 1, [], 0) else if s.data.toList = [110, 111] then (0, 0, [], 0) else (18, 0, [], 0) from rfl)
  have e1 := eqq_yes s [121, 101, 115]
  have e2 := eqq_yes s [110, 111]
  have e3 : (s.toList != [121, 101, 115]) = !decide (s.data.toList = [121, 101, 115]) := by rw [bne, e1]
  have e4 : (s.toList != [110, 111]) = !decide (s.data.toList = [110, 111]) := by rw [bne, e2]
  by_cases h1 : s.data.toList = [121, 101, 115]
  · rw [decide_eq_true h1] at e1 e3
    have HR2 := hid (show rdYes s.data.toList = (0, 1, [], 0) by rw [HR.out, if_pos h1])
    clear e2 e4 h1 HR
    go_enter Tryz.func75, Tryz.ntmps75
    go_wp2
    exact td_close (k := 6) (g := w.heap.size) rfl rfl (alloc_old (alloc_old (heap_alloc_new w _))) rfl rfl ⟨.inl ⟨by rw [HR2.out], ⟨#[]⟩, by rw [HR2.out], by rw [HR2.out]; rfl⟩, (((Below.refl w.heap.size w).alloc (Nat.le_refl _) _).alloc (by simp [go_sem]) _).alloc (by simp [go_sem]; omega) _⟩
  · rw [decide_eq_false h1] at e1 e3
    by_cases h2 : s.data.toList = [110, 111]
    · rw [decide_eq_true h2] at e2 e4
      have HR2 := hid (show rdYes s.data.toList = (0, 0, [], 0) by rw [HR.out, if_neg h1, if_pos h2])
      clear h1 h2 HR
      go_enter Tryz.func75, Tryz.ntmps75
      go_wp2
      exact td_close (k := 6) (g := w.heap.size) rfl rfl (alloc_old (alloc_old (heap_alloc_new w _))) rfl rfl ⟨.inl ⟨by rw [HR2.out], ⟨#[]⟩, by rw [HR2.out], by rw [HR2.out]; rfl⟩, (((Below.refl w.heap.size w).alloc (Nat.le_refl _) _).alloc (by simp [go_sem]) _).alloc (by simp [go_sem]; omega) _⟩
    · rw [decide_eq_false h2] at e2 e4
      have HR2 := hid (show rdYes s.data.toList = (18, 0, [], 0) by rw [HR.out, if_neg h1, if_neg h2])
      clear h1 h2 HR
      go_enter Tryz.func75, Tryz.ntmps75
      go_wp2
      exact td_close (k := 0) (g := w.heap.size) rfl rfl (alloc_old (alloc_old (heap_alloc_new w _))) rfl rfl ⟨.inr ⟨by rw [HR2.out]; exact (by decide : (18 : Nat) ≠ 0), by rw [HR2.out]; rfl⟩, (((Below.refl w.heap.size w).alloc (Nat.le_refl _) _).alloc (by simp [go_sem]) _).alloc (by simp [go_sem]; omega) _⟩
set_option maxHeartbeats 1000000 in
theorem dtyped4_any (s : ByteArray) (y m d e p : Int) (w : World)
    (hP : ∀ w, Calls Tryz.prog 110 #[.string s] w fun x w' => x = .returned (rT y m d e p) ∧ Below w.heap.size w w') :
    Calls Tryz.prog 75 #[.string s, .int .i64 4] w fun x w' => TdP 4 (rdDate y m d e) x ∧ Below w.heap.size w w' := by
  obtain ⟨W, hW⟩ : ∃ W, W3 4 w = W := ⟨_, rfl⟩
  have HX := hid (W3_is 4 w)
  rw [hW] at HX
  unfold W3 at hW
  have HWw := hid hW
  clear hW
  have HC := hid (hP W)
  have HD := hid (fun w => refDays_any y m d w)
  have HR := hid (show rdDate y m d e = if e = 0 then (0, (if VD y m d then nb y m d else 0), [], 0) else (16, 0, [], e) from rfl)
  obtain ⟨N, hN⟩ : ∃ N, (if VD y m d then nb y m d else 0) = N := ⟨_, rfl⟩
  obtain ⟨M, hM⟩ : ∃ M : Int, (if VD y m d then 0 else 30) = M := ⟨_, rfl⟩
  rw [hN, hM] at HD
  rw [hN] at HR
  clear hN hM hP
  unfold rT dV at HC
  unfold dV at HD
  by_cases hE : e = 0
  · have HR2 := hid (show rdDate y m d e = (0, N, [], 0) by rw [HR.out, if_pos hE])
    subst hE
    clear HR
    go_enter Tryz.func75, Tryz.ntmps75
    go_wp2_with fail
    rw [HWw.out]
    refine Calls.mono HC.out ?_
    rintro e w2 ⟨rfl, hw⟩
    have HX2 := hid (HX.out.step hw)
    clear hw
    have cx := Lib.cell_of_heap HX2.out.2.1
    have x0 := cx 0
    have x1 := cx 1
    have x2 := cx 2
    have fx := Lib.frozen_of_heap HX2.out.2.1
    have f0 := fx 0
    have f1 := fx 1
    have f2 := fx 2
    have cy := Lib.cell_of_heap HX2.out.2.2.1
    have y0 := cy 0
    have y1 := cy 1
    have y2 := cy 2
    have fy := Lib.frozen_of_heap HX2.out.2.2.1
    have g0 := fy 0
    have g1 := fy 1
    have g2 := fy 2
    have ne1 : ¬ (w.heap.size = w.heap.size + 1) := by omega
    have ne2 : ¬ (w.heap.size + 1 = w.heap.size) := by omega
    clear cx fx cy fy
    have cz := Lib.cell_of_heap HX2.out.2.2.2
    have u0 := cz 0
    have u1 := cz 1
    have u2 := cz 2
    have fz := Lib.frozen_of_heap HX2.out.2.2.2
    have v0 := fz 0
    have v1 := fz 1
    have v2 := fz 2
    have ne3 : ¬ (w.heap.size = w.heap.size + 1 + 1) := by omega
    have ne4 : ¬ (w.heap.size + 1 + 1 = w.heap.size) := by omega
    have ne5 : ¬ (w.heap.size + 1 = w.heap.size + 1 + 1) := by omega
    have ne6 : ¬ (w.heap.size + 1 + 1 = w.heap.size + 1) := by omega
    clear cz fz
    go_wp2_with fail
    refine Calls.mono (HD.out _) ?_
    rintro e w3 ⟨rfl, hw⟩
    have HX3 := hid ((HX2.out.dset (.int .i64 y) (.int .i64 m) (.int .i64 d)).step hw)
    clear hw x0 x1 x2 f0 f1 f2 y0 y1 y2 g0 g1 g2 u0 u1 u2 v0 v1 v2
    have cx := Lib.cell_of_heap HX3.out.2.1
    have x0 := cx 0
    have x1 := cx 1
    have x2 := cx 2
    have fx := Lib.frozen_of_heap HX3.out.2.1
    have f0 := fx 0
    have f1 := fx 1
    have f2 := fx 2
    have cy := Lib.cell_of_heap HX3.out.2.2.1
    have y0 := cy 0
    have y1 := cy 1
    have y2 := cy 2
    have fy := Lib.frozen_of_heap HX3.out.2.2.1
    have g0 := fy 0
    have g1 := fy 1
    have g2 := fy 2
    have ne1 : ¬ (w.heap.size = w.heap.size + 1) := by omega
    have ne2 : ¬ (w.heap.size + 1 = w.heap.size) := by omega
    clear cx fx cy fy
    go_wp2
    exact td_close (k := 4) (g := w.heap.size) rfl rfl (put3 (set_old HX3.out.2.1 (by omega)) _ _ _) rfl rfl ⟨.inl ⟨by rw [HR2.out], ⟨#[]⟩, by rw [HR2.out], by rw [HR2.out]; rfl⟩, below3 (Below.setCell HX3.out.1 (by simp <;> omega) _) (Nat.le_refl _) _ _ _⟩
  · have HR2 := hid (show rdDate y m d e = (16, 0, [], e) by rw [HR.out, if_neg hE])
    have hEb : (e == 0) = false := beq_eq_false_iff_ne.2 hE
    have hEc : (e != 0) = true := bne_iff_ne.2 hE
    clear HR
    go_enter Tryz.func75, Tryz.ntmps75
    go_wp2_with fail
    rw [HWw.out]
    refine Calls.mono HC.out ?_
    rintro e w2 ⟨rfl, hw⟩
    have HX2 := hid (HX.out.step hw)
    clear hw
    have cx := Lib.cell_of_heap HX2.out.2.1
    have x0 := cx 0
    have x1 := cx 1
    have x2 := cx 2
    have fx := Lib.frozen_of_heap HX2.out.2.1
    have f0 := fx 0
    have f1 := fx 1
    have f2 := fx 2
    have cy := Lib.cell_of_heap HX2.out.2.2.1
    have y0 := cy 0
    have y1 := cy 1
    have y2 := cy 2
    have fy := Lib.frozen_of_heap HX2.out.2.2.1
    have g0 := fy 0
    have g1 := fy 1
    have g2 := fy 2
    have ne1 : ¬ (w.heap.size = w.heap.size + 1) := by omega
    have ne2 : ¬ (w.heap.size + 1 = w.heap.size) := by omega
    clear cx fx cy fy
    have cz := Lib.cell_of_heap HX2.out.2.2.2
    have u0 := cz 0
    have u1 := cz 1
    have u2 := cz 2
    have fz := Lib.frozen_of_heap HX2.out.2.2.2
    have v0 := fz 0
    have v1 := fz 1
    have v2 := fz 2
    have ne3 : ¬ (w.heap.size = w.heap.size + 1 + 1) := by omega
    have ne4 : ¬ (w.heap.size + 1 + 1 = w.heap.size) := by omega
    have ne5 : ¬ (w.heap.size + 1 = w.heap.size + 1 + 1) := by omega
    have ne6 : ¬ (w.heap.size + 1 + 1 = w.heap.size + 1) := by omega
    clear cz fz
    go_wp2
    exact td_close (k := 0) (g := w.heap.size) rfl rfl (put3 (set_old (set_old (set_old HX2.out.2.1 (by omega)) (by omega)) (by omega)) _ _ _) rfl rfl ⟨.inr ⟨by rw [HR2.out]; exact (by decide : (16 : Nat) ≠ 0), by rw [HR2.out]; rfl⟩, below3 (Below.setCell (Below.setCell (Below.setCell HX2.out.1 (by simp <;> omega) _) (by simp <;> omega) _) (by simp <;> omega) _) (Nat.le_refl _) _ _ _⟩
end Go.Proofs.YtmgfdnccmeahjaaGreatDoor
