/-
  The document's own held, beside, lonely, char.
-/
import Derived.Test.YtjmpkogjilefnaaDoorPrM
namespace Go.Proofs.YtjmpkogjilefnaaDoor
open Go.RowKit
set_option maxRecDepth 100000

set_option maxHeartbeats 1000000 in
theorem held_any (v : Value) (L : List El) (a : ByteArray) (w : World) (hr : RE w v L) (hl : L.length ≤ 9223372036854775000) :
    Calls Tryd.prog 58 #[v, .string a] w fun e w' => e = .returned (.bool (hsB L a.data.toList)) ∧ w' = w := by
  have HL := hid hl
  clear hl
  rcases hr with ⟨rfl, ao, cap, rfl, _⟩ | ⟨b, off, cap, rfl, hcap, hcell⟩
  · go_enter Tryd.func58, Tryd.ntmps58
    go_wp2_with fail
    go_rounds 1
    go_ret
    exact ⟨rfl, rfl⟩
  · have HC := hid hcell
    clear hcell
    go_enter Tryd.func58, Tryd.ntmps58
    go_wp2_with fail
    go_loop [5] (fun i => ∃ k : Nat, k ≤ L.length ∧ i = .int .i64 (k : Int) ∧ ∀ j (hj : j < k) (hk : k ≤ L.length), (L[j]'(by omega)).1.data.toList ≠ a.data.toList) (fun i => L.length - (intOf i).toNat)
    case atStart => exact ⟨0, by omega, rfl, fun j hj => by omega⟩
    case round =>
      obtain ⟨k, hk, rfl, hall⟩ := hrel
      have HA := hid hall
      clear hall
      by_cases hlt : k < L.length
      · have hcl := HC.out k hlt
        have c0 := hcl.1
        have c1 := hcl.2
        have hl := HL.out
        clear hcl
        by_cases he : (L[k]'hlt).1.data.toList = a.data.toList
        · have hb : ((L[k]'hlt).1.toList == a.toList) = true := by rw [ByteArray.toList_eq, ByteArray.toList_eq, he]; simp
          go_wp2
          go_ret
          refine ⟨ret_bool ?_, rfl⟩
          unfold hsB
          rw [plc_some hlt (fun i hi => HA.out i hi hk) he]
          simp
        · have hb : ((L[k]'hlt).1.toList == a.toList) = false := by rw [ByteArray.toList_eq, ByteArray.toList_eq]; exact beq_eq_false_iff_ne.2 he
          go_wp2
          go_round
          case rel =>
            refine ⟨k + 1, by omega, by go_num, fun j hj hk1 => ?_⟩
            by_cases e : j = k
            · subst e; exact he
            · exact HA.out j (by omega) (by omega)
          case measure => simp [intOf]; omega
      · go_wp2
        go_ret
        refine ⟨ret_bool ?_, rfl⟩
        unfold hsB
        rw [plc_none fun x hx => ?_]
        · rfl
        · obtain ⟨i, hi, rfl⟩ := List.mem_iff_getElem.1 hx
          exact HA.out i (by omega) hk

set_option maxHeartbeats 1000000 in
theorem beside_any (v : Value) (L : List El) (a : ByteArray) (w : World) (hr : RE w v L) (hl : L.length ≤ 9223372036854775000) :
    Calls Tryd.prog 33 #[v, .string a] w fun e w' => e = .returned (.int .i64 (clE L a.data.toList)) ∧ w' = w := by
  have H0 := hid (held_any v L a w hr hl)
  have H1 := hid (show Calls Tryd.prog 58 #[v, .string ⟨#[48, 49]⟩] w fun e w' => e = .returned (.bool (hsB L [48, 49])) ∧ w' = w from held_any v L ⟨#[48, 49]⟩ w hr hl)
  have H2 := hid (show Calls Tryd.prog 58 #[v, .string ⟨#[48, 50]⟩] w fun e w' => e = .returned (.bool (hsB L [48, 50])) ∧ w' = w from held_any v L ⟨#[48, 50]⟩ w hr hl)
  have hcl : clE L a.data.toList = if hsB L a.data.toList then 24 else if a.data.toList = [48, 49] ∧ hsB L [48, 50] = true ∨ a.data.toList = [48, 50] ∧ hsB L [48, 49] = true then 25 else 0 := rfl
  obtain ⟨t0, h0⟩ : ∃ t, hsB L a.data.toList = t := ⟨_, rfl⟩
  obtain ⟨t1, h1⟩ : ∃ t, hsB L [48, 49] = t := ⟨_, rfl⟩
  obtain ⟨t2, h2⟩ : ∃ t, hsB L [48, 50] = t := ⟨_, rfl⟩
  rw [h0] at H0 hcl
  rw [h1] at H1 hcl
  rw [h2] at H2 hcl
  obtain ⟨R, hR⟩ : ∃ R, clE L a.data.toList = R := ⟨_, rfl⟩
  rw [hR] at hcl ⊢
  have HRE := hid hcl
  clear hr hl hcl h0 h1 h2 hR
  have hq : ((a.toList == [48, 49]) = true ∧ (a.toList == [48, 50]) = false ∧ a.data.toList = [48, 49]) ∨ ((a.toList == [48, 49]) = false ∧ (a.toList == [48, 50]) = true ∧ a.data.toList = [48, 50]) ∨ ((a.toList == [48, 49]) = false ∧ (a.toList == [48, 50]) = false ∧ a.data.toList ≠ [48, 49] ∧ a.data.toList ≠ [48, 50]) := by
    rw [ByteArray.toList_eq]
    by_cases e1 : a.data.toList = [48, 49]
    · left; rw [e1]; exact ⟨rfl, rfl, rfl⟩
    · by_cases e2 : a.data.toList = [48, 50]
      · right; left; rw [e2]; exact ⟨rfl, rfl, rfl⟩
      · right; right; exact ⟨beq_eq_false_iff_ne.2 e1, beq_eq_false_iff_ne.2 e2, e1, e2⟩
  cases t0
  · rcases hq with ⟨q1, q2, q3⟩ | ⟨q1, q2, q3⟩ | ⟨q1, q2, q3, q4⟩
    all_goals cases t1 <;> cases t2
    all_goals
      have HQ3 := hid q3
      clear q3
      go_enter Tryd.func33, Tryd.ntmps33
      go_wp2_with fail
      refine H0.out.mono ?_
      rintro e w1 ⟨rfl, hw1⟩
      have hws := hw1.symm
      clear hw1
      subst hws
      go_wp2_with fail
      refine H1.out.mono ?_
      rintro e w1 ⟨rfl, hw1⟩
      have hws := hw1.symm
      clear hw1
      subst hws
      go_wp2_with fail
      refine H2.out.mono ?_
      rintro e w1 ⟨rfl, hw1⟩
      have hws := hw1.symm
      clear hw1
      subst hws
      go_wp2
      go_ret
      exact ⟨ret_int (by rw [HRE.out]; first | (simp [HQ3.out]; done) | (simp [HQ3.out, q4]; done)), rfl⟩
  · clear hq
    go_enter Tryd.func33, Tryd.ntmps33
    go_wp2_with fail
    refine H0.out.mono ?_
    rintro e w1 ⟨rfl, hw1⟩
    have hws := hw1.symm
    clear hw1
    subst hws
    go_wp2
    go_ret
    exact ⟨ret_int (by rw [HRE.out]; rfl), rfl⟩

set_option maxHeartbeats 2000000 in
theorem lonely_any (v : Value) (L : List El) (w : World) (hr : RE w v L) (hl : L.length ≤ 9223372036854775000) :
    Calls Tryd.prog 38 #[v] w fun e w' => e = .returned (.int .i64 (loI L)) ∧ w' = w := by
  have H1 := hid (show Calls Tryd.prog 58 #[v, .string ⟨#[48, 50]⟩] w fun e w' => e = .returned (.bool (hsB L [48, 50])) ∧ w' = w from held_any v L ⟨#[48, 50]⟩ w hr hl)
  have H2 := hid (show Calls Tryd.prog 58 #[v, .string ⟨#[51, 55]⟩] w fun e w' => e = .returned (.bool (hsB L [51, 55])) ∧ w' = w from held_any v L ⟨#[51, 55]⟩ w hr hl)
  have HP : Hid (∀ a, lnB L a = (decide (a = [48, 50]) && !hsB L [51, 55] || decide (a = [51, 55]) && !hsB L [48, 50])) := fun _ => rfl
  obtain ⟨t1, h1⟩ : ∃ t, hsB L [48, 50] = t := ⟨_, rfl⟩
  obtain ⟨t2, h2⟩ : ∃ t, hsB L [51, 55] = t := ⟨_, rfl⟩
  rw [h1] at H1 HP
  rw [h2] at H2 HP
  have HL := hid hl
  clear hl h1 h2
  rcases hr with ⟨rfl, ao, cap, rfl, _⟩ | ⟨b, off, cap, rfl, hcap, hcell⟩
  · go_enter Tryd.func38, Tryd.ntmps38
    go_wp2_with fail
    refine H1.out.mono ?_
    rintro e w1 ⟨rfl, hw1⟩
    have hws := hw1.symm
    clear hw1
    subst hws
    go_wp2_with fail
    refine H2.out.mono ?_
    rintro e w1 ⟨rfl, hw1⟩
    have hws := hw1.symm
    clear hw1
    subst hws
    go_wp2_with fail
    go_rounds 1
    go_ret
    exact ⟨rfl, rfl⟩
  · have HC := hid hcell
    clear hcell
    go_enter Tryd.func38, Tryd.ntmps38
    go_wp2_with fail
    refine H1.out.mono ?_
    rintro e w1 ⟨rfl, hw1⟩
    have hws := hw1.symm
    clear hw1
    subst hws
    go_wp2_with fail
    refine H2.out.mono ?_
    rintro e w1 ⟨rfl, hw1⟩
    have hws := hw1.symm
    clear hw1
    subst hws
    clear H1 H2
    go_wp2_with fail
    go_loop [5] (fun i => ∃ k : Nat, k ≤ L.length ∧ i = .int .i64 (k : Int) ∧ ∀ j (hj : j < k) (hk : k ≤ L.length), lnB L (L[j]'(by omega)).1.data.toList = false) (fun i => L.length - (intOf i).toNat)
    case atStart => exact ⟨0, by omega, rfl, fun j hj => by omega⟩
    case round =>
      obtain ⟨k, hk, rfl, hall⟩ := hrel
      have HA := hid hall
      clear hall
      by_cases hlt : k < L.length
      · have hcl := HC.out k hlt
        have c0 := hcl.1
        have hl := HL.out
        clear hcl
        have HN := hid (HP.out (L[k]'hlt).1.data.toList)
        have HSo := hid (loN_some (lnB L) L 0 k hlt (fun i hi => HA.out i hi hk))
        have HR : Hid (lnB L (L[k]'hlt).1.data.toList = false → ∀ j (hj : j < k + 1) (hk1 : k + 1 ≤ L.length), lnB L (L[j]'(by omega)).1.data.toList = false) := fun h j hj hk1 => by
          by_cases e : j = k
          · subst e; exact h
          · exact HA.out j (by omega) (by omega)
        obtain ⟨a, ha⟩ : ∃ a, a = (L[k]'hlt).1 := ⟨_, rfl⟩
        rw [← ha] at c0 HN HSo HR
        have hq : ((a.toList == [48, 50]) = true ∧ (a.toList == [51, 55]) = false ∧ lnB L a.data.toList = !t2) ∨ ((a.toList == [48, 50]) = false ∧ (a.toList == [51, 55]) = true ∧ lnB L a.data.toList = !t1) ∨ ((a.toList == [48, 50]) = false ∧ (a.toList == [51, 55]) = false ∧ lnB L a.data.toList = false) := by
          rw [ByteArray.toList_eq, HN.out]
          by_cases e1 : a.data.toList = [48, 50]
          · left; rw [e1]; simp
          · by_cases e2 : a.data.toList = [51, 55]
            · right; left; rw [e2]; simp
            · right; right; simp [e1, e2]
        clear ha HN
        rcases hq with ⟨q1, q2, q3⟩ | ⟨q1, q2, q3⟩ | ⟨q1, q2, q3⟩
        · have HQ := hid q3
          clear q3
          cases t2
          · go_wp2
            go_ret
            refine ⟨ret_int ?_, rfl⟩
            have := HSo.out (by rw [HQ.out]; rfl)
            rw [Nat.zero_add] at this
            exact this.symm
          · go_wp2
            go_round
            case rel => exact ⟨k + 1, by omega, by go_num, HR.out (by rw [HQ.out]; rfl)⟩
            case measure => simp [intOf]; omega
        · have HQ := hid q3
          clear q3
          cases t1
          · go_wp2
            go_ret
            refine ⟨ret_int ?_, rfl⟩
            have := HSo.out (by rw [HQ.out]; rfl)
            rw [Nat.zero_add] at this
            exact this.symm
          · go_wp2
            go_round
            case rel => exact ⟨k + 1, by omega, by go_num, HR.out (by rw [HQ.out]; rfl)⟩
            case measure => simp [intOf]; omega
        · have HQ := hid q3
          clear q3
          go_wp2
          go_round
          case rel => exact ⟨k + 1, by omega, by go_num, HR.out HQ.out⟩
          case measure => simp [intOf]; omega
      · go_wp2
        go_ret
        refine ⟨ret_int ?_, rfl⟩
        refine (loN_none _ _ _ fun x hx => ?_).symm
        obtain ⟨i, hi, rfl⟩ := List.mem_iff_getElem.1 hx
        exact HA.out i (by omega) hk

def chB (c : UInt8) : Bool := decide (IsLet c) || isDB c || marksL.contains c
theorem chF_all : ∀ n : Fin 256, chF (UInt8.ofNat n.val) = if chB (UInt8.ofNat n.val) = true then 0 else 27 := by decide +kernel
theorem chF_is (c : UInt8) : chF c = if chB c = true then 0 else 27 := by
  have h := chF_all ⟨c.toNat, c.toNat_lt⟩
  simpa using h

set_option maxHeartbeats 2000000 in
theorem char_any (c : UInt8) (w : World) :
    Calls Tryd.prog 35 #[.int .u8 (c.toNat : Int)] w fun e w' => e = .returned (.bool (chB c)) ∧ w' = w := by
  have HD := hid (fun w => refIsDigit_any c w)
  have hlt := c.toNat_lt
  by_cases h1 : 65 ≤ c.toNat ∧ c.toNat ≤ 90
  · have e : chB c = true := by unfold chB IsLet; simp [h1]
    rw [e]
    have i1 : (65 : Int) ≤ (c.toNat : Int) := by omega
    have i2 : (c.toNat : Int) ≤ 90 := by omega
    clear h1 e
    go_enter Tryd.func35, Tryd.ntmps35
    go_wp2
    go_ret
    exact ⟨rfl, rfl⟩
  · by_cases h2 : 97 ≤ c.toNat ∧ c.toNat ≤ 122
    · have e : chB c = true := by unfold chB IsLet; simp [h2]
      rw [e]
      have i1 : (65 : Int) ≤ (c.toNat : Int) := by omega
      have i2 : ¬ (c.toNat : Int) ≤ 90 := by omega
      have i3 : (97 : Int) ≤ (c.toNat : Int) := by omega
      have i4 : (c.toNat : Int) ≤ 122 := by omega
      clear h1 h2 e
      go_enter Tryd.func35, Tryd.ntmps35
      go_wp2
      go_ret
      exact ⟨rfl, rfl⟩
    · have hnl : ¬ IsLet c := by unfold IsLet; omega
      obtain ⟨M, hM⟩ : ∃ M : ByteArray, (⟨#[33, 34, 37, 38, 39, 40, 41, 42, 43, 44, 45, 46, 47, 58, 59, 60, 61, 62, 63, 95]⟩ : ByteArray) = M := ⟨_, rfl⟩
      have hMs : M.size = 20 := by rw [← hM]; rfl
      have hMl : M.data.toList = marksL := by rw [← hM]; rfl
      have hcb : chB c = (isDB c || M.data.toList.contains c) := by unfold chB; rw [hMl]; simp [hnl]
      have HCB := hid hcb
      have hrange : (¬ (65 : Int) ≤ (c.toNat : Int) ∧ ¬ (97 : Int) ≤ (c.toNat : Int)) ∨ ((65 : Int) ≤ (c.toNat : Int) ∧ ¬ (c.toNat : Int) ≤ 90 ∧ ¬ (97 : Int) ≤ (c.toNat : Int)) ∨ ((65 : Int) ≤ (c.toNat : Int) ∧ ¬ (c.toNat : Int) ≤ 90 ∧ (97 : Int) ≤ (c.toNat : Int) ∧ ¬ (c.toNat : Int) ≤ 122) := by omega
      have HML := hid hMl
      clear h1 h2 hnl hcb hMl
      rcases hrange with ⟨i1, i2⟩ | ⟨i1, i2, i3⟩ | ⟨i1, i2, i3, i4⟩
      all_goals
        cases hd : isDB c with
        | true =>
          rw [hd] at HD HCB
          rw [show chB c = true by rw [HCB.out]; rfl]
          clear hd HCB
          go_enter Tryd.func35, Tryd.ntmps35
          go_wp2_with (go_at_call 34; refine (HD.out _).mono ?_; rintro e w' ⟨rfl, rfl⟩)
          go_ret
          exact ⟨rfl, rfl⟩
        | false =>
          rw [hd] at HD HCB
          clear hd
          go_enter Tryd.func35, Tryd.ntmps35
          go_wp2_with fail
          refine (HD.out _).mono ?_
          rintro e w1 ⟨rfl, rfl⟩
          go_wp2_with fail
          rw [hM]
          have hMn := hM
          clear hM hMn
          go_loop [4] (fun i => ∃ k : Nat, k ≤ 20 ∧ i = .int .i64 (k : Int) ∧ ∀ j (hj : j < k) (hk : k ≤ 20), M[j]'(by omega) ≠ c) (fun i => 20 - (intOf i).toNat)
          case atStart => exact ⟨0, by omega, rfl, fun j hj => by omega⟩
          case round =>
            obtain ⟨k, hk, rfl, hall⟩ := hrel
            have HA := hid hall
            clear hall
            by_cases hk2 : k < 20
            · have hks : k < M.size := by omega
              have hks2 : (k : Int) < (M.size : Int) := by omega
              by_cases he : M[k]'hks = c
              · have hb : (((M[k]'hks).toNat : Int) == (c.toNat : Int)) = true := by rw [he]; simp
                have HCE := hid (show chB c = true by
                  rw [HCB.out, Bool.false_or, List.contains_iff_mem]
                  rw [← he, ← byte_list M k hks]
                  exact List.getElem_mem _)
                clear he
                go_wp2
                go_ret
                exact ⟨ret_bool HCE.out.symm, rfl⟩
              · have hb : (((M[k]'hks).toNat : Int) == (c.toNat : Int)) = false := by
                  rw [beq_eq_false_iff_ne]
                  intro h
                  exact he (UInt8.toNat_inj.1 (by omega))
                have HNE := hid he
                clear he
                go_wp2
                go_round
                case rel =>
                  refine ⟨k + 1, by omega, by go_num, fun j hj hk1 => ?_⟩
                  by_cases e : j = k
                  · subst e; exact HNE.out
                  · exact HA.out j (by omega) (by omega)
                case measure => simp [intOf]; omega
            · have HCE := hid (show chB c = false by
                rw [HCB.out, Bool.false_or]
                cases hc : M.data.toList.contains c with
                | false => rfl
                | true =>
                  rw [List.contains_iff_mem] at hc
                  obtain ⟨i, hi, he⟩ := List.mem_iff_getElem.1 hc
                  have hi2 : i < M.size := by rw [← len_list]; exact hi
                  rw [byte_list M i hi2] at he
                  exact absurd he (HA.out i (by omega) (by omega)))
              go_wp2
              go_ret
              exact ⟨ret_bool HCE.out.symm, rfl⟩
end Go.Proofs.YtjmpkogjilefnaaDoor
