/-
  SheetNil: nil Faults, Whys and Readers; the variables are unlike; the law's walk.
-/
import Derived.Test.YtedgdgaobgkffaaGreatDoorLawSFo
import Derived.Lib.SlBytesConst
namespace Go.Proofs.YtedgdgaobgkffaaGreatDoor
open Go.RowKit Go.Extern.Stop Go.Stop Go.Extern
set_option maxRecDepth 100000
set_option linter.unusedVariables false
set_option linter.unusedSimpArgs false

set_option maxHeartbeats 1000000 in
theorem nilFE (w : World) : Calls Tryz.prog 10 #[.pointer none] w fun e w' => e = .returned (.string ⟨#[]⟩) ∧ w' = w := by
  go_enter Tryz.func10, Tryz.ntmps10
  go_wp2
  go_ret
  exact ⟨rfl, rfl⟩
set_option maxHeartbeats 1000000 in
theorem nilFU (w : World) : Calls Tryz.prog 11 #[.pointer none] w fun e w' => e = .returned .nilIface ∧ w' = w := by
  go_enter Tryz.func11, Tryz.ntmps11
  go_wp2
  go_ret
  exact ⟨rfl, rfl⟩
set_option maxHeartbeats 1000000 in
theorem nilWE (w : World) : Calls Tryz.prog 12 #[.pointer none] w fun e w' => e = .returned (.string ⟨#[]⟩) ∧ w' = w := by
  go_enter Tryz.func12, Tryz.ntmps12
  go_wp2
  go_ret
  exact ⟨rfl, rfl⟩
set_option maxHeartbeats 1000000 in
theorem nilWU (w : World) : Calls Tryz.prog 13 #[.pointer none] w fun e w' => e = .returned .nilIface ∧ w' = w := by
  go_enter Tryz.func13, Tryz.ntmps13
  go_wp2
  go_ret
  exact ⟨rfl, rfl⟩
set_option maxHeartbeats 1000000 in
theorem nilRF (v : Value) (w : World) : Calls Tryz.prog 15 #[.pointer none, v] w fun e w' => e = .returned (.tuple #[.slice none 0 0, .nilIface]) ∧ w' = w := by
  go_enter Tryz.func15, Tryz.ntmps15
  go_wp2
  go_ret2
  exact ⟨rfl, rfl⟩
set_option maxHeartbeats 1000000 in
theorem nilRC (w : World) : Calls Tryz.prog 16 #[.pointer none] w fun e w' => e = .returned (.tuple #[.slice none 0 0, .nilIface]) ∧ w' = w := by
  go_enter Tryz.func16, Tryz.ntmps16
  go_wp2
  go_ret2
  exact ⟨rfl, rfl⟩

/-! errors.Is of a bare error -/
set_option maxHeartbeats 2000000 in
theorem is0_err_same (a : Addr) (w : World) :
    Calls Tryz.prog 52 #[.iface 168 (.pointer (some a)), .iface 168 (.pointer (some a)), .bool true] w fun e w' => e = .returned (.bool true) ∧ w' = w := by
  obtain ⟨i, hi, hcmp⟩ := Option.map_eq_some_iff.1 isComp
  obtain ⟨j, hj, hjs⟩ := Option.map_eq_some_iff.1 isSize
  have heq := run_eql_iface_ptr_same (P := Tryz.prog) w a Tryz.underlying25 Tryz.underlying168 hi hcmp hj
  go_enter Tryz.func52, Tryz.ntmps52
  go_wp2
  refine wp_loop_rounds 1 ?_
  rw [rounds_succ]
  go_wp2
  go_ret
  exact ⟨rfl, rfl⟩
set_option maxHeartbeats 2000000 in
theorem is0_err_other (a b : Addr) (ca cb : Array Value) (ta tb : TypeId) (w : World) (hne : a ≠ b) (ha : w.heap[a.block]? = some (.cells ca ta (0, 0))) (hb : w.heap[b.block]? = some (.cells cb tb (0, 0))) :
    Calls Tryz.prog 52 #[.iface 168 (.pointer (some a)), .iface 168 (.pointer (some b)), .bool true] w fun e w' => e = .returned (.bool false) ∧ w' = w := by
  obtain ⟨i, hi, hcmp⟩ := Option.map_eq_some_iff.1 isComp
  obtain ⟨j, hj, hjs⟩ := Option.map_eq_some_iff.1 isSize
  have heq := run_eql_iface_ptr_other (P := Tryz.prog) w Tryz.underlying25 Tryz.underlying168 hi hcmp hj (by rw [hjs]; decide) hne ha hb
  have nE := noIsE
  have uE := noUnwrapE
  have vE := noUnwrapsE
  clear ha hb
  go_enter Tryz.func52, Tryz.ntmps52
  go_wp2
  refine wp_loop_rounds 1 ?_
  rw [rounds_succ]
  go_wp2
  go_ret
  exact ⟨rfl, rfl⟩
theorem is_err (A : Nat → Addr) (c d : Nat) (w : World) (hA : Sn A w) (hc : 1 ≤ c ∧ c ≤ 20) (hd : 1 ≤ d ∧ d ≤ 20) :
    Calls Tryz.prog 29 #[.iface 168 (.pointer (some (A c))), .iface 168 (.pointer (some (A d)))] w fun e w' => e = .returned (.bool (decide (c = d))) ∧ w' = w := by
  refine is_of _ _ _ w _ ?_
  by_cases hcd : c = d
  · subst hcd
    rw [decide_eq_true rfl]
    exact is0_err_same (A c) w
  · rw [decide_eq_false hcd]
    obtain ⟨ca, ta, ha⟩ := hA.lie hc
    obtain ⟨cb, tb, hb⟩ := hA.lie hd
    exact is0_err_other (A c) (A d) ca cb ta tb w (hA.ne hc hd hcd) ha hb
set_option maxHeartbeats 2000000 in
/-- each of the twenty is of one kind -/
theorem kinds_err (A : Nat → Addr) (c : Nat) (w : World) (hA : Sn A w) (hc : 1 ≤ c ∧ c ≤ 20) :
    Calls Tryz.prog 18 #[.iface 168 (.pointer (some (A c)))] w fun e w' => e = .returned (.int .i64 1) ∧ Below w.heap.size w w' := by
  have HA := hid hA
  clear hA
  go_enter Tryz.func18, Tryz.ntmps18
  go_wp2_with fail
  go_loopw [3, 4] (fun n k wr => ∃ j : Nat, j ≤ 20 ∧ k = .int .i64 ((j : Int) + 1) ∧ n = .int .i64 (if c ≤ j then 1 else 0) ∧ Below w.heap.size w wr) (fun _ k _ => 21 - (intOf k).toNat)
  case atStart => exact ⟨0, by omega, rfl, by rw [if_neg (by omega)], Below.refl _ _⟩
  case round =>
    obtain ⟨j, hj, rfl, rfl, hbl⟩ := hrel
    by_cases hlt : j < 20
    · have hI : (j : Int) + 1 ≤ 20 := by omega
      have HV := hid (variable_any A j hlt _ rfl wr (HA.out.below hbl))
      have hb2 : Below wr.heap.size wr (wr.alloc (.cells (errs A) 25)) := (Below.refl _ _).alloc (Nat.le_refl _) _
      have hi := is_err A c (j + 1) (wr.alloc (.cells (errs A) 25)) ((HA.out.below hbl).below hb2) hc ⟨by omega, by omega⟩
      have HBL := hid (hbl.trans (hb2.mono hbl.size))
      generalize wr.alloc (.cells (errs A) 25) = wv at *
      clear hbl hb2
      by_cases hcj : c = j + 1
      · rw [decide_eq_true hcj] at hi
        have HI := hid hi
        have HC := hid hcj
        rw [if_neg (show ¬ c ≤ j by omega)]
        clear hi hcj
        go_wp2_with fail
        refine Calls.mono HV.out ?_
        rintro e w2 ⟨rfl, hw⟩
        replace hw := hw.symm
        subst hw
        go_wp2_with fail
        refine Calls.mono HI.out ?_
        rintro e w3 ⟨rfl, hw⟩
        replace hw := hw.symm
        subst hw
        go_wp2
        go_roundw
        case rel => exact ⟨j + 1, by omega, by go_num, by rw [if_pos (show c ≤ j + 1 by have := HC.out; omega)], HBL.out⟩
        case measure => simp [intOf]; omega
      · rw [decide_eq_false hcj] at hi
        have HI := hid hi
        have hif : (if c ≤ j then (1 : Int) else 0) = (if c ≤ j + 1 then 1 else 0) := by
          by_cases h1 : c ≤ j
          · rw [if_pos h1, if_pos (by omega)]
          · rw [if_neg h1, if_neg (by omega)]
        have HIf := hid hif
        generalize (if c ≤ j then (1 : Int) else 0) = q at *
        clear hi hcj hif
        go_wp2_with fail
        refine Calls.mono HV.out ?_
        rintro e w2 ⟨rfl, hw⟩
        replace hw := hw.symm
        subst hw
        go_wp2_with fail
        refine Calls.mono HI.out ?_
        rintro e w3 ⟨rfl, hw⟩
        replace hw := hw.symm
        subst hw
        go_wp2
        go_roundw
        case rel => exact ⟨j + 1, by omega, by go_num, by rw [HIf.out], HBL.out⟩
        case measure => simp [intOf]; omega
    · have hI : ¬ (j : Int) + 1 ≤ 20 := by omega
      rw [if_pos (show c ≤ j by omega)]
      go_wp2
      go_ret
      exact ⟨rfl, hbl⟩
theorem conv_id (w : World) : (convert 44 44 (.slice (some ⟨w.heap.size, 0, none⟩) 1 1)).run Tryz.prog (w.alloc (.cells #[.int .u8 34] 5)) = .ok (.slice (some ⟨w.heap.size, 0, none⟩) 1 1) (w.alloc (.cells #[.int .u8 34] 5 (1, 2))) := Lib.run_convert_bytes_const w 44 5 #[.int .u8 34] 1 1 Tryz.underlying44 Tryz.underlying5
theorem rd_nil : rdA [] = ([], 0, 0, 0) := by decide +kernel
theorem Rw.empty (w : World) : Rw w (.slice none 0 0) [] := ⟨none, 0, rfl, by simp, by omega, fun i hi => absurd hi (by simp)⟩
set_option maxHeartbeats 4000000 in
theorem nil_law (A : Nat → Addr) (w : World) (hA : Sn A w) (hT : ErT w) :
    Calls Tryz.prog 4 #[] w fun e w' => e = .returned (.bool true) ∧ Below w.heap.size w w' := by
  have HFE := hid nilFE
  have HFU := hid nilFU
  have HWE := hid nilWE
  have HWU := hid nilWU
  have HRF := hid nilRF
  have HRC := hid nilRC
  have HLv := hid (lives_is A w hA hT)
  have kI := conv_id
  have HA := hid (And.intro hA hT)
  have s0 : ((⟨#[]⟩ : ByteArray).toList == (⟨#[]⟩ : ByteArray).toList) = true := by simp
  have s1 : ((⟨#[]⟩ : ByteArray).toList != (⟨#[]⟩ : ByteArray).toList) = false := by simp
  clear hA hT
  go_enter Tryz.func4, Tryz.ntmps4
  go_wp2_with fail
  refine Calls.mono (HFE.out _) ?_
  rintro e w1 ⟨rfl, hw⟩
  replace hw := hw.symm
  subst hw
  go_wp2_with fail
  refine Calls.mono (HFU.out _) ?_
  rintro e w1 ⟨rfl, hw⟩
  replace hw := hw.symm
  subst hw
  go_wp2_with fail
  refine Calls.mono (HWE.out _) ?_
  rintro e w1 ⟨rfl, hw⟩
  replace hw := hw.symm
  subst hw
  go_wp2_with fail
  refine Calls.mono (HWU.out _) ?_
  rintro e w1 ⟨rfl, hw⟩
  replace hw := hw.symm
  subst hw
  go_wp2_with fail
  refine Calls.mono HLv.out ?_
  rintro e w2 ⟨rfl, hb2⟩
  have HB2 := hid hb2
  clear hb2
  go_wp2_with fail
  refine Calls.mono (HRF.out _ _) ?_
  rintro e w3 ⟨rfl, hw3⟩
  have hB3 : Below w.heap.size w w3 := by rw [hw3]; exact HB2.out.alloc HB2.out.size _
  have HB3 := hid hB3
  clear hB3 hw3
  go_wp2_with fail
  refine Calls.mono (HRC.out _) ?_
  rintro e w1 ⟨rfl, hw⟩
  replace hw := hw.symm
  subst hw
  go_wp2_with fail
  go_loopw [8] (fun k wr => ∃ j : Nat, j ≤ 20 ∧ k = .int .i64 ((j : Int) + 1) ∧ Below w.heap.size w wr) (fun k _ => 21 - (intOf k).toNat)
  case atStart => exact ⟨0, by omega, rfl, HB3.out⟩
  case round =>
    obtain ⟨j, hj, rfl, hbl⟩ := hrel
    by_cases hlt : j < 20
    · have hI : (j : Int) + 1 ≤ 20 := by omega
      have HV := hid (fun wx (h : Below w.heap.size w wx) => variable_any A j hlt _ rfl wx (HA.out.1.below h))
      have HK := hid (fun wx (h : Below w.heap.size w wx) => kinds_err A (j + 1) wx (HA.out.1.below h) ⟨by omega, by omega⟩)
      have HBL := hid hbl
      clear hbl
      go_wp2_with fail
      refine Calls.mono (HV.out _ HBL.out) ?_
      rintro e w4 ⟨rfl, hw4⟩
      have HB4 := hid (show Below w.heap.size w w4 by rw [hw4]; exact HBL.out.alloc HBL.out.size _)
      clear hw4
      go_wp2_with fail
      refine Calls.mono (HV.out _ HB4.out) ?_
      rintro e w5 ⟨rfl, hw5⟩
      have HB5 := hid (show Below w.heap.size w w5 by rw [hw5]; exact HB4.out.alloc HB4.out.size _)
      clear hw5
      go_wp2_with fail
      refine Calls.mono (HK.out _ HB5.out) ?_
      rintro e w6 ⟨rfl, hb6⟩
      have HB6 := hid (HB5.out.trans (hb6.mono HB5.out.size))
      clear hb6
      go_wp2
      go_roundw
      case rel => exact ⟨j + 1, by omega, by go_num, HB6.out⟩
      case measure => simp [intOf]; omega
    · have hI : ¬ (j : Int) + 1 ≤ 20 := by omega
      have HP := hid (print_any A (.slice none 0 0) [] wr (HA.out.1.below hbl).he (HA.out.2.below hbl) (Rw.empty _))
      have HBL := hid hbl
      clear hbl
      go_wp2_with fail
      refine Calls.mono HP.out ?_
      rintro e w4 ⟨sv, ev, rfl, hp, hb4⟩
      have hq : sv = .string ⟨#[]⟩ ∧ ev = .nilIface := by
        rcases hp with ⟨h0, _⟩ | ⟨_, h1, _⟩ | ⟨_, _, h2, h3⟩
        · exact absurd (show (rck 0 [] 0).1 = 0 by decide +kernel) h0
        · exact absurd h1 (by decide)
        · exact ⟨h2, h3⟩
      obtain ⟨rfl, rfl⟩ := hq
      have HB4 := hid (HBL.out.trans (hb4.mono HBL.out.size))
      have HP5 := hid (parse_any A ⟨#[]⟩ w4 (HA.out.1.below HB4.out).he)
      clear hb4 hp
      go_wp2_with fail
      refine Calls.mono HP5.out ?_
      rintro e w5 ⟨rv, ev, rfl, hp5, hb5⟩
      have hp6 : PaR A w5 [] rv ev := hp5
      unfold PaR at hp6
      rw [rd_nil] at hp6
      rcases hp6 with ⟨_, rfl, V, ht⟩ | ⟨hne, _⟩
      · obtain ⟨ra, rc, hrv⟩ := (show Rw w5 rv [] from ht.rw).form
        have hrv' : rv = .slice ra 0 rc := hrv
        subst hrv'
        have HB5 := hid (HB4.out.trans (hb5.mono HB4.out.size))
        clear hb5 ht hp5 hrv
        go_wp2
        go_ret
        exact ⟨rfl, HB5.out⟩
      · exact absurd rfl hne
end Go.Proofs.YtedgdgaobgkffaaGreatDoor
