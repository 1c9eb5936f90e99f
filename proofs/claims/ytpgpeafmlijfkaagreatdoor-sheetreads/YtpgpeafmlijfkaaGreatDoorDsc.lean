/-
  Sheets, the document's side: cell. Laid by mkdsc.py.
-/
import Derived.Test.YtpgpeafmlijfkaaGreatDoorDsq
import Derived.Test.YtpgpeafmlijfkaaGreatDoorSpf
namespace Go.Proofs.YtpgpeafmlijfkaaGreatDoor
open Go.RowKit
set_option maxRecDepth 100000
set_option linter.unusedVariables false
set_option linter.unusedSimpArgs false

theorem dext (s : ByteArray) (i j : Nat) : s.extract i j = ⟨(sub s.data.toList i j).toArray⟩ := by
  have h : (s.extract i j).data.toList = sub s.data.toList i j := by
    rw [ByteArray.data_extract, Array.toList_extract, List.extract_eq_take_drop]
    unfold sub
    rw [List.drop_take]
  rw [← h]
theorem dslice (s : ByteArray) (i j : Nat) (h1 : i ≤ j) (h2 : j ≤ s.size) (w : World) : (Instr.slice 9 (.string s) (some (.int .i64 (i : Int))) (some (.int .i64 (j : Int))) none).run Tryz.prog w = .ok (.string ⟨(sub s.data.toList i j).toArray⟩) w := by
  have := run_slice_string (P := Tryz.prog) w 9 s .i64 .i64 (i : Int) (j : Int) Tryz.underlying9 (by omega) (by omega) (by omega)
  rw [this, ← dext]
  congr 3
/-- a Fault stored into a new block -/
theorem run_fStN (w : World) (c l k i : Nat) :
    ∃ W, (fSt ⟨w.heap.size, 0, none⟩ (fV c l k i)).run Tryz.prog (w.alloc (.cells #[.int .i64 0, .int .i64 0, .int .i64 0, .int .i64 0, .int .i64 0] 46)) = .ok () W ∧ FW W w.heap.size c l k i ∧ Below w.heap.size w W ∧ w.heap.size < W.heap.size := by
  obtain ⟨W, h1, h2, h3⟩ := run_fSt (FW.new w) c l k i
  exact ⟨W, h1, h2, ((Below.refl _ w).alloc (Nat.le_refl _) _).grown h3 (by simp) (fun b hb => by cases hb; exact Nat.le_refl _), h2.lt⟩
theorem grown_below {w W : World} {b : Nat} (h : w.grownBy W (some b)) (hb : b < w.heap.size) {a : World} (ha : Below a.heap.size a w) (hab : a.heap.size ≤ b) : Below a.heap.size a W :=
  ha.grown h ha.size (fun k hk => by cases hk; exact hab)
theorem FW.drew {w : World} {b c l k i : Nat} (h : FW w b c l k i) : FW w.drew b c l k i := h
attribute [local go_sem ↓] fLd_op fSt_op

theorem cel_ql {L : List UInt8} {fr j : Nat} (h : ¬ (fr < L.length ∧ ch L fr = 34)) (hq : ql L fr fr = (j, 0, 0)) : cel L fr = (sub L fr j, j, 0, 0) := by
  rw [cel, if_neg h, hq]
  simp
theorem cel_qb {L : List UInt8} {fr c j : Nat} (h : ¬ (fr < L.length ∧ ch L fr = 34)) (hc : c ≠ 0) (hq : ql L fr fr = (0, c, j)) : cel L fr = ([], 0, c, j) := by
  rw [cel, if_neg h, hq]
  simp [hc]
set_option maxHeartbeats 8000000 in
theorem dcell_p (s : ByteArray) (fr : Nat) (w : World) (hs : s.size ≤ 140737500000000) (hf : fr ≤ s.size) (hno : ¬ (fr < s.size ∧ ch s.data.toList fr = 34)) :
    Calls Tryz.prog 79 #[.string s, .int .i64 (fr : Int)] w fun e w' => e = .returned (.tuple #[.string ⟨(cel s.data.toList fr).1.toArray⟩, .int .i64 ((cel s.data.toList fr).2.1 : Int), fQ s.data.toList (cel s.data.toList fr).2.2.1 (cel s.data.toList fr).2.2.2]) ∧ Below w.heap.size w w' := by
  have HM := hid (fun c w => dmay_any c w)
  have HPl := hid (fun c i w (hi : i ≤ s.size) => placed_any s c i w hs hi)
  have hds : s.data.toList.length = s.size := by rw [Array.length_toList]; rfl
  have r1 : fr ≤ 200000000000000 := by omega
  have HNo := hid (show ¬ (fr < s.data.toList.length ∧ ch s.data.toList fr = 34) by rw [hds]; exact hno)
  have HDS := hid hds
  clear hds
  go_enter Tryz.func79, Tryz.ntmps79
  by_cases hfl : fr < s.size
  · have hO : (fr : Int) < (s.size : Int) := by omega
    have q34 : ¬ (s[fr].toNat : Int) = 34 := fun e => hno ⟨hfl, by unfold ch; rw [bt_at s fr hfl]; omega⟩
    have e34 : ((s[fr].toNat : Int) == 34) = false := by rw [beq_eq_false_iff_ne]; exact q34
    clear hno
    go_wp2_with fail
    go_loopw [10] (fun j wr => ∃ (i : Nat), fr ≤ i ∧ i ≤ s.size ∧ i - fr ≤ 4096 ∧ j = .int .i64 (i : Int) ∧ ql s.data.toList fr fr = ql s.data.toList fr i ∧ Below w.heap.size w wr ∧ FW wr w.heap.size 0 0 0 0) (fun j _ => s.size - (intOf j).toNat)
    case atStart =>
      refine ⟨fr, Nat.le_refl _, hf, by omega, rfl, rfl, (Below.refl _ _).alloc (Nat.le_refl _) _, FW.new w⟩
    case round =>
      obtain ⟨i, hfi, hi, hi4, rfl, hqd, hbl, hfb⟩ := hrel
      have r2 : i ≤ 200000000000000 := by omega
      have HQ := hid hqd
      have HB := hid hbl
      have HF := hid hfb
      clear hqd hbl hfb
      by_cases hlt : i < s.size
      · have hI : (i : Int) < (s.size : Int) := by omega
        have hL : i < s.data.toList.length := by rw [HDS.out]; exact hlt
        have hci : ch s.data.toList i = s[i].toNat := by unfold ch; rw [bt_at s i hlt]
        by_cases h44 : s[i].toNat = 44
        · have p44 : (s[i].toNat : Int) = 44 := by omega
          have n44 : ((s[i].toNat : Int) != 44) = false := by simp; omega
          have hv : ql s.data.toList fr i = (i, 0, 0) := by rw [ql_eq, if_neg (by rw [hci]; omega)]
          have HV := hid (cel_ql HNo.out (HQ.out.trans hv))
          have kS := dslice s fr i hfi hi
          obtain ⟨X, hX⟩ : ∃ X : ByteArray, X = ⟨(sub s.data.toList fr i).toArray⟩ := ⟨_, rfl⟩
          rw [← hX] at kS
          have HX := hid hX
          have hfi2 : (fr : Int) ≤ (i : Int) := by omega
          have hi2 : (i : Int) ≤ (s.size : Int) := by omega
          obtain ⟨W, ES, hW, gW⟩ := run_fSt0 HF.out
          have EL := run_fLd hW
          have BF := hid (HB.out.grown gW HB.out.size (fun b hb => by cases hb; exact Nat.le_refl _))
          clear hW gW hv hX
          go_wp2
          refine bodyPost_ret (by simp [results, Tryz.results79, asAddr, ↓fLd_op, EL]; try rfl) rfl ?_
          rw [HV.out, HX.out]
          exact ⟨rfl, BF.out⟩
        · have p44 : ¬ (s[i].toNat : Int) = 44 := by omega
          have n44 : ((s[i].toNat : Int) != 44) = true := by simp; omega
          by_cases h13 : s[i].toNat = 13
          · have p13 : (s[i].toNat : Int) = 13 := by omega
            have n13 : ((s[i].toNat : Int) != 13) = false := by simp; omega
            have hv : ql s.data.toList fr i = (i, 0, 0) := by rw [ql_eq, if_neg (by rw [hci]; omega)]
            have HV := hid (cel_ql HNo.out (HQ.out.trans hv))
            have kS := dslice s fr i hfi hi
            obtain ⟨X, hX⟩ : ∃ X : ByteArray, X = ⟨(sub s.data.toList fr i).toArray⟩ := ⟨_, rfl⟩
            rw [← hX] at kS
            have HX := hid hX
            have hfi2 : (fr : Int) ≤ (i : Int) := by omega
            have hi2 : (i : Int) ≤ (s.size : Int) := by omega
            obtain ⟨W, ES, hW, gW⟩ := run_fSt0 HF.out
            have EL := run_fLd hW
            have BF := hid (HB.out.grown gW HB.out.size (fun b hb => by cases hb; exact Nat.le_refl _))
            clear hW gW hv hX
            go_wp2
            refine bodyPost_ret (by simp [results, Tryz.results79, asAddr, ↓fLd_op, EL]; try rfl) rfl ?_
            rw [HV.out, HX.out]
            exact ⟨rfl, BF.out⟩
          · have p13 : ¬ (s[i].toNat : Int) = 13 := by omega
            have n13 : ((s[i].toNat : Int) != 13) = true := by simp; omega
            have hin : i < s.data.toList.length ∧ ch s.data.toList i ≠ 44 ∧ ch s.data.toList i ≠ 13 := ⟨hL, by rw [hci]; exact h44, by rw [hci]; exact h13⟩
            by_cases h10 : s[i].toNat = 10
            · have e10 : ((s[i].toNat : Int) == 10) = true := by rw [beq_iff_eq]; omega
              have p10 : (s[i].toNat : Int) = 10 := by omega
              have HV := hid (cel_qb HNo.out (by decide) (HQ.out.trans (show ql s.data.toList fr i = (0, 3, i) by rw [ql_eq, if_pos hin, if_pos (by rw [hci]; exact h10)])))
              clear hin hci h44 h13 h10
              go_wp2_with fail
              refine Calls.mono (HPl.out 3 i _ (by omega)) ?_
              rintro e w2 ⟨rfl, hb2⟩
              obtain ⟨W, ES, hW, gW⟩ := run_fSt (HF.out.big hb2) 3 (plc s.data.toList i).1 (plc s.data.toList i).2 i
              have EL := run_fLd hW
              have BF := hid ((HB.out.trans (hb2.mono HB.out.size)).grown gW (Nat.le_trans HB.out.size hb2.size) (fun b hb => by cases hb; exact Nat.le_refl _))
              obtain ⟨fv, hfv⟩ : ∃ fv, fv = fV 3 (plc s.data.toList i).1 (plc s.data.toList i).2 i := ⟨_, rfl⟩
              rw [← hfv] at ES EL ⊢
              have HFv := hid hfv
              clear hW gW hb2 hfv
              go_wp2
              refine bodyPost_ret (by simp [results, Tryz.results79, asAddr, ↓fLd_op, EL]; try rfl) rfl ?_
              rw [HV.out, HFv.out]
              exact ⟨rfl, BF.out⟩
            · have e10 : ((s[i].toNat : Int) == 10) = false := by rw [beq_eq_false_iff_ne]; omega
              have p10 : ¬ (s[i].toNat : Int) = 10 := by omega
              by_cases h34 : s[i].toNat = 34
              · have e34 : ((s[i].toNat : Int) == 34) = true := by rw [beq_iff_eq]; omega
                have p34 : (s[i].toNat : Int) = 34 := by omega
                have HV := hid (cel_qb HNo.out (by decide) (HQ.out.trans (show ql s.data.toList fr i = (0, 2, i) by rw [ql_eq, if_pos hin, if_neg (by rw [hci]; exact h10), if_pos (by rw [hci]; exact h34)])))
                clear hin hci h44 h13 h10 h34
                go_wp2_with fail
                refine Calls.mono (HPl.out 2 i _ (by omega)) ?_
                rintro e w2 ⟨rfl, hb2⟩
                obtain ⟨W, ES, hW, gW⟩ := run_fSt (HF.out.big hb2) 2 (plc s.data.toList i).1 (plc s.data.toList i).2 i
                have EL := run_fLd hW
                have BF := hid ((HB.out.trans (hb2.mono HB.out.size)).grown gW (Nat.le_trans HB.out.size hb2.size) (fun b hb => by cases hb; exact Nat.le_refl _))
                obtain ⟨fv, hfv⟩ : ∃ fv, fv = fV 2 (plc s.data.toList i).1 (plc s.data.toList i).2 i := ⟨_, rfl⟩
                rw [← hfv] at ES EL ⊢
                have HFv := hid hfv
                clear hW gW hb2 hfv
                go_wp2
                refine bodyPost_ret (by simp [results, Tryz.results79, asAddr, ↓fLd_op, EL]; try rfl) rfl ?_
                rw [HV.out, HFv.out]
                exact ⟨rfl, BF.out⟩
              · have e34 : ((s[i].toNat : Int) == 34) = false := by rw [beq_eq_false_iff_ne]; omega
                have p34 : ¬ (s[i].toNat : Int) = 34 := by omega
                by_cases h9 : s[i].toNat = 9
                · have e9 : ((s[i].toNat : Int) == 9) = true := by rw [beq_iff_eq]; omega
                  have p9 : (s[i].toNat : Int) = 9 := by omega
                  have HV := hid (cel_qb HNo.out (by decide) (HQ.out.trans (show ql s.data.toList fr i = (0, 4, i) by rw [ql_eq, if_pos hin, if_neg (by rw [hci]; exact h10), if_neg (by rw [hci]; exact h34), if_pos (.inl (by rw [hci]; exact h9))])))
                  clear hin hci h44 h13 h10 h34 h9
                  go_wp2_with fail
                  refine Calls.mono (HPl.out 4 i _ (by omega)) ?_
                  rintro e w2 ⟨rfl, hb2⟩
                  obtain ⟨W, ES, hW, gW⟩ := run_fSt (HF.out.big hb2) 4 (plc s.data.toList i).1 (plc s.data.toList i).2 i
                  have EL := run_fLd hW
                  have BF := hid ((HB.out.trans (hb2.mono HB.out.size)).grown gW (Nat.le_trans HB.out.size hb2.size) (fun b hb => by cases hb; exact Nat.le_refl _))
                  obtain ⟨fv, hfv⟩ : ∃ fv, fv = fV 4 (plc s.data.toList i).1 (plc s.data.toList i).2 i := ⟨_, rfl⟩
                  rw [← hfv] at ES EL ⊢
                  have HFv := hid hfv
                  clear hW gW hb2 hfv
                  go_wp2
                  refine bodyPost_ret (by simp [results, Tryz.results79, asAddr, ↓fLd_op, EL]; try rfl) rfl ?_
                  rw [HV.out, HFv.out]
                  exact ⟨rfl, BF.out⟩
                · have e9 : ((s[i].toNat : Int) == 9) = false := by rw [beq_eq_false_iff_ne]; omega
                  have p9 : ¬ (s[i].toNat : Int) = 9 := by omega
                  by_cases hm : mayB s[i].toNat = false
                  · have HV := hid (cel_qb HNo.out (by decide) (HQ.out.trans (show ql s.data.toList fr i = (0, 4, i) by rw [ql_eq, if_pos hin, if_neg (by rw [hci]; exact h10), if_neg (by rw [hci]; exact h34), if_pos (.inr (by rw [hci]; exact hm))])))
                    have HMi := hid (show ∀ w, Calls Tryz.prog 90 #[.int .u8 (s[i].toNat : Int)] w fun e w' => e = .returned (.bool false) ∧ w' = w from fun w => by have := HM.out s[i] w; rw [hm] at this; exact this)
                    clear hin hci h44 h13 h10 h34 h9 hm
                    go_wp2_with fail
                    refine Calls.mono (HMi.out _) ?_
                    rintro e w1 ⟨rfl, hw⟩
                    replace hw := hw.symm
                    subst hw
                    go_wp2_with fail
                    refine Calls.mono (HPl.out 4 i _ (by omega)) ?_
                    rintro e w2 ⟨rfl, hb2⟩
                    obtain ⟨W, ES, hW, gW⟩ := run_fSt (HF.out.big hb2) 4 (plc s.data.toList i).1 (plc s.data.toList i).2 i
                    have EL := run_fLd hW
                    have BF := hid ((HB.out.trans (hb2.mono HB.out.size)).grown gW (Nat.le_trans HB.out.size hb2.size) (fun b hb => by cases hb; exact Nat.le_refl _))
                    obtain ⟨fv, hfv⟩ : ∃ fv, fv = fV 4 (plc s.data.toList i).1 (plc s.data.toList i).2 i := ⟨_, rfl⟩
                    rw [← hfv] at ES EL ⊢
                    have HFv := hid hfv
                    clear hW gW hb2 hfv
                    go_wp2
                    refine bodyPost_ret (by simp [results, Tryz.results79, asAddr, ↓fLd_op, EL]; try rfl) rfl ?_
                    rw [HV.out, HFv.out]
                    exact ⟨rfl, BF.out⟩
                  · rw [Bool.not_eq_false] at hm
                    have HMi := hid (show ∀ w, Calls Tryz.prog 90 #[.int .u8 (s[i].toNat : Int)] w fun e w' => e = .returned (.bool true) ∧ w' = w from fun w => by have := HM.out s[i] w; rw [hm] at this; exact this)
                    have h9n : ¬ (ch s.data.toList i = 9 ∨ mayB (ch s.data.toList i) = false) := by rw [hci, hm]; intro h; rcases h with h | h; exact h9 h; exact absurd h (by decide)
                    by_cases hl : i - fr = 4096
                    · have HV := hid (cel_qb HNo.out (by decide) (HQ.out.trans (show ql s.data.toList fr i = (0, 5, i) by rw [ql_eq, if_pos hin, if_neg (by rw [hci]; exact h10), if_neg (by rw [hci]; exact h34), if_neg h9n, if_pos hl])))
                      have el : ((i : Int) - (fr : Int) == 4096) = true := by rw [beq_iff_eq]; omega
                      have pl : (i : Int) - (fr : Int) = 4096 := by omega
                      clear hin hci h44 h13 h10 h34 h9 hm h9n hl pl
                      go_wp2_with fail
                      refine Calls.mono (HMi.out _) ?_
                      rintro e w1 ⟨rfl, hw⟩
                      replace hw := hw.symm
                      subst hw
                      go_wp2_with fail
                      refine Calls.mono (HPl.out 5 i _ (by omega)) ?_
                      rintro e w2 ⟨rfl, hb2⟩
                      obtain ⟨W, ES, hW, gW⟩ := run_fSt (HF.out.big hb2) 5 (plc s.data.toList i).1 (plc s.data.toList i).2 i
                      have EL := run_fLd hW
                      have BF := hid ((HB.out.trans (hb2.mono HB.out.size)).grown gW (Nat.le_trans HB.out.size hb2.size) (fun b hb => by cases hb; exact Nat.le_refl _))
                      obtain ⟨fv, hfv⟩ : ∃ fv, fv = fV 5 (plc s.data.toList i).1 (plc s.data.toList i).2 i := ⟨_, rfl⟩
                      rw [← hfv] at ES EL ⊢
                      have HFv := hid hfv
                      clear hW gW hb2 hfv
                      go_wp2
                      refine bodyPost_ret (by simp [results, Tryz.results79, asAddr, ↓fLd_op, EL]; try rfl) rfl ?_
                      rw [HV.out, HFv.out]
                      exact ⟨rfl, BF.out⟩
                    · have HV := hid (HQ.out.trans (show ql s.data.toList fr i = ql s.data.toList fr (i + 1) by rw [ql_eq s.data.toList fr i, if_pos hin, if_neg (by rw [hci]; exact h10), if_neg (by rw [hci]; exact h34), if_neg h9n, if_neg hl]))
                      have el : ((i : Int) - (fr : Int) == 4096) = false := by rw [beq_eq_false_iff_ne]; omega
                      have pl : ¬ (i : Int) - (fr : Int) = 4096 := by omega
                      have hl2 : i - fr ≤ 4095 := by omega
                      clear hin hci h44 h13 h10 h34 h9 hm h9n hl
                      go_wp2_with fail
                      refine Calls.mono (HMi.out _) ?_
                      rintro e w1 ⟨rfl, hw⟩
                      replace hw := hw.symm
                      subst hw
                      go_wp2
                      go_roundw
                      case rel => exact ⟨i + 1, by omega, by omega, by omega, by go_num, HV.out, HB.out, HF.out⟩
                      case measure => simp [intOf]; omega
      · have hI : ¬ (i : Int) < (s.size : Int) := by omega
        have hv : ql s.data.toList fr i = (i, 0, 0) := by rw [ql_eq, if_neg (by rw [HDS.out]; omega)]
        have HV := hid (cel_ql HNo.out (HQ.out.trans hv))
        have kS := dslice s fr i hfi hi
        obtain ⟨X, hX⟩ : ∃ X : ByteArray, X = ⟨(sub s.data.toList fr i).toArray⟩ := ⟨_, rfl⟩
        rw [← hX] at kS
        have HX := hid hX
        have hfi2 : (fr : Int) ≤ (i : Int) := by omega
        have hi2 : (i : Int) ≤ (s.size : Int) := by omega
        obtain ⟨W, ES, hW, gW⟩ := run_fSt0 HF.out
        have EL := run_fLd hW
        have BF := hid (HB.out.grown gW HB.out.size (fun b hb => by cases hb; exact Nat.le_refl _))
        clear hW gW hv hX
        go_wp2
        refine bodyPost_ret (by simp [results, Tryz.results79, asAddr, ↓fLd_op, EL]; try rfl) rfl ?_
        rw [HV.out, HX.out]
        exact ⟨rfl, BF.out⟩
  · have hO : ¬ (fr : Int) < (s.size : Int) := by omega
    clear hno
    go_wp2_with fail
    go_loopw [10] (fun j wr => ∃ (i : Nat), fr ≤ i ∧ i ≤ s.size ∧ i - fr ≤ 4096 ∧ j = .int .i64 (i : Int) ∧ ql s.data.toList fr fr = ql s.data.toList fr i ∧ Below w.heap.size w wr ∧ FW wr w.heap.size 0 0 0 0) (fun j _ => s.size - (intOf j).toNat)
    case atStart =>
      refine ⟨fr, Nat.le_refl _, hf, by omega, rfl, rfl, (Below.refl _ _).alloc (Nat.le_refl _) _, FW.new w⟩
    case round =>
      obtain ⟨i, hfi, hi, hi4, rfl, hqd, hbl, hfb⟩ := hrel
      have r2 : i ≤ 200000000000000 := by omega
      have HQ := hid hqd
      have HB := hid hbl
      have HF := hid hfb
      clear hqd hbl hfb
      by_cases hlt : i < s.size
      · have hI : (i : Int) < (s.size : Int) := by omega
        have hL : i < s.data.toList.length := by rw [HDS.out]; exact hlt
        have hci : ch s.data.toList i = s[i].toNat := by unfold ch; rw [bt_at s i hlt]
        by_cases h44 : s[i].toNat = 44
        · have p44 : (s[i].toNat : Int) = 44 := by omega
          have n44 : ((s[i].toNat : Int) != 44) = false := by simp; omega
          have hv : ql s.data.toList fr i = (i, 0, 0) := by rw [ql_eq, if_neg (by rw [hci]; omega)]
          have HV := hid (cel_ql HNo.out (HQ.out.trans hv))
          have kS := dslice s fr i hfi hi
          obtain ⟨X, hX⟩ : ∃ X : ByteArray, X = ⟨(sub s.data.toList fr i).toArray⟩ := ⟨_, rfl⟩
          rw [← hX] at kS
          have HX := hid hX
          have hfi2 : (fr : Int) ≤ (i : Int) := by omega
          have hi2 : (i : Int) ≤ (s.size : Int) := by omega
          obtain ⟨W, ES, hW, gW⟩ := run_fSt0 HF.out
          have EL := run_fLd hW
          have BF := hid (HB.out.grown gW HB.out.size (fun b hb => by cases hb; exact Nat.le_refl _))
          clear hW gW hv hX
          go_wp2
          refine bodyPost_ret (by simp [results, Tryz.results79, asAddr, ↓fLd_op, EL]; try rfl) rfl ?_
          rw [HV.out, HX.out]
          exact ⟨rfl, BF.out⟩
        · have p44 : ¬ (s[i].toNat : Int) = 44 := by omega
          have n44 : ((s[i].toNat : Int) != 44) = true := by simp; omega
          by_cases h13 : s[i].toNat = 13
          · have p13 : (s[i].toNat : Int) = 13 := by omega
            have n13 : ((s[i].toNat : Int) != 13) = false := by simp; omega
            have hv : ql s.data.toList fr i = (i, 0, 0) := by rw [ql_eq, if_neg (by rw [hci]; omega)]
            have HV := hid (cel_ql HNo.out (HQ.out.trans hv))
            have kS := dslice s fr i hfi hi
            obtain ⟨X, hX⟩ : ∃ X : ByteArray, X = ⟨(sub s.data.toList fr i).toArray⟩ := ⟨_, rfl⟩
            rw [← hX] at kS
            have HX := hid hX
            have hfi2 : (fr : Int) ≤ (i : Int) := by omega
            have hi2 : (i : Int) ≤ (s.size : Int) := by omega
            obtain ⟨W, ES, hW, gW⟩ := run_fSt0 HF.out
            have EL := run_fLd hW
            have BF := hid (HB.out.grown gW HB.out.size (fun b hb => by cases hb; exact Nat.le_refl _))
            clear hW gW hv hX
            go_wp2
            refine bodyPost_ret (by simp [results, Tryz.results79, asAddr, ↓fLd_op, EL]; try rfl) rfl ?_
            rw [HV.out, HX.out]
            exact ⟨rfl, BF.out⟩
          · have p13 : ¬ (s[i].toNat : Int) = 13 := by omega
            have n13 : ((s[i].toNat : Int) != 13) = true := by simp; omega
            have hin : i < s.data.toList.length ∧ ch s.data.toList i ≠ 44 ∧ ch s.data.toList i ≠ 13 := ⟨hL, by rw [hci]; exact h44, by rw [hci]; exact h13⟩
            by_cases h10 : s[i].toNat = 10
            · have e10 : ((s[i].toNat : Int) == 10) = true := by rw [beq_iff_eq]; omega
              have p10 : (s[i].toNat : Int) = 10 := by omega
              have HV := hid (cel_qb HNo.out (by decide) (HQ.out.trans (show ql s.data.toList fr i = (0, 3, i) by rw [ql_eq, if_pos hin, if_pos (by rw [hci]; exact h10)])))
              clear hin hci h44 h13 h10
              go_wp2_with fail
              refine Calls.mono (HPl.out 3 i _ (by omega)) ?_
              rintro e w2 ⟨rfl, hb2⟩
              obtain ⟨W, ES, hW, gW⟩ := run_fSt (HF.out.big hb2) 3 (plc s.data.toList i).1 (plc s.data.toList i).2 i
              have EL := run_fLd hW
              have BF := hid ((HB.out.trans (hb2.mono HB.out.size)).grown gW (Nat.le_trans HB.out.size hb2.size) (fun b hb => by cases hb; exact Nat.le_refl _))
              obtain ⟨fv, hfv⟩ : ∃ fv, fv = fV 3 (plc s.data.toList i).1 (plc s.data.toList i).2 i := ⟨_, rfl⟩
              rw [← hfv] at ES EL ⊢
              have HFv := hid hfv
              clear hW gW hb2 hfv
              go_wp2
              refine bodyPost_ret (by simp [results, Tryz.results79, asAddr, ↓fLd_op, EL]; try rfl) rfl ?_
              rw [HV.out, HFv.out]
              exact ⟨rfl, BF.out⟩
            · have e10 : ((s[i].toNat : Int) == 10) = false := by rw [beq_eq_false_iff_ne]; omega
              have p10 : ¬ (s[i].toNat : Int) = 10 := by omega
              by_cases h34 : s[i].toNat = 34
              · have e34 : ((s[i].toNat : Int) == 34) = true := by rw [beq_iff_eq]; omega
                have p34 : (s[i].toNat : Int) = 34 := by omega
                have HV := hid (cel_qb HNo.out (by decide) (HQ.out.trans (show ql s.data.toList fr i = (0, 2, i) by rw [ql_eq, if_pos hin, if_neg (by rw [hci]; exact h10), if_pos (by rw [hci]; exact h34)])))
                clear hin hci h44 h13 h10 h34
                go_wp2_with fail
                refine Calls.mono (HPl.out 2 i _ (by omega)) ?_
                rintro e w2 ⟨rfl, hb2⟩
                obtain ⟨W, ES, hW, gW⟩ := run_fSt (HF.out.big hb2) 2 (plc s.data.toList i).1 (plc s.data.toList i).2 i
                have EL := run_fLd hW
                have BF := hid ((HB.out.trans (hb2.mono HB.out.size)).grown gW (Nat.le_trans HB.out.size hb2.size) (fun b hb => by cases hb; exact Nat.le_refl _))
                obtain ⟨fv, hfv⟩ : ∃ fv, fv = fV 2 (plc s.data.toList i).1 (plc s.data.toList i).2 i := ⟨_, rfl⟩
                rw [← hfv] at ES EL ⊢
                have HFv := hid hfv
                clear hW gW hb2 hfv
                go_wp2
                refine bodyPost_ret (by simp [results, Tryz.results79, asAddr, ↓fLd_op, EL]; try rfl) rfl ?_
                rw [HV.out, HFv.out]
                exact ⟨rfl, BF.out⟩
              · have e34 : ((s[i].toNat : Int) == 34) = false := by rw [beq_eq_false_iff_ne]; omega
                have p34 : ¬ (s[i].toNat : Int) = 34 := by omega
                by_cases h9 : s[i].toNat = 9
                · have e9 : ((s[i].toNat : Int) == 9) = true := by rw [beq_iff_eq]; omega
                  have p9 : (s[i].toNat : Int) = 9 := by omega
                  have HV := hid (cel_qb HNo.out (by decide) (HQ.out.trans (show ql s.data.toList fr i = (0, 4, i) by rw [ql_eq, if_pos hin, if_neg (by rw [hci]; exact h10), if_neg (by rw [hci]; exact h34), if_pos (.inl (by rw [hci]; exact h9))])))
                  clear hin hci h44 h13 h10 h34 h9
                  go_wp2_with fail
                  refine Calls.mono (HPl.out 4 i _ (by omega)) ?_
                  rintro e w2 ⟨rfl, hb2⟩
                  obtain ⟨W, ES, hW, gW⟩ := run_fSt (HF.out.big hb2) 4 (plc s.data.toList i).1 (plc s.data.toList i).2 i
                  have EL := run_fLd hW
                  have BF := hid ((HB.out.trans (hb2.mono HB.out.size)).grown gW (Nat.le_trans HB.out.size hb2.size) (fun b hb => by cases hb; exact Nat.le_refl _))
                  obtain ⟨fv, hfv⟩ : ∃ fv, fv = fV 4 (plc s.data.toList i).1 (plc s.data.toList i).2 i := ⟨_, rfl⟩
                  rw [← hfv] at ES EL ⊢
                  have HFv := hid hfv
                  clear hW gW hb2 hfv
                  go_wp2
                  refine bodyPost_ret (by simp [results, Tryz.results79, asAddr, ↓fLd_op, EL]; try rfl) rfl ?_
                  rw [HV.out, HFv.out]
                  exact ⟨rfl, BF.out⟩
                · have e9 : ((s[i].toNat : Int) == 9) = false := by rw [beq_eq_false_iff_ne]; omega
                  have p9 : ¬ (s[i].toNat : Int) = 9 := by omega
                  by_cases hm : mayB s[i].toNat = false
                  · have HV := hid (cel_qb HNo.out (by decide) (HQ.out.trans (show ql s.data.toList fr i = (0, 4, i) by rw [ql_eq, if_pos hin, if_neg (by rw [hci]; exact h10), if_neg (by rw [hci]; exact h34), if_pos (.inr (by rw [hci]; exact hm))])))
                    have HMi := hid (show ∀ w, Calls Tryz.prog 90 #[.int .u8 (s[i].toNat : Int)] w fun e w' => e = .returned (.bool false) ∧ w' = w from fun w => by have := HM.out s[i] w; rw [hm] at this; exact this)
                    clear hin hci h44 h13 h10 h34 h9 hm
                    go_wp2_with fail
                    refine Calls.mono (HMi.out _) ?_
                    rintro e w1 ⟨rfl, hw⟩
                    replace hw := hw.symm
                    subst hw
                    go_wp2_with fail
                    refine Calls.mono (HPl.out 4 i _ (by omega)) ?_
                    rintro e w2 ⟨rfl, hb2⟩
                    obtain ⟨W, ES, hW, gW⟩ := run_fSt (HF.out.big hb2) 4 (plc s.data.toList i).1 (plc s.data.toList i).2 i
                    have EL := run_fLd hW
                    have BF := hid ((HB.out.trans (hb2.mono HB.out.size)).grown gW (Nat.le_trans HB.out.size hb2.size) (fun b hb => by cases hb; exact Nat.le_refl _))
                    obtain ⟨fv, hfv⟩ : ∃ fv, fv = fV 4 (plc s.data.toList i).1 (plc s.data.toList i).2 i := ⟨_, rfl⟩
                    rw [← hfv] at ES EL ⊢
                    have HFv := hid hfv
                    clear hW gW hb2 hfv
                    go_wp2
                    refine bodyPost_ret (by simp [results, Tryz.results79, asAddr, ↓fLd_op, EL]; try rfl) rfl ?_
                    rw [HV.out, HFv.out]
                    exact ⟨rfl, BF.out⟩
                  · rw [Bool.not_eq_false] at hm
                    have HMi := hid (show ∀ w, Calls Tryz.prog 90 #[.int .u8 (s[i].toNat : Int)] w fun e w' => e = .returned (.bool true) ∧ w' = w from fun w => by have := HM.out s[i] w; rw [hm] at this; exact this)
                    have h9n : ¬ (ch s.data.toList i = 9 ∨ mayB (ch s.data.toList i) = false) := by rw [hci, hm]; intro h; rcases h with h | h; exact h9 h; exact absurd h (by decide)
                    by_cases hl : i - fr = 4096
                    · have HV := hid (cel_qb HNo.out (by decide) (HQ.out.trans (show ql s.data.toList fr i = (0, 5, i) by rw [ql_eq, if_pos hin, if_neg (by rw [hci]; exact h10), if_neg (by rw [hci]; exact h34), if_neg h9n, if_pos hl])))
                      have el : ((i : Int) - (fr : Int) == 4096) = true := by rw [beq_iff_eq]; omega
                      have pl : (i : Int) - (fr : Int) = 4096 := by omega
                      clear hin hci h44 h13 h10 h34 h9 hm h9n hl pl
                      go_wp2_with fail
                      refine Calls.mono (HMi.out _) ?_
                      rintro e w1 ⟨rfl, hw⟩
                      replace hw := hw.symm
                      subst hw
                      go_wp2_with fail
                      refine Calls.mono (HPl.out 5 i _ (by omega)) ?_
                      rintro e w2 ⟨rfl, hb2⟩
                      obtain ⟨W, ES, hW, gW⟩ := run_fSt (HF.out.big hb2) 5 (plc s.data.toList i).1 (plc s.data.toList i).2 i
                      have EL := run_fLd hW
                      have BF := hid ((HB.out.trans (hb2.mono HB.out.size)).grown gW (Nat.le_trans HB.out.size hb2.size) (fun b hb => by cases hb; exact Nat.le_refl _))
                      obtain ⟨fv, hfv⟩ : ∃ fv, fv = fV 5 (plc s.data.toList i).1 (plc s.data.toList i).2 i := ⟨_, rfl⟩
                      rw [← hfv] at ES EL ⊢
                      have HFv := hid hfv
                      clear hW gW hb2 hfv
                      go_wp2
                      refine bodyPost_ret (by simp [results, Tryz.results79, asAddr, ↓fLd_op, EL]; try rfl) rfl ?_
                      rw [HV.out, HFv.out]
                      exact ⟨rfl, BF.out⟩
                    · have HV := hid (HQ.out.trans (show ql s.data.toList fr i = ql s.data.toList fr (i + 1) by rw [ql_eq s.data.toList fr i, if_pos hin, if_neg (by rw [hci]; exact h10), if_neg (by rw [hci]; exact h34), if_neg h9n, if_neg hl]))
                      have el : ((i : Int) - (fr : Int) == 4096) = false := by rw [beq_eq_false_iff_ne]; omega
                      have pl : ¬ (i : Int) - (fr : Int) = 4096 := by omega
                      have hl2 : i - fr ≤ 4095 := by omega
                      clear hin hci h44 h13 h10 h34 h9 hm h9n hl
                      go_wp2_with fail
                      refine Calls.mono (HMi.out _) ?_
                      rintro e w1 ⟨rfl, hw⟩
                      replace hw := hw.symm
                      subst hw
                      go_wp2
                      go_roundw
                      case rel => exact ⟨i + 1, by omega, by omega, by omega, by go_num, HV.out, HB.out, HF.out⟩
                      case measure => simp [intOf]; omega
      · have hI : ¬ (i : Int) < (s.size : Int) := by omega
        have hv : ql s.data.toList fr i = (i, 0, 0) := by rw [ql_eq, if_neg (by rw [HDS.out]; omega)]
        have HV := hid (cel_ql HNo.out (HQ.out.trans hv))
        have kS := dslice s fr i hfi hi
        obtain ⟨X, hX⟩ : ∃ X : ByteArray, X = ⟨(sub s.data.toList fr i).toArray⟩ := ⟨_, rfl⟩
        rw [← hX] at kS
        have HX := hid hX
        have hfi2 : (fr : Int) ≤ (i : Int) := by omega
        have hi2 : (i : Int) ≤ (s.size : Int) := by omega
        obtain ⟨W, ES, hW, gW⟩ := run_fSt0 HF.out
        have EL := run_fLd hW
        have BF := hid (HB.out.grown gW HB.out.size (fun b hb => by cases hb; exact Nat.le_refl _))
        clear hW gW hv hX
        go_wp2
        refine bodyPost_ret (by simp [results, Tryz.results79, asAddr, ↓fLd_op, EL]; try rfl) rfl ?_
        rw [HV.out, HX.out]
        exact ⟨rfl, BF.out⟩

theorem cel_qd {L : List UInt8} {fr : Nat} (h : fr < L.length ∧ ch L fr = 34) (hq : (qd L fr (fr + 1) []).2.2.1 ≠ 0 ∨ (qd L fr (fr + 1) []).2.1 = L.length ∨ ch L (qd L fr (fr + 1) []).2.1 = 44 ∨ ch L (qd L fr (fr + 1) []).2.1 = 13) : cel L fr = qd L fr (fr + 1) [] := by
  rw [cel, if_pos h]
  simp only []
  rw [if_pos hq]
theorem cel_qn {L : List UInt8} {fr : Nat} (h : fr < L.length ∧ ch L fr = 34) (hq : ¬ ((qd L fr (fr + 1) []).2.2.1 ≠ 0 ∨ (qd L fr (fr + 1) []).2.1 = L.length ∨ ch L (qd L fr (fr + 1) []).2.1 = 44 ∨ ch L (qd L fr (fr + 1) []).2.1 = 13)) : cel L fr = (if ch L (qd L fr (fr + 1) []).2.1 = 10 then ([], 0, 3, (qd L fr (fr + 1) []).2.1) else ([], 0, 2, (qd L fr (fr + 1) []).2.1)) := by
  rw [cel, if_pos h]
  simp only []
  rw [if_neg hq]
set_option maxHeartbeats 8000000 in
theorem dcell_q (s : ByteArray) (fr : Nat) (w : World) (hs : s.size ≤ 140737500000000) (hf : fr < s.size) (h34 : ch s.data.toList fr = 34) :
    Calls Tryz.prog 79 #[.string s, .int .i64 (fr : Int)] w fun e w' => e = .returned (.tuple #[.string ⟨(cel s.data.toList fr).1.toArray⟩, .int .i64 ((cel s.data.toList fr).2.1 : Int), fQ s.data.toList (cel s.data.toList fr).2.2.1 (cel s.data.toList fr).2.2.2]) ∧ Below w.heap.size w w' := by
  have HPl := hid (fun c i w (hi : i ≤ s.size) => placed_any s c i w hs hi)
  have HQd := hid (fun w => dquoted_any s fr w hs hf)
  have hds : s.data.toList.length = s.size := by rw [Array.length_toList]; rfl
  have r1 : fr ≤ 200000000000000 := by omega
  have hY : fr < s.data.toList.length ∧ ch s.data.toList fr = 34 := ⟨by rw [hds]; exact hf, h34⟩
  have hin : (qd s.data.toList fr (fr + 1) []).2.2.1 = 0 → (qd s.data.toList fr (fr + 1) []).2.1 ≤ s.size := fun h0 => by
    have := (qd_form s.data.toList fr _ (fr + 1) [] (Nat.le_refl _) (by omega) (Nat.le_refl _) ⟨by simp, by simp⟩ (by simp [dbl]) h0).2.2.2
    omega
  have hI : (fr : Int) < (s.size : Int) := by omega
  have p34 : (s[fr].toNat : Int) = 34 := by unfold ch at h34; rw [bt_at s fr hf] at h34; omega
  have e34 : ((s[fr].toNat : Int) == 34) = true := by rw [beq_iff_eq]; exact p34
  have hK1 := cel_qd hY
  have hK2 := cel_qn hY
  have HDS := hid hds
  clear h34 hds hY
  generalize cel s.data.toList fr = C at *
  obtain ⟨⟨T, j, c, f⟩, hq⟩ : ∃ q, q = qd s.data.toList fr (fr + 1) [] := ⟨_, rfl⟩
  rw [← hq] at hK1 hK2 hin HQd
  simp only at hK1 hK2 hin
  clear hq
  go_enter Tryz.func79, Tryz.ntmps79
  go_wp2_with fail
  refine Calls.mono (HQd.out _) ?_
  rintro e w1 ⟨rfl, hb1⟩
  have hB1 : Below w.heap.size w w1 := ((Below.refl _ w).alloc (Nat.le_refl _) _).trans (hb1.mono (by simp))
  have hF1 : FW w1 w.heap.size 0 0 0 0 := (FW.new w).big hb1
  simp only []
  rw [fQ_is]
  obtain ⟨W1, ES1, hW1, hbW, hzW⟩ := run_fStN w1 c (fP s.data.toList c f).1 (fP s.data.toList c f).2.1 (fP s.data.toList c f).2.2
  have HB := hid (hB1.trans (hbW.mono hB1.size))
  have HF := hid (hF1.big hbW)
  have hc0 := hW1.cell
  have HW1 := hid hW1
  obtain ⟨fv, hfv⟩ : ∃ fv, fv = fV c (fP s.data.toList c f).1 (fP s.data.toList c f).2.1 (fP s.data.toList c f).2.2 := ⟨_, rfl⟩
  have HFv := hid hfv
  rw [← hfv] at ES1 ⊢
  have hzz : w1.heap.size ≤ 1000000000000000000 ∨ True := .inr trivial
  clear hb1 hB1 hF1 hbW hW1 hfv hzz HQd
  by_cases hc : c = 0
  · subst hc
    have hj : j ≤ s.size := hin rfl
    have r2 : j ≤ 200000000000000 := by omega
    have hc0' : W1.cell? ⟨w1.heap.size, 0, none⟩ = some (.int .i64 0) := hc0
    clear hc0
    by_cases hje : j = s.size
    · have pj : (j : Int) = (s.size : Int) := by omega
      have ej : ((j : Int) == (s.size : Int)) = true := by rw [beq_iff_eq]; exact pj
      have HV := hid (hK1 (.inr (.inl (hje.trans HDS.out.symm))))
      clear hK1 hK2 hin pj hje
      obtain ⟨W, ES, hW, gW⟩ := run_fSt HF.out.drew 0 (fP s.data.toList 0 f).1 (fP s.data.toList 0 f).2.1 (fP s.data.toList 0 f).2.2
      have EL1 := run_fLd HW1.out.drew
      have EL := run_fLd hW
      have BF := hid (HB.out.drew.grown gW HB.out.size (fun b hb => by cases hb; exact Nat.le_refl _))
      rw [← HFv.out] at ES EL1 EL
      clear hW gW
      go_wp2_with fail
      go_region
      all_goals
        go_wp2
        refine bodyPost_ret (by simp [results, Tryz.results79, asAddr, ↓fLd_op, EL]; try rfl) rfl ?_
        rw [HV.out, fQ_is, ← HFv.out]
        exact ⟨rfl, BF.out⟩
    · have hjl : j < s.size := by omega
      have hJ : (j : Int) < (s.size : Int) := by omega
      have pj : ¬ (j : Int) = (s.size : Int) := by omega
      have ej : ((j : Int) == (s.size : Int)) = false := by rw [beq_eq_false_iff_ne]; exact pj
      have hcj : ch s.data.toList j = s[j].toNat := by unfold ch; rw [bt_at s j hjl]
      rw [hcj] at hK1 hK2
      by_cases h44 : s[j].toNat = 44
      · have p44 : (s[j].toNat : Int) = 44 := by omega
        have e44 : ((s[j].toNat : Int) == 44) = true := by rw [beq_iff_eq]; exact p44
        have HV := hid (hK1 (.inr (.inr (.inl h44))))
        clear hK1 hK2 hin hcj h44 pj
        obtain ⟨W, ES, hW, gW⟩ := run_fSt HF.out.drew 0 (fP s.data.toList 0 f).1 (fP s.data.toList 0 f).2.1 (fP s.data.toList 0 f).2.2
        have EL1 := run_fLd HW1.out.drew
        have EL := run_fLd hW
        have BF := hid (HB.out.drew.grown gW HB.out.size (fun b hb => by cases hb; exact Nat.le_refl _))
        rw [← HFv.out] at ES EL1 EL
        clear hW gW
        go_wp2_with fail
        go_region
        all_goals
          go_wp2
          refine bodyPost_ret (by simp [results, Tryz.results79, asAddr, ↓fLd_op, EL]; try rfl) rfl ?_
          rw [HV.out, fQ_is, ← HFv.out]
          exact ⟨rfl, BF.out⟩
      · have p44 : ¬ (s[j].toNat : Int) = 44 := by omega
        have e44 : ((s[j].toNat : Int) == 44) = false := by rw [beq_eq_false_iff_ne]; exact p44
        by_cases h13 : s[j].toNat = 13
        · have p13 : (s[j].toNat : Int) = 13 := by omega
          have e13 : ((s[j].toNat : Int) == 13) = true := by rw [beq_iff_eq]; exact p13
          have HV := hid (hK1 (.inr (.inr (.inr h13))))
          clear hK1 hK2 hin hcj h44 pj h13
          obtain ⟨W, ES, hW, gW⟩ := run_fSt HF.out.drew 0 (fP s.data.toList 0 f).1 (fP s.data.toList 0 f).2.1 (fP s.data.toList 0 f).2.2
          have EL1 := run_fLd HW1.out.drew
          have EL := run_fLd hW
          have BF := hid (HB.out.drew.grown gW HB.out.size (fun b hb => by cases hb; exact Nat.le_refl _))
          rw [← HFv.out] at ES EL1 EL
          clear hW gW
          go_wp2_with fail
          go_region
          all_goals
            go_wp2
            refine bodyPost_ret (by simp [results, Tryz.results79, asAddr, ↓fLd_op, EL]; try rfl) rfl ?_
            rw [HV.out, fQ_is, ← HFv.out]
            exact ⟨rfl, BF.out⟩
        · have p13 : ¬ (s[j].toNat : Int) = 13 := by omega
          have e13 : ((s[j].toNat : Int) == 13) = false := by rw [beq_eq_false_iff_ne]; exact p13
          have hK3 := hK2 (by rw [HDS.out]; omega)
          by_cases h10 : s[j].toNat = 10
          · have p10 : (s[j].toNat : Int) = 10 := by omega
            have e10 : ((s[j].toNat : Int) == 10) = true := by rw [beq_iff_eq]; exact p10
            rw [if_pos h10] at hK3
            have HV := hid hK3
            clear hK1 hK2 hK3 hin hcj h44 pj h13 h10
            go_wp2_with fail
            refine Calls.mono (HPl.out 3 j _ (by omega)) ?_
            rintro e w2 ⟨rfl, hb2⟩
            obtain ⟨W, ES, hW, gW⟩ := run_fSt (HF.out.big hb2) 3 (plc s.data.toList j).1 (plc s.data.toList j).2 j
            have EL := run_fLd hW
            have BF := hid ((HB.out.trans (hb2.mono HB.out.size)).grown gW (Nat.le_trans HB.out.size hb2.size) (fun b hb => by cases hb; exact Nat.le_refl _))
            obtain ⟨fv, hfv⟩ : ∃ fv, fv = fV 3 (plc s.data.toList j).1 (plc s.data.toList j).2 j := ⟨_, rfl⟩
            rw [← hfv] at ES EL ⊢
            have HFv := hid hfv
            clear hW gW hb2 hfv
            go_wp2
            refine bodyPost_ret (by simp [results, Tryz.results79, asAddr, ↓fLd_op, EL]; try rfl) rfl ?_
            rw [HV.out, HFv.out]
            exact ⟨rfl, BF.out⟩
          · have p10 : ¬ (s[j].toNat : Int) = 10 := by omega
            have e10 : ((s[j].toNat : Int) == 10) = false := by rw [beq_eq_false_iff_ne]; exact p10
            rw [if_neg h10] at hK3
            have HV := hid hK3
            clear hK1 hK2 hK3 hin hcj h44 pj h13 h10
            go_wp2_with fail
            refine Calls.mono (HPl.out 2 j _ (by omega)) ?_
            rintro e w2 ⟨rfl, hb2⟩
            obtain ⟨W, ES, hW, gW⟩ := run_fSt (HF.out.big hb2) 2 (plc s.data.toList j).1 (plc s.data.toList j).2 j
            have EL := run_fLd hW
            have BF := hid ((HB.out.trans (hb2.mono HB.out.size)).grown gW (Nat.le_trans HB.out.size hb2.size) (fun b hb => by cases hb; exact Nat.le_refl _))
            obtain ⟨fv, hfv⟩ : ∃ fv, fv = fV 2 (plc s.data.toList j).1 (plc s.data.toList j).2 j := ⟨_, rfl⟩
            rw [← hfv] at ES EL ⊢
            have HFv := hid hfv
            clear hW gW hb2 hfv
            go_wp2
            refine bodyPost_ret (by simp [results, Tryz.results79, asAddr, ↓fLd_op, EL]; try rfl) rfl ?_
            rw [HV.out, HFv.out]
            exact ⟨rfl, BF.out⟩
  · have hcn : ((c : Int) != 0) = true := by simp; omega
    have hcp : ¬ (c : Int) = 0 := by omega
    have HV := hid (hK1 (.inl hc))
    clear hK1 hK2 hin hc
    obtain ⟨W, ES, hW, gW⟩ := run_fSt HF.out.drew c (fP s.data.toList c f).1 (fP s.data.toList c f).2.1 (fP s.data.toList c f).2.2
    have EL1 := run_fLd HW1.out.drew
    have EL := run_fLd hW
    have BF := hid (HB.out.drew.grown gW HB.out.size (fun b hb => by cases hb; exact Nat.le_refl _))
    rw [← HFv.out] at ES EL1 EL
    clear hW gW
    go_wp2_with fail
    go_region
    all_goals
      go_wp2
      refine bodyPost_ret (by simp [results, Tryz.results79, asAddr, ↓fLd_op, EL]; try rfl) rfl ?_
      rw [HV.out, fQ_is, ← HFv.out]
      exact ⟨rfl, BF.out⟩
theorem dcell_any (s : ByteArray) (fr : Nat) (w : World) (hs : s.size ≤ 140737500000000) (hf : fr ≤ s.size) :
    Calls Tryz.prog 79 #[.string s, .int .i64 (fr : Int)] w fun e w' => e = .returned (.tuple #[.string ⟨(cel s.data.toList fr).1.toArray⟩, .int .i64 ((cel s.data.toList fr).2.1 : Int), fQ s.data.toList (cel s.data.toList fr).2.2.1 (cel s.data.toList fr).2.2.2]) ∧ Below w.heap.size w w' := by
  by_cases h : fr < s.size ∧ ch s.data.toList fr = 34
  · exact dcell_q s fr w hs h.1 h.2
  · exact dcell_p s fr w hs hf h
end Go.Proofs.YtpgpeafmlijfkaaGreatDoor
