/-
  Sheets, the document's side: quoted. Laid by mkdsq.py.
-/
import Derived.Test.YtpgpeafmlijfkaaGreatDoorDfw
import Derived.Test.YtpgpeafmlijfkaaGreatDoorSq5
import Derived.Laws.IdiomStrings
import Derived.Laws.BytesString
namespace Go.Proofs.YtpgpeafmlijfkaaGreatDoor
open Go.RowKit
set_option maxRecDepth 100000
set_option linter.unusedVariables false
set_option linter.unusedSimpArgs false

/-- a text of bytes of the call's own -/
theorem conv_own {w : World} {B : Nat} {v : Value} {t : List UInt8} (h : w.ownsRow B 5 1 v t.length (Lib.byteCells t)) : (convert 37 9 v).run Tryz.prog w = .ok (.string ⟨t.toArray⟩) w := by
  have hc := fun g hg => World.ownsRow.cells h (g := g) hg
  rcases h.2 with ⟨rfl, h0⟩ | ⟨g, cap, cur, rfl, _⟩
  · have ht : t = [] := List.eq_nil_of_length_eq_zero h0
    subst ht
    rw [run_convert_bytes_string w 37 9 5 none 0 0 Tryz.underlying37 Tryz.underlying5 Tryz.underlying9]
    rfl
  · exact run_convert_bytes_back w 37 9 5 _ cap t Tryz.underlying37 Tryz.underlying5 Tryz.underlying9 (fun j hj => hc g rfl j _ (by simp [Lib.byteCells, hj]))
theorem own_big {w w' : World} {B e n : Nat} {v : Value} {xs : List Value} (h : w.ownsRow B e 1 v n xs) (hb : Below w.heap.size w w') : w'.ownsRow B e 1 v n xs := own_of h fun g hg => hb.block g (World.ownsRow.lt h g hg).2
attribute [local go_sem ↓] fLd_op fSt_op
set_option maxHeartbeats 12000000 in
theorem dquoted_any (s : ByteArray) (fr : Nat) (w : World) (hs : s.size ≤ 140737500000000) (hf : fr < s.size) :
    Calls Tryz.prog 89 #[.string s, .int .i64 (fr : Int)] w fun e w' => e = .returned (.tuple #[.string ⟨(qd s.data.toList fr (fr + 1) []).1.toArray⟩, .int .i64 ((qd s.data.toList fr (fr + 1) []).2.1 : Int), fQ s.data.toList (qd s.data.toList fr (fr + 1) []).2.2.1 (qd s.data.toList fr (fr + 1) []).2.2.2]) ∧ Below w.heap.size w w' := by
  have HM := hid (fun c w => dmay_any c w)
  have HPl := hid (fun c i w (hi : i ≤ s.size) => placed_any s c i w hs hi)
  have hds : s.data.toList.length = s.size := by rw [Array.length_toList]; rfl
  have r1 : fr ≤ 200000000000000 := by omega
  go_enter Tryz.func89, Tryz.ntmps89
  go_wp2_with fail
  go_loopw [7, 8] (fun tv j wr => ∃ (i : Nat) (t : List UInt8), i ≤ s.size ∧ j = .int .i64 (i : Int) ∧ wr.ownsRow w.heap.size 5 1 tv t.length (Lib.byteCells t) ∧ t.length ≤ 4096 ∧ qd s.data.toList fr (fr + 1) [] = qd s.data.toList fr i t ∧ Below w.heap.size w wr ∧ FW wr w.heap.size 0 0 0 0) (fun _ j _ => s.size - (intOf j).toNat)
  case atStart =>
    refine ⟨fr + 1, [], hf, by go_num, World.ownsRow_nil _ _ _ _, by simp, rfl, (Below.refl _ _).alloc (Nat.le_refl _) _, FW.new w⟩
  case round =>
    obtain ⟨i, t, hi, rfl, hown, htl, hqd, hbl, hfb⟩ := hrel
    obtain ⟨ta, tc, rfl⟩ := own_slice hown
    have r2 : i ≤ 200000000000000 := by omega
    have kc := conv_own hown
    have HO := hid hown
    have HQ := hid hqd
    have HB := hid hbl
    have HF := hid hfb
    have HDS := hid hds
    clear hown hqd hbl hfb hds
    by_cases hlt : i < s.size
    · have hI : (i : Int) < (s.size : Int) := by omega
      have hL : i < s.data.toList.length := by rw [HDS.out]; exact hlt
      have hci : ch s.data.toList i = s[i].toNat := by unfold ch; rw [bt_at s i hlt]
      by_cases h34 : s[i].toNat = 34
      · have p34 : (s[i].toNat : Int) = 34 := by omega
        have e34 : ((s[i].toNat : Int) == 34) = true := by rw [beq_iff_eq]; exact p34
        by_cases hend : s.size ≤ i + 1
        · have hv : qd s.data.toList fr i t = (t, i + 1, 0, 0) := by rw [qd_eq, if_pos hL, if_pos (by rw [hci]; exact h34), if_pos (.inl (by rw [HDS.out]; exact hend))]
          have HV := hid (HQ.out.trans hv)
          have hJ : (s.size : Int) ≤ (i : Int) + 1 := by omega
          have dJ : decide ((s.size : Int) ≤ (i : Int) + 1) = true := by simp; omega
          clear hv hci h34 hend
          obtain ⟨W, ES, hW, gW⟩ := run_fSt0 HF.out
          have EL := run_fLd hW
          have BF := hid (HB.out.grown gW HB.out.size (fun b hb => by cases hb; exact Nat.le_refl _))
          clear hW gW
          go_wp2
          refine bodyPost_ret (by simp [results, Tryz.results89, asAddr, ↓fLd_op, EL]; try rfl) rfl ?_
          rw [HV.out]
          exact ⟨rfl, BF.out⟩
        · skip
          have hlt2 : i + 1 < s.size := by omega
          have hJ : ¬ (s.size : Int) ≤ (i : Int) + 1 := by omega
          have dJ : decide ((s.size : Int) ≤ (i : Int) + 1) = false := by simp; omega
          have hI2 : (i : Int) + 1 < (s.size : Int) := by omega
          have hL2 : ¬ s.data.toList.length ≤ i + 1 := by rw [HDS.out]; omega
          have hcj : ch s.data.toList (i + 1) = s[i + 1].toNat := by unfold ch; rw [bt_at s (i + 1) hlt2]
          have hbj := bt_at s (i + 1) hlt2
          by_cases q34 : s[i + 1].toNat = 34
          · have u34 : (s[i + 1].toNat : Int) = 34 := by omega
            have h34e : s[i + 1] = 34 := UInt8.toNat_inj.1 (by rw [q34]; rfl)
            have b34 : ((s[i + 1].toNat : Int) != 34) = false := by simp; omega
            have hm : mayB s[i + 1].toNat = true := by rw [q34]; rfl
            have HMi := hid (show ∀ w, Calls Tryz.prog 90 #[.int .u8 34] w fun e w' => e = .returned (.bool true) ∧ w' = w from fun w => HM.out 34 w)
            by_cases hl : t.length = 4096
            · have hv : qd s.data.toList fr i t = ([], 0, 5, i + 1) := by rw [qd_eq, if_pos hL, if_pos (by rw [hci]; exact h34), if_neg (by rw [hcj]; omega), if_pos hl]
              have HV := hid (HQ.out.trans hv)
              have el : ((t.length : Int) == 4096) = true := by rw [beq_iff_eq]; omega
              clear hv hci hcj h34 hend hbj hm q34 hl h34e
              go_wp2_with fail
              refine Calls.mono (HMi.out _) ?_
              rintro e w1 ⟨rfl, hw⟩
              replace hw := hw.symm
              subst hw
              go_wp2_with fail
              refine Calls.mono (HPl.out 5 (i + 1) _ (by omega)) ?_
              rintro e w2 ⟨rfl, hb2⟩
              obtain ⟨W, ES, hW, gW⟩ := run_fSt (HF.out.big hb2) 5 (plc s.data.toList (i + 1)).1 (plc s.data.toList (i + 1)).2 (i + 1)
              have EL := run_fLd hW
              have BF := hid ((HB.out.trans (hb2.mono HB.out.size)).grown gW (Nat.le_trans HB.out.size hb2.size) (fun b hb => by cases hb; exact Nat.le_refl _))
              obtain ⟨fv, hfv⟩ : ∃ fv, fv = fV 5 (plc s.data.toList (i + 1)).1 (plc s.data.toList (i + 1)).2 (i + 1) := ⟨_, rfl⟩
              rw [← hfv] at ES EL ⊢
              have HFv := hid hfv
              clear hW gW hb2 hfv
              go_wp2
              refine bodyPost_ret (by simp [results, Tryz.results89, asAddr, ↓fLd_op, EL]; try rfl) rfl ?_
              rw [HV.out, HFv.out]
              exact ⟨rfl, BF.out⟩
            · have hv : qd s.data.toList fr i t = qd s.data.toList fr (i + 2) (t ++ [34]) := by rw [qd_eq s.data.toList fr i t, if_pos hL, if_pos (by rw [hci]; exact h34), if_neg (by rw [hcj]; omega), if_neg hl, hbj, h34e]
              have HV := hid (HQ.out.trans hv)
              have el : ((t.length : Int) == 4096) = false := by rw [beq_eq_false_iff_ne]; omega
              have hl2 : t.length ≤ 4095 := by omega
              clear hv hci hcj h34 hend hbj hm q34 hl kc h34e
              go_wp2_with fail
              refine Calls.mono (HMi.out _) ?_
              rintro e w1 ⟨rfl, hw⟩
              replace hw := hw.symm
              subst hw
              go_wp2_with (at_builtin; refine wpList_append_own_at _ rfl _ _ 37 rfl w.heap.size 5 _ (.int .u8 0) 1 1 Tryz.underlying37 (info_parts u8i).choose_spec.1 (info_parts u8i).choose_spec.2.1 (info_parts u8i).choose_spec.2.2.1 (info_parts u8i).choose_spec.2.2.2 rfl (by decide) _ _ _ rfl (HO.out.alloc _) ⟨wr.heap.size, 0, none⟩ 1 1 [.int .u8 34] rfl rfl ?c1 ?c2 ?c3 ?c4 ?c5 ?_)
              case c1 =>
                intro j u hj
                match j, hj with
                | 0, hj => simp at hj; subst hj; simp [Addr.add]
              case c2 => intro u hu; simp at hu; subst hu; rfl
              case c3 => unfold maxLen; omega
              case c4 => omega
              case c5 => have := HB.out.size; simp; omega
              intro v' w2 hown' hgrow _ hblk
              obtain ⟨a', c', rfl⟩ := own_slice hown'
              go_wp2
              go_roundw
              case rel =>
                refine ⟨(i + 2), t ++ [34], by omega, by go_num, by rw [List.length_append, cells_snoc]; exact hown', by simp; omega, HV.out, ((HB.out.alloc HB.out.size _).grown hgrow (by simp; have := HB.out.size; omega) (fun k hk => (World.ownsRow.lt HO.out k hk).1)), ?_⟩
                exact (HF.out.alloc _).grown hgrow (fun e => own_ne HO.out HF.out (by decide) e)
              case measure => simp [intOf]; omega
          · have u34 : ¬ (s[i + 1].toNat : Int) = 34 := by omega
            have b34 : ((s[i + 1].toNat : Int) != 34) = true := by simp; omega
            have hv : qd s.data.toList fr i t = (t, i + 1, 0, 0) := by rw [qd_eq, if_pos hL, if_pos (by rw [hci]; exact h34), if_pos (.inr (by rw [hcj]; exact q34))]
            have HV := hid (HQ.out.trans hv)
            clear hv hci hcj h34 hend hbj q34
            obtain ⟨W, ES, hW, gW⟩ := run_fSt0 HF.out
            have EL := run_fLd hW
            have BF := hid (HB.out.grown gW HB.out.size (fun b hb => by cases hb; exact Nat.le_refl _))
            clear hW gW
            go_wp2
            refine bodyPost_ret (by simp [results, Tryz.results89, asAddr, ↓fLd_op, EL]; try rfl) rfl ?_
            rw [HV.out]
            exact ⟨rfl, BF.out⟩
      · have p34 : ¬ (s[i].toNat : Int) = 34 := by omega
        have e34 : ((s[i].toNat : Int) == 34) = false := by rw [beq_eq_false_iff_ne]; exact p34
        have hbi := bt_at s i hlt
        by_cases hm : mayB s[i].toNat = false
        · have hv : qd s.data.toList fr i t = ([], 0, 4, i) := by rw [qd_eq, if_pos hL, if_neg (by rw [hci]; exact h34), if_pos (by rw [hci]; exact hm)]
          have HV := hid (HQ.out.trans hv)
          have HMi := hid (show ∀ w, Calls Tryz.prog 90 #[.int .u8 (s[i].toNat : Int)] w fun e w' => e = .returned (.bool false) ∧ w' = w from fun w => by have := HM.out s[i] w; rw [hm] at this; exact this)
          clear hv hci h34 hbi hm
          go_wp2_with fail
          refine Calls.mono (HMi.out _) ?_
          rintro e w1 ⟨rfl, hw⟩
          replace hw := hw.symm
          subst hw
          go_wp2_with fail
          refine Calls.mono (HPl.out 4 i _ (by omega)) ?_
          rintro e w2 ⟨rfl, hb2⟩
          obtain ⟨W, ES, hW, gW⟩ := run_fSt (HF.out.big hb2) 4 (plc s.data.toList i).1 (plc s.data.toList i).2 i
          have EL := run_fLd hW
          have BF := hid ((HB.out.trans (hb2.mono HB.out.size)).grown gW (Nat.le_trans HB.out.size hb2.size) (fun b hb => by cases hb; exact Nat.le_refl _))
          obtain ⟨fv, hfv⟩ : ∃ fv, fv = fV 4 (plc s.data.toList i).1 (plc s.data.toList i).2 i := ⟨_, rfl⟩
          rw [← hfv] at ES EL ⊢
          have HFv := hid hfv
          clear hW gW hb2 hfv
          go_wp2
          refine bodyPost_ret (by simp [results, Tryz.results89, asAddr, ↓fLd_op, EL]; try rfl) rfl ?_
          rw [HV.out, HFv.out]
          exact ⟨rfl, BF.out⟩
        · rw [Bool.not_eq_false] at hm
          have HMi := hid (show ∀ w, Calls Tryz.prog 90 #[.int .u8 (s[i].toNat : Int)] w fun e w' => e = .returned (.bool true) ∧ w' = w from fun w => by have := HM.out s[i] w; rw [hm] at this; exact this)
          by_cases hl : t.length = 4096
          · have hv : qd s.data.toList fr i t = ([], 0, 5, i) := by rw [qd_eq, if_pos hL, if_neg (by rw [hci]; exact h34), if_neg (by rw [hci, hm]; decide), if_pos hl]
            have HV := hid (HQ.out.trans hv)
            have el : ((t.length : Int) == 4096) = true := by rw [beq_iff_eq]; omega
            clear hv hci h34 hbi hm hl
            go_wp2_with fail
            refine Calls.mono (HMi.out _) ?_
            rintro e w1 ⟨rfl, hw⟩
            replace hw := hw.symm
            subst hw
            go_wp2_with fail
            refine Calls.mono (HPl.out 5 i _ (by omega)) ?_
            rintro e w2 ⟨rfl, hb2⟩
            obtain ⟨W, ES, hW, gW⟩ := run_fSt (HF.out.big hb2) 5 (plc s.data.toList i).1 (plc s.data.toList i).2 i
            have EL := run_fLd hW
            have BF := hid ((HB.out.trans (hb2.mono HB.out.size)).grown gW (Nat.le_trans HB.out.size hb2.size) (fun b hb => by cases hb; exact Nat.le_refl _))
            obtain ⟨fv, hfv⟩ : ∃ fv, fv = fV 5 (plc s.data.toList i).1 (plc s.data.toList i).2 i := ⟨_, rfl⟩
            rw [← hfv] at ES EL ⊢
            have HFv := hid hfv
            clear hW gW hb2 hfv
            go_wp2
            refine bodyPost_ret (by simp [results, Tryz.results89, asAddr, ↓fLd_op, EL]; try rfl) rfl ?_
            rw [HV.out, HFv.out]
            exact ⟨rfl, BF.out⟩
          · have hv : qd s.data.toList fr i t = qd s.data.toList fr (i + 1) (t ++ [s[i]]) := by rw [qd_eq s.data.toList fr i t, if_pos hL, if_neg (by rw [hci]; exact h34), if_neg (by rw [hci, hm]; decide), if_neg hl, hbi]
            have HV := hid (HQ.out.trans hv)
            have el : ((t.length : Int) == 4096) = false := by rw [beq_eq_false_iff_ne]; omega
            have hl2 : t.length ≤ 4095 := by omega
            clear hv hci h34 hbi hm hl kc
            go_wp2_with fail
            refine Calls.mono (HMi.out _) ?_
            rintro e w1 ⟨rfl, hw⟩
            replace hw := hw.symm
            subst hw
            go_wp2_with (at_builtin; refine wpList_append_own_at _ rfl _ _ 37 rfl w.heap.size 5 _ (.int .u8 0) 1 1 Tryz.underlying37 (info_parts u8i).choose_spec.1 (info_parts u8i).choose_spec.2.1 (info_parts u8i).choose_spec.2.2.1 (info_parts u8i).choose_spec.2.2.2 rfl (by decide) _ _ _ rfl (HO.out.alloc _) ⟨wr.heap.size, 0, none⟩ 1 1 [.int .u8 (s[i].toNat : Int)] rfl rfl ?c1 ?c2 ?c3 ?c4 ?c5 ?_)
            case c1 =>
              intro j u hj
              match j, hj with
              | 0, hj => simp at hj; subst hj; simp [Addr.add]
            case c2 => intro u hu; simp at hu; subst hu; rfl
            case c3 => unfold maxLen; omega
            case c4 => omega
            case c5 => have := HB.out.size; simp; omega
            intro v' w2 hown' hgrow _ hblk
            obtain ⟨a', c', rfl⟩ := own_slice hown'
            go_wp2
            go_roundw
            case rel =>
              refine ⟨(i + 1), t ++ [s[i]], by omega, by go_num, by rw [List.length_append, cells_snoc]; exact hown', by simp; omega, HV.out, ((HB.out.alloc HB.out.size _).grown hgrow (by simp; have := HB.out.size; omega) (fun k hk => (World.ownsRow.lt HO.out k hk).1)), ?_⟩
              exact (HF.out.alloc _).grown hgrow (fun e => own_ne HO.out HF.out (by decide) e)
            case measure => simp [intOf]; omega
    · have hI : ¬ (i : Int) < (s.size : Int) := by omega
      have hv : qd s.data.toList fr i t = ([], 0, 1, fr) := by rw [qd_eq, if_neg (by rw [HDS.out]; omega)]
      have HV := hid (HQ.out.trans hv)
      clear hv
      go_wp2_with fail
      refine Calls.mono (HPl.out 1 fr _ (by omega)) ?_
      rintro e w2 ⟨rfl, hb2⟩
      obtain ⟨W, ES, hW, gW⟩ := run_fSt (HF.out.big hb2) 1 (plc s.data.toList fr).1 (plc s.data.toList fr).2 fr
      have EL := run_fLd hW
      have BF := hid ((HB.out.trans (hb2.mono HB.out.size)).grown gW (Nat.le_trans HB.out.size hb2.size) (fun b hb => by cases hb; exact Nat.le_refl _))
      obtain ⟨fv, hfv⟩ : ∃ fv, fv = fV 1 (plc s.data.toList fr).1 (plc s.data.toList fr).2 fr := ⟨_, rfl⟩
      rw [← hfv] at ES EL ⊢
      have HFv := hid hfv
      clear hW gW hb2 hfv
      go_wp2
      refine bodyPost_ret (by simp [results, Tryz.results89, asAddr, ↓fLd_op, EL]; try rfl) rfl ?_
      rw [HV.out, HFv.out]
      exact ⟨rfl, BF.out⟩
end Go.Proofs.YtpgpeafmlijfkaaGreatDoor
