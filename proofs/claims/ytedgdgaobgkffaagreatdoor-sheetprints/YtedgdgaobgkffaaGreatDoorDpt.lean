/-
  Sheets, the document's side: text. Laid by mkdpt.py.
-/
import Derived.Test.YtedgdgaobgkffaaGreatDoorDpw
import Derived.Test.YtedgdgaobgkffaaGreatDoorSkw
import Derived.Lib.AppendStr
namespace Go.Proofs.YtedgdgaobgkffaaGreatDoor
open Go.RowKit
set_option maxRecDepth 100000
set_option linter.unusedVariables false
set_option linter.unusedSimpArgs false

theorem strCells_is (l : List UInt8) : Lib.strCells ⟨l.toArray⟩ = Lib.byteCells l := by
  simp [Lib.strCells, Lib.byteCells]
theorem pcs_pre (cs : List (List UInt8)) (j : Nat) : (pcs (cs.take j)).length ≤ (pcs cs).length := by
  cases cs with
  | nil => simp
  | cons T r =>
    cases j with
    | zero => simp [pcs]
    | succ j =>
      rw [List.take_succ_cons, pcs, pcs]
      have e : r.flatMap (fun U => 44 :: pcl U) = (r.take j).flatMap (fun U => 44 :: pcl U) ++ (r.drop j).flatMap (fun U => 44 :: pcl U) := by rw [← List.flatMap_append, List.take_append_drop]
      rw [e]
      simp only [List.length_append]
      omega
theorem prt_pre (R : List (List (List UInt8))) (i j : Nat) (hi : i < R.length) : (prt (R.take i) ++ pcs (R[i].take j)).length ≤ (prt R).length := by
  have h1 : prt (R.take (i + 1)) = prt (R.take i) ++ prw R[i] := by
    rw [List.take_add_one, List.getElem?_eq_getElem hi]
    exact prt_snoc _ _
  have h2 := prt_take R (i + 1)
  rw [h1] at h2
  have h3 := pcs_pre R[i] j
  simp only [List.length_append, prw] at h2 ⊢
  omega
theorem pcs_up (cs : List (List UInt8)) (j : Nat) (h : j < cs.length) : pcs (cs.take (j + 1)) = pcs (cs.take j) ++ (if j = 0 then [] else [44]) ++ pcl cs[j] := by
  rw [List.take_add_one, List.getElem?_eq_getElem h]
  by_cases h0 : j = 0
  · subst h0
    simp [pcs]
  · rw [if_neg h0, show (some cs[j]).toList = [cs[j]] from rfl, pcs_snoc _ _ (by intro e; have := congrArg List.length e; rw [List.length_take] at this; simp only [List.length_nil] at this; omega)]
    simp
/-- append of a text, kept whole -/
def appS (a : Array Value) : Sem Value := Builtin.append_ #[44, 9] 44 a
theorem appS_op (a : Array Value) : Builtin.append_ #[44, 9] 44 a = appS a := rfl
attribute [local go_sem ↓] appS_op
/-- what text answers -/
def TxA (R : List (List (List UInt8))) (t : List UInt8) : Prop := t = prt R ∨ (262144 < t.length ∧ 262144 < (prt R).length)
def TxR (w : World) (R : List (List (List UInt8))) (e : Ending) (w' : World) : Prop := ∃ tv t, e = .returned tv ∧ w'.ownsRow w.heap.size 5 1 tv t.length (Lib.byteCells t) ∧ TxA R t ∧ t.length ≤ 300000 ∧ Below w.heap.size w w'
set_option maxHeartbeats 12000000 in
theorem text_any (v : Value) (R : List (List (List UInt8))) (w : World) (hr : Rw w v R) (hc : ∀ cs ∈ R, ∀ T ∈ cs, okC T) :
    Calls Tryz.prog 27 #[v] w fun e w' => TxR w R e w' := by
  have HR := hid hr
  have hRl := hr.len
  have HC := hid hc
  obtain ⟨ra, rc, rfl⟩ := hr.form
  have HWr := hid (fun (s : ByteArray) wx (h : s.size ≤ 4096) => written_any s wx h)
  clear hr hc
  go_enter Tryz.func27, Tryz.ntmps27
  go_wp2_with fail
  go_loopw [3, 4] (fun tv j wr => ∃ (i : Nat) (t : List UInt8), i ≤ R.length ∧ j = .int .i64 (i : Int) ∧ wr.ownsRow w.heap.size 5 1 tv t.length (Lib.byteCells t) ∧ (t = prt (R.take i) ∨ (262144 < t.length ∧ 262144 < (prt R).length)) ∧ t.length ≤ 300000 ∧ Below w.heap.size w wr) (fun _ j _ => R.length - (intOf j).toNat)
  case atStart => exact ⟨0, [], Nat.zero_le _, rfl, World.ownsRow_nil _ _ _ _, .inl rfl, by simp, Below.refl _ _⟩
  case round =>
    obtain ⟨i, t, hi, rfl, hown, ht, htl, hbl⟩ := hrel
    obtain ⟨ta, tc, rfl⟩ := own_slice hown
    have HO := hid hown
    have HB := hid hbl
    have HT := hid ht
    clear hown hbl ht
    by_cases hlt : i < R.length ∧ t.length ≤ 262144
    · have hI : (i : Int) < (R.length : Int) := by omega
      have hS : (t.length : Int) ≤ 262144 := by omega
      have dS : decide ((t.length : Int) ≤ 262144) = true := decide_eq_true hS
      have HT1 := hid (show t = prt (R.take i) by rcases HT.out with h | ⟨h, _⟩; exact h; omega)
      have hCi : ∀ T ∈ R[i]'hlt.1, okC T := HC.out _ (List.getElem_mem hlt.1)
      have HPre := hid (fun j => prt_pre R i j hlt.1)
      have HUp := hid (fun j h => pcs_up (R[i]'hlt.1) j h)
      have HSn := hid (show prt (R.take (i + 1)) = prt (R.take i) ++ prw (R[i]'hlt.1) by rw [List.take_add_one, List.getElem?_eq_getElem hlt.1]; exact prt_snoc _ _)
      have HAt := hid (fun wx (h : Below w.heap.size w wx) => (HR.out.below h).at i hlt.1)
      obtain ⟨cs, hcs⟩ : ∃ cs, cs = R[i]'hlt.1 := ⟨_, rfl⟩
      rw [← hcs] at hCi HPre HUp HSn HAt
      have HCi := hid hCi
      have hI' := hlt.1
      clear hCi hcs hlt HT
      have hcl : cs.length ≤ 9223372036854775807 := by
        obtain ⟨g, off, cap, u, _, _, _, tx⟩ := HAt.out w (Below.refl _ _)
        exact tx.len
      obtain ⟨t0, ht0⟩ : ∃ t0, t0 = prt (R.take i) := ⟨_, rfl⟩
      rw [← ht0] at HT1 HPre HSn
      clear ht0
      go_wp2_with fail
      go_loopw [3, 5] (fun tv j wr2 => ∃ (k : Nat) (t2 : List UInt8), k ≤ cs.length ∧ j = .int .i64 (k : Int) ∧ wr2.ownsRow w.heap.size 5 1 tv t2.length (Lib.byteCells t2) ∧ t2 = t0 ++ pcs (cs.take k) ∧ t2.length ≤ 290000 ∧ Below w.heap.size w wr2) (fun _ j _ => cs.length - (intOf j).toNat)
      case atStart => exact ⟨0, t, Nat.zero_le _, rfl, HO.out, by rw [HT1.out]; simp [pcs], by omega, HB.out⟩
      case round =>
        rename_i wo _
        obtain ⟨k, t2, hk, rfl, hown2, ht2, htl2, hbl2⟩ := hrel
        obtain ⟨ta2, tc2, rfl⟩ := own_slice hown2
        have HO2 := hid hown2
        have HB2 := hid hbl2
        have HT2 := hid ht2
        obtain ⟨g, off, cap, u, e1, hcap, c0, tx⟩ := HAt.out _ hbl2
        cases e1
        have HTx := hid tx
        clear hown2 hbl2 ht2
        by_cases hlt2 : k < cs.length ∧ t2.length ≤ 262144
        · have hK : (k : Int) < (cs.length : Int) := by omega
          have hS2 : (t2.length : Int) ≤ 262144 := by omega
          have dS2 : decide ((t2.length : Int) ≤ 262144) = true := decide_eq_true hS2
          by_cases hk0 : k = 0
          · have hk1 : ¬ (0 : Int) < (k : Int) := by omega
            have HK0 := hid hk0
            clear hk0
            obtain ⟨g2, off2, cap2, e2, hcap2, c2⟩ := tx.at k hlt2.1
            subst e2
            have hok := HCi.out _ (List.getElem_mem hlt2.1)
            have HU := hid (HUp.out k hlt2.1)
            obtain ⟨T, hT⟩ : ∃ T, T = cs[k]'hlt2.1 := ⟨_, rfl⟩
            rw [← hT] at c2 hok HU
            have hTs : (⟨T.toArray⟩ : ByteArray).size ≤ 4096 := by have := hok.1; simpa [ByteArray.size] using this
            have HW := hid (fun wx => HWr.out ⟨T.toArray⟩ wx hTs)
            have hpl : (pcl T).length ≤ 8194 := by
              unfold pcl
              have := dbl_len T
              have := hok.1
              split
              · simp only [List.length_cons, List.length_append, List.length_nil]; omega
              · omega
            have hX : (⟨(pcl T).toArray⟩ : ByteArray).size = (pcl T).length := by simp [ByteArray.size]
            have HXc := hid (strCells_is (pcl T))
            obtain ⟨X, hXe⟩ : ∃ X : ByteArray, X = ⟨(pcl T).toArray⟩ := ⟨_, rfl⟩
            have HW2 := hid (fun wx => show Calls Tryz.prog 46 #[.string ⟨T.toArray⟩] wx fun e w' => e = .returned (.string X) ∧ Below wx.heap.size wx w' by rw [hXe]; exact HW.out wx)
            rw [← hXe] at hX HXc
            have hXl : X.size ≤ 8194 := by omega
            have HX := hid hX
            generalize (⟨T.toArray⟩ : ByteArray) = TT at c2 HW2
            clear tx hok hT hTs HW hXe hX
            go_wp2_with fail
            refine Calls.mono (HW2.out _) ?_
            rintro e w3 ⟨rfl, hb3⟩
            have HB3 := hid (HB2.out.trans (hb3.mono HB2.out.size))
            have HO3 := hid (own_of HO2.out fun g hg => hb3.block g (World.ownsRow.lt HO2.out g hg).2)
            clear hb3
            obtain ⟨v4, w4, hr4, hown4, hgrow4, _⟩ := Lib.run_append_own_string (P := Tryz.prog) w3 w.heap.size 44 9 44 5 _ Tryz.underlying44 Tryz.underlying9 (info_parts u8i).choose_spec.1 (info_parts u8i).choose_spec.2.1 (info_parts u8i).choose_spec.2.2.1 (info_parts u8i).choose_spec.2.2.2 _ _ _ HO3.out X (by unfold maxLen; omega) (by omega) HB3.out.size
            rw [appS_op] at hr4
            obtain ⟨a4, c4, rfl⟩ := own_slice hown4
            have HB4 := hid (HB3.out.grown hgrow4 HB3.out.size (fun k hk => (World.ownsRow.lt HO3.out k hk).1))
            have HO4 := hid hown4
            clear hgrow4 hown4
            go_wp2
            go_roundw
            case rel =>
              refine ⟨k + 1, t2 ++ pcl T, by omega, by go_num, ?_, ?_, by have := HX.out; simp; omega, HB4.out⟩
              · have := HO4.out
                rw [HXc.out] at this
                rw [show (t2 ++ pcl T).length = t2.length + X.size by have := HX.out; simp; omega, show Lib.byteCells (t2 ++ pcl T) = Lib.byteCells t2 ++ Lib.byteCells (pcl T) by simp [Lib.byteCells]]
                exact this
              · rw [HT2.out]
                have := HU.out
                rw [if_pos HK0.out] at this
                rw [this]
                simp
            case measure => simp [intOf]; omega
          · have hk1 : (0 : Int) < (k : Int) := by omega
            obtain ⟨ua, uc, hu⟩ := tx.form
            subst hu
            clear tx
            go_wp2_with (at_builtin; refine wpList_append_own_at _ rfl _ _ 44 rfl w.heap.size 5 _ (.int .u8 0) 1 1 Tryz.underlying44 (info_parts u8i).choose_spec.1 (info_parts u8i).choose_spec.2.1 (info_parts u8i).choose_spec.2.2.1 (info_parts u8i).choose_spec.2.2.2 rfl (by decide) _ _ _ rfl (HO2.out.alloc _) ⟨wr.heap.size, 0, none⟩ 1 1 [.int .u8 44] rfl rfl (by intro j u hj; cases j with | zero => simp at hj; subst hj; simp [Addr.add] | succ j => simp at hj) (by intro u hu; simp at hu; subst hu; rfl) (by unfold maxLen; omega) (by omega) (by have := HB2.out.size; simp; omega) ?_)
            intro v5 w5 hown5 hgrow5 _ _
            obtain ⟨a5, c5, rfl⟩ := own_slice hown5
            have HB5 := hid ((HB2.out.alloc HB2.out.size _).grown hgrow5 (by simp; have := HB2.out.size; omega) (fun k hk => (World.ownsRow.lt HO2.out k hk).1))
            clear hgrow5
            have HO5 := hid (show w5.ownsRow w.heap.size 5 1 (.slice a5 (t2.length + 1) c5) (t2 ++ [44]).length (Lib.byteCells (t2 ++ [44])) by simpa [Lib.byteCells] using hown5)
            clear hown5 c0
            obtain ⟨g', off', cap', u', e1, hcap', c0, tx⟩ := HAt.out _ HB5.out
            injection e1 with e1a _ e1c
            injection e1a with e1b
            injection e1b with e1d e1e
            subst e1d e1e e1c
            obtain ⟨g2, off2, cap2, e2, hcap2, c2⟩ := tx.at k hlt2.1
            subst e2
            have hok := HCi.out _ (List.getElem_mem hlt2.1)
            have HU := hid (HUp.out k hlt2.1)
            obtain ⟨T, hT⟩ : ∃ T, T = cs[k]'hlt2.1 := ⟨_, rfl⟩
            rw [← hT] at c2 hok HU
            have hTs : (⟨T.toArray⟩ : ByteArray).size ≤ 4096 := by have := hok.1; simpa [ByteArray.size] using this
            have HW := hid (fun wx => HWr.out ⟨T.toArray⟩ wx hTs)
            have hpl : (pcl T).length ≤ 8194 := by
              unfold pcl
              have := dbl_len T
              have := hok.1
              split
              · simp only [List.length_cons, List.length_append, List.length_nil]; omega
              · omega
            have hX : (⟨(pcl T).toArray⟩ : ByteArray).size = (pcl T).length := by simp [ByteArray.size]
            have HXc := hid (strCells_is (pcl T))
            obtain ⟨X, hXe⟩ : ∃ X : ByteArray, X = ⟨(pcl T).toArray⟩ := ⟨_, rfl⟩
            have HW2 := hid (fun wx => show Calls Tryz.prog 46 #[.string ⟨T.toArray⟩] wx fun e w' => e = .returned (.string X) ∧ Below wx.heap.size wx w' by rw [hXe]; exact HW.out wx)
            rw [← hXe] at hX HXc
            have hXl : X.size ≤ 8194 := by omega
            have HX := hid hX
            generalize (⟨T.toArray⟩ : ByteArray) = TT at c2 HW2
            clear tx hok hT hTs HW hXe hX
            go_wp2_with fail
            refine Calls.mono (HW2.out _) ?_
            rintro e w3 ⟨rfl, hb3⟩
            have HB3 := hid (HB5.out.trans (hb3.mono HB5.out.size))
            have HO3' := hid (own_of HO5.out fun g hg => hb3.block g (World.ownsRow.lt HO5.out g hg).2)
            have HO3 := hid (show w3.ownsRow w.heap.size 5 1 (.slice a5 (t2.length + 1) c5) (t2.length + 1) (Lib.byteCells (t2 ++ [44])) by have := HO3'.out; rwa [List.length_append] at this)
            clear hb3
            obtain ⟨v4, w4, hr4, hown4, hgrow4, _⟩ := Lib.run_append_own_string (P := Tryz.prog) w3 w.heap.size 44 9 44 5 _ Tryz.underlying44 Tryz.underlying9 (info_parts u8i).choose_spec.1 (info_parts u8i).choose_spec.2.1 (info_parts u8i).choose_spec.2.2.1 (info_parts u8i).choose_spec.2.2.2 _ _ _ HO3.out X (by unfold maxLen; omega) (by omega) HB3.out.size
            rw [appS_op] at hr4
            obtain ⟨a4, c4, rfl⟩ := own_slice hown4
            have HB4 := hid (HB3.out.grown hgrow4 HB3.out.size (fun k hk => (World.ownsRow.lt HO3.out k hk).1))
            have HO4 := hid hown4
            clear hgrow4 hown4
            go_wp2
            go_roundw
            case rel =>
              refine ⟨k + 1, t2 ++ [44] ++ pcl T, by omega, by go_num, ?_, ?_, by have := HX.out; simp; omega, HB4.out⟩
              · have := HO4.out
                rw [HXc.out] at this
                rw [show (t2 ++ ([44] : List UInt8) ++ pcl T).length = t2.length + 1 + X.size by have := HX.out; simp; omega, show Lib.byteCells (t2 ++ ([44] : List UInt8) ++ pcl T) = Lib.byteCells (t2 ++ [44]) ++ Lib.byteCells (pcl T) by simp [Lib.byteCells]]
                exact this
              · rw [HT2.out]
                have := HU.out
                rw [if_neg hk0] at this
                rw [this]
                simp
            case measure => simp [intOf]; omega
        · obtain ⟨ua, uc, hu⟩ := tx.form
          subst hu
          clear tx
          have hEnd : ∀ t3, t3 = t2 ++ [13, 10] → (t3 = t0 ++ prw cs ∨ (262144 < t3.length ∧ 262144 < (prt R).length)) := by
            intro t3 h3
            by_cases hk3 : k = cs.length
            · left
              rw [h3, HT2.out, hk3, List.take_length]
              simp [prw]
            · right
              have h1 := HPre.out k
              rw [← HT2.out] at h1
              have : 262144 < t2.length := by omega
              rw [h3, List.length_append]
              omega
          have HEnd := hid hEnd
          clear hEnd
          by_cases hk3 : k < cs.length
          · have hK : (k : Int) < (cs.length : Int) := by omega
            have hS2 : ¬ (t2.length : Int) ≤ 262144 := by omega
            have dS2 : decide ((t2.length : Int) ≤ 262144) = false := decide_eq_false hS2
            clear hlt2
            go_wp2_with (at_builtin; refine wpList_append_own_at _ rfl _ _ 44 rfl w.heap.size 5 _ (.int .u8 0) 1 1 Tryz.underlying44 (info_parts u8i).choose_spec.1 (info_parts u8i).choose_spec.2.1 (info_parts u8i).choose_spec.2.2.1 (info_parts u8i).choose_spec.2.2.2 rfl (by decide) _ _ _ rfl (HO2.out.alloc _) ⟨wr.heap.size, 0, none⟩ 2 2 [.int .u8 13, .int .u8 10] rfl rfl (by intro j u hj; match j, hj with | 0, hj => simp at hj; subst hj; simp [Addr.add] | 1, hj => simp at hj; subst hj; simp [Addr.add] | j + 2, hj => simp at hj) (by intro u hu; simp at hu; rcases hu with rfl | rfl <;> rfl) (by unfold maxLen; omega) (by omega) (by have := HB2.out.size; simp; omega) ?_)
            intro v5 w5 hown5 hgrow5 _ _
            obtain ⟨a5, c5, rfl⟩ := own_slice hown5
            have HB5 := hid ((HB2.out.alloc HB2.out.size _).grown hgrow5 (by simp; have := HB2.out.size; omega) (fun k hk => (World.ownsRow.lt HO2.out k hk).1))
            clear hgrow5
            have HO5 := hid hown5
            clear hown5
            go_wp2
            go_roundw
            case rel =>
              refine ⟨i + 1, t2 ++ [13, 10], by omega, by go_num, ?_, ?_, by simp; omega, HB5.out⟩
              · have := HO5.out
                simpa [Lib.byteCells] using this
              · rw [HSn.out]; exact HEnd.out _ rfl
            case measure => simp [intOf]; omega
          · have hK : ¬ (k : Int) < (cs.length : Int) := by omega
            clear hlt2
            go_wp2_with (at_builtin; refine wpList_append_own_at _ rfl _ _ 44 rfl w.heap.size 5 _ (.int .u8 0) 1 1 Tryz.underlying44 (info_parts u8i).choose_spec.1 (info_parts u8i).choose_spec.2.1 (info_parts u8i).choose_spec.2.2.1 (info_parts u8i).choose_spec.2.2.2 rfl (by decide) _ _ _ rfl (HO2.out.alloc _) ⟨wr.heap.size, 0, none⟩ 2 2 [.int .u8 13, .int .u8 10] rfl rfl (by intro j u hj; match j, hj with | 0, hj => simp at hj; subst hj; simp [Addr.add] | 1, hj => simp at hj; subst hj; simp [Addr.add] | j + 2, hj => simp at hj) (by intro u hu; simp at hu; rcases hu with rfl | rfl <;> rfl) (by unfold maxLen; omega) (by omega) (by have := HB2.out.size; simp; omega) ?_)
            intro v5 w5 hown5 hgrow5 _ _
            obtain ⟨a5, c5, rfl⟩ := own_slice hown5
            have HB5 := hid ((HB2.out.alloc HB2.out.size _).grown hgrow5 (by simp; have := HB2.out.size; omega) (fun k hk => (World.ownsRow.lt HO2.out k hk).1))
            clear hgrow5
            have HO5 := hid hown5
            clear hown5
            go_wp2
            go_roundw
            case rel =>
              refine ⟨i + 1, t2 ++ [13, 10], by omega, by go_num, ?_, ?_, by simp; omega, HB5.out⟩
              · have := HO5.out
                simpa [Lib.byteCells] using this
              · rw [HSn.out]; exact HEnd.out _ rfl
            case measure => simp [intOf]; omega
    · have HTx := hid (show TxA R t by
        rcases HT.out with h | h
        · by_cases hi2 : i = R.length
          · left; rw [h, hi2, List.take_length]
          · right
            have h1 := prt_take R i
            rw [← h] at h1
            omega
        · exact .inr h)
      by_cases hi3 : i < R.length
      · have hI : (i : Int) < (R.length : Int) := by omega
        have hS : ¬ (t.length : Int) ≤ 262144 := by omega
        have dS : decide ((t.length : Int) ≤ 262144) = false := decide_eq_false hS
        clear hlt
        go_wp2
        go_ret
        unfold TxR
        exact ⟨_, t, rfl, HO.out, HTx.out, htl, HB.out⟩
      · have hI : ¬ (i : Int) < (R.length : Int) := by omega
        clear hlt
        go_wp2
        go_ret
        unfold TxR
        exact ⟨_, t, rfl, HO.out, HTx.out, htl, HB.out⟩
end Go.Proofs.YtedgdgaobgkffaaGreatDoor
