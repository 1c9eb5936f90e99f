/-
  Sheets, the document's side: written. Laid by mkdpw.py.
-/
import Derived.Test.YtedgdgaobgkffaaGreatDoorDsm
import Derived.Test.YtedgdgaobgkffaaGreatDoorSq5
import Derived.Test.YtedgdgaobgkffaaGreatDoorSpt
import Derived.Laws.IdiomStrings
import Derived.Laws.BytesString
import Derived.Deep.CutRange
import Derived.Deep.DeepCutAuto
namespace Go.Proofs.YtedgdgaobgkffaaGreatDoor
open Go.RowKit
set_option maxRecDepth 100000
set_option linter.unusedVariables false
set_option linter.unusedSimpArgs false

theorem conv_own2 {w : World} {B : Nat} {v : Value} {t : List UInt8} (h : w.ownsRow B 5 1 v t.length (Lib.byteCells t)) : (convert 44 9 v).run Tryz.prog w = .ok (.string ⟨t.toArray⟩) w := by
  have hc := fun g hg => World.ownsRow.cells h (g := g) hg
  rcases h.2 with ⟨rfl, h0⟩ | ⟨g, cap, cur, rfl, _⟩
  · have ht : t = [] := List.eq_nil_of_length_eq_zero h0
    subst ht
    rw [run_convert_bytes_string w 44 9 5 none 0 0 Tryz.underlying44 Tryz.underlying5 Tryz.underlying9]
    rfl
  · exact run_convert_bytes_back w 44 9 5 _ cap t Tryz.underlying44 Tryz.underlying5 Tryz.underlying9 (fun j hj => hc g rfl j _ (by simp [Lib.byteCells, hj]))
theorem own_one (w : World) (x : Int) : (w.alloc (.cells #[.int .u8 x] 5)).ownsRow w.heap.size 5 1 (.slice (some ⟨w.heap.size, 0, none⟩) 1 1) 1 [.int .u8 x] :=
  ⟨rfl, .inr ⟨w.heap.size, 1, #[.int .u8 x], rfl, Nat.le_refl _, heap_alloc_new w _, Nat.le_refl _, by unfold maxLen; omega, rfl, rfl⟩⟩
theorem take_up (L : List UInt8) (i : Nat) (h : i < L.length) : L.take (i + 1) = L.take i ++ [L[i]] := by
  rw [List.take_add_one, List.getElem?_eq_getElem h]
  rfl
theorem dbl_up (L : List UInt8) (i : Nat) (h : i < L.length) : dbl (L.take (i + 1)) = dbl (L.take i) ++ (if L[i].toNat = 34 then [L[i], L[i]] else [L[i]]) := by
  rw [take_up L i h, dbl_app]
  congr 1
theorem any_up (L : List UInt8) (i : Nat) (h : i < L.length) : (L.take (i + 1)).any (fun c => nqB c.toNat) = ((L.take i).any (fun c => nqB c.toNat) || nqB L[i].toNat) := by
  rw [take_up L i h, List.any_append]
  simp
set_option maxHeartbeats 8000000 in
theorem written_any (s : ByteArray) (w : World) (hs : s.size ≤ 4096) :
    Calls Tryz.prog 46 #[.string s] w fun e w' => e = .returned (.string ⟨(pcl s.data.toList).toArray⟩) ∧ Below w.heap.size w w' := by
  have hds : s.data.toList.length = s.size := by rw [Array.length_toList]; rfl
  have HDS := hid hds
  obtain ⟨Pv, hPv⟩ : ∃ Pv : ByteArray, Pv = ⟨(pcl s.data.toList).toArray⟩ := ⟨_, rfl⟩
  rw [← hPv]
  have HP := hid hPv
  clear hds hPv
  go_enter Tryz.func46, Tryz.ntmps46
  go_wp2_with fail
  go_loopw [3, 4, 5] (fun nv tv j wr => ∃ (i : Nat), i ≤ s.size ∧ j = .int .i64 (i : Int) ∧ nv = .bool ((s.data.toList.take i).any (fun c => nqB c.toNat)) ∧ wr.ownsRow w.heap.size 5 1 tv (34 :: dbl (s.data.toList.take i)).length (Lib.byteCells (34 :: dbl (s.data.toList.take i))) ∧ Below w.heap.size w wr) (fun _ _ j _ => s.size - (intOf j).toNat)
  case atStart => exact ⟨0, Nat.zero_le _, rfl, rfl, own_one w 34, (Below.refl _ _).alloc (Nat.le_refl _) _⟩
  case round =>
    obtain ⟨i, hi, rfl, rfl, hown, hbl⟩ := hrel
    have hlen : (34 :: dbl (s.data.toList.take i)).length ≤ 10000 := by
      have := dbl_len (s.data.toList.take i)
      simp only [List.length_cons, List.length_take] at this ⊢
      omega
    obtain ⟨ta, tc, rfl⟩ := own_slice hown
    have HO := hid hown
    have HB := hid hbl
    clear hown hbl
    by_cases hlt : i < s.size
    · have hI : (i : Int) < (s.size : Int) := by omega
      have hL : i < s.data.toList.length := by rw [HDS.out]; exact hlt
      have hgi : s.data.toList[i] = s[i] := by rw [Array.getElem_toList]; rfl
      have HD := hid (dbl_up s.data.toList i hL)
      have HA := hid (any_up s.data.toList i hL)
      rw [hgi] at HD HA
      clear hgi
      obtain ⟨K, hK⟩ : ∃ K, K = 34 :: dbl (s.data.toList.take i) := ⟨_, rfl⟩
      have HD2 := hid (show 34 :: dbl (s.data.toList.take (i + 1)) = K ++ (if s[i].toNat = 34 then [s[i], s[i]] else [s[i]]) by rw [HD.out, hK]; rfl)
      rw [← hK] at HO hlen ⊢
      generalize hY : (s.data.toList.take i).any (fun c => nqB c.toNat) = Y at *
      have HKK := hid hK
      clear hK hY HD
      go_upto_region 6 with fail
      go_cut [40] from 13 to 40 (fun v wx => v = .bool (nqB s[i].toNat) ∧ wx = wr)
      case first =>
        by_cases h44 : s[i].toNat = 44
        · have e44 : ((s[i].toNat : Int) == 44) = true := by rw [beq_iff_eq]; omega
          have HN := hid (show nqB s[i].toNat = true by rw [h44]; rfl)
          clear h44
          go_wp2_with fail
          go_meet
          exact ⟨congrArg _ HN.out.symm, rfl⟩
        · have e44 : ((s[i].toNat : Int) == 44) = false := by rw [beq_eq_false_iff_ne]; omega
          by_cases h34 : s[i].toNat = 34
          · have e34 : ((s[i].toNat : Int) == 34) = true := by rw [beq_iff_eq]; omega
            have HN := hid (show nqB s[i].toNat = true by rw [h34]; rfl)
            clear h44 h34
            go_wp2_with fail
            go_meet
            exact ⟨congrArg _ HN.out.symm, rfl⟩
          · have e34 : ((s[i].toNat : Int) == 34) = false := by rw [beq_eq_false_iff_ne]; omega
            by_cases h13 : s[i].toNat = 13
            · have e13 : ((s[i].toNat : Int) == 13) = true := by rw [beq_iff_eq]; omega
              have HN := hid (show nqB s[i].toNat = true by rw [h13]; rfl)
              clear h44 h34 h13
              go_wp2_with fail
              go_meet
              exact ⟨congrArg _ HN.out.symm, rfl⟩
            · have e13 : ((s[i].toNat : Int) == 13) = false := by rw [beq_eq_false_iff_ne]; omega
              by_cases h10 : s[i].toNat = 10
              · have e10 : ((s[i].toNat : Int) == 10) = true := by rw [beq_iff_eq]; omega
                have HN := hid (show nqB s[i].toNat = true by rw [h10]; rfl)
                clear h44 h34 h13 h10
                go_wp2_with fail
                go_meet
                exact ⟨congrArg _ HN.out.symm, rfl⟩
              · have e10 : ((s[i].toNat : Int) == 10) = false := by rw [beq_eq_false_iff_ne]; omega
                by_cases h9 : s[i].toNat = 9
                · have e9 : ((s[i].toNat : Int) == 9) = true := by rw [beq_iff_eq]; omega
                  have HN := hid (show nqB s[i].toNat = true by rw [h9]; rfl)
                  clear h44 h34 h13 h10 h9
                  go_wp2_with fail
                  go_meet
                  exact ⟨congrArg _ HN.out.symm, rfl⟩
                · have e9 : ((s[i].toNat : Int) == 9) = false := by rw [beq_eq_false_iff_ne]; omega
                  have HN := hid (show nqB s[i].toNat = false by unfold nqB; simp; omega)
                  clear h44 h34 h13 h10 h9
                  go_wp2_with fail
                  go_meet
                  exact ⟨congrArg _ HN.out.symm, rfl⟩
      case rest =>
        obtain ⟨rfl, hwc⟩ := hcut
        replace hwc := hwc.symm
        subst hwc
        by_cases h34 : s[i].toNat = 34
        · have p34 : (s[i].toNat : Int) = 34 := by omega
          have e34 : ((s[i].toNat : Int) == 34) = true := by rw [beq_iff_eq]; exact p34
          have hq : s[i] = 34 := UInt8.toNat_inj.1 (by rw [h34]; rfl)
          have HX := hid (show nqB s[i].toNat = true by rw [h34]; rfl)
          have HQ := hid (show (if s[i].toNat = 34 then [s[i], s[i]] else [s[i]]) = [34, 34] by rw [if_pos h34, hq])
          rw [HX.out]
          clear h34 hq
          go_wp2_with (at_builtin; refine wpList_append_own_at _ rfl _ _ 44 rfl w.heap.size 5 _ (.int .u8 0) 1 1 Tryz.underlying44 (info_parts u8i).choose_spec.1 (info_parts u8i).choose_spec.2.1 (info_parts u8i).choose_spec.2.2.1 (info_parts u8i).choose_spec.2.2.2 rfl (by decide) _ _ _ rfl (HO.out.alloc _) ⟨wr.heap.size, 0, none⟩ 1 1 [.int .u8 34] rfl rfl (by intro j u hj; cases j with | zero => simp at hj; subst hj; simp [Addr.add] | succ j => simp at hj) (by intro u hu; simp at hu; subst hu; rfl) (by unfold maxLen; omega) (by omega) (by have := HB.out.size; simp; omega) ?_)
          intro v5 w5 hown5 hgrow5 _ _
          obtain ⟨a5, c5, rfl⟩ := own_slice hown5
          have HB5 := hid ((HB.out.alloc HB.out.size _).grown hgrow5 (by simp; have := HB.out.size; omega) (fun k hk => (World.ownsRow.lt HO.out k hk).1))
          clear hgrow5
          have HO5 := hid (show w5.ownsRow w.heap.size 5 1 (.slice a5 (K.length + 1) c5) (K.length + 1) (Lib.byteCells K ++ [.int .u8 34]) from hown5)
          clear hown5
          go_wp2_with (at_builtin; refine wpList_append_own_at _ rfl _ _ 44 rfl w.heap.size 5 _ (.int .u8 0) 1 1 Tryz.underlying44 (info_parts u8i).choose_spec.1 (info_parts u8i).choose_spec.2.1 (info_parts u8i).choose_spec.2.2.1 (info_parts u8i).choose_spec.2.2.2 rfl (by decide) _ _ _ rfl (HO5.out.alloc _) ⟨w5.heap.size, 0, none⟩ 1 1 [.int .u8 34] rfl rfl (by intro j u hj; cases j with | zero => simp at hj; subst hj; simp [Addr.add] | succ j => simp at hj) (by intro u hu; simp at hu; subst hu; rfl) (by unfold maxLen; omega) (by omega) (by have := HB5.out.size; simp; omega) ?_)
          intro v6 w6 hown6 hgrow6 _ _
          obtain ⟨a6, c6, rfl⟩ := own_slice hown6
          have HB6 := hid ((HB5.out.alloc HB5.out.size _).grown hgrow6 (by simp; have := HB5.out.size; omega) (fun k hk => (World.ownsRow.lt HO5.out k hk).1))
          clear hgrow6
          have HO6 := hid hown6
          clear hown6
          go_wp2
          go_roundw
          case rel =>
            refine ⟨i + 1, by omega, by go_num, ?_, ?_, HB6.out⟩
            · rw [HA.out, HX.out]; simp
            · rw [HD2.out, HQ.out]
              have := HO6.out
              simpa [Lib.byteCells, List.append_assoc] using this
          case measure => simp [intOf]; omega
        · have p34 : ¬ (s[i].toNat : Int) = 34 := by omega
          have e34 : ((s[i].toNat : Int) == 34) = false := by rw [beq_eq_false_iff_ne]; exact p34
          have HQ := hid (show (if s[i].toNat = 34 then [s[i], s[i]] else [s[i]]) = [s[i]] by rw [if_neg h34])
          clear h34
          cases hnq : nqB s[i].toNat with
          | true =>
            have HX := hid hnq
            clear hnq
            go_wp2_with (at_builtin; refine wpList_append_own_at _ rfl _ _ 44 rfl w.heap.size 5 _ (.int .u8 0) 1 1 Tryz.underlying44 (info_parts u8i).choose_spec.1 (info_parts u8i).choose_spec.2.1 (info_parts u8i).choose_spec.2.2.1 (info_parts u8i).choose_spec.2.2.2 rfl (by decide) _ _ _ rfl (HO.out.alloc _) ⟨wr.heap.size, 0, none⟩ 1 1 [.int .u8 (s[i].toNat : Int)] rfl rfl (by intro j u hj; cases j with | zero => simp at hj; subst hj; simp [Addr.add] | succ j => simp at hj) (by intro u hu; simp at hu; subst hu; rfl) (by unfold maxLen; omega) (by omega) (by have := HB.out.size; simp; omega) ?_)
            intro v5 w5 hown5 hgrow5 _ _
            obtain ⟨a5, c5, rfl⟩ := own_slice hown5
            have HB5 := hid ((HB.out.alloc HB.out.size _).grown hgrow5 (by simp; have := HB.out.size; omega) (fun k hk => (World.ownsRow.lt HO.out k hk).1))
            clear hgrow5
            have HO5 := hid hown5
            clear hown5
            go_wp2
            go_roundw
            case rel =>
              refine ⟨i + 1, by omega, by go_num, ?_, ?_, HB5.out⟩
              · rw [HA.out, HX.out]; simp
              · rw [HD2.out, HQ.out]
                have := HO5.out
                simpa [Lib.byteCells, List.append_assoc] using this
            case measure => simp [intOf]; omega
          | false =>
            have HX := hid hnq
            clear hnq
            go_wp2_with (at_builtin; refine wpList_append_own_at _ rfl _ _ 44 rfl w.heap.size 5 _ (.int .u8 0) 1 1 Tryz.underlying44 (info_parts u8i).choose_spec.1 (info_parts u8i).choose_spec.2.1 (info_parts u8i).choose_spec.2.2.1 (info_parts u8i).choose_spec.2.2.2 rfl (by decide) _ _ _ rfl (HO.out.alloc _) ⟨wr.heap.size, 0, none⟩ 1 1 [.int .u8 (s[i].toNat : Int)] rfl rfl (by intro j u hj; cases j with | zero => simp at hj; subst hj; simp [Addr.add] | succ j => simp at hj) (by intro u hu; simp at hu; subst hu; rfl) (by unfold maxLen; omega) (by omega) (by have := HB.out.size; simp; omega) ?_)
            intro v5 w5 hown5 hgrow5 _ _
            obtain ⟨a5, c5, rfl⟩ := own_slice hown5
            have HB5 := hid ((HB.out.alloc HB.out.size _).grown hgrow5 (by simp; have := HB.out.size; omega) (fun k hk => (World.ownsRow.lt HO.out k hk).1))
            clear hgrow5
            have HO5 := hid hown5
            clear hown5
            go_wp2
            go_roundw
            case rel =>
              refine ⟨i + 1, by omega, by go_num, ?_, ?_, HB5.out⟩
              · rw [HA.out, HX.out]; simp
              · rw [HD2.out, HQ.out]
                have := HO5.out
                simpa [Lib.byteCells, List.append_assoc] using this
            case measure => simp [intOf]; omega
    · have hI : ¬ (i : Int) < (s.size : Int) := by omega
      have hti : s.data.toList.take i = s.data.toList := List.take_of_length_le (by rw [HDS.out]; omega)
      rw [hti] at HO hlen ⊢
      cases hnq : s.data.toList.any (fun c => nqB c.toNat) with
      | true =>
        have HX := hid (show Pv = ⟨(34 :: (dbl s.data.toList ++ [34])).toArray⟩ by rw [HP.out]; unfold pcl; rw [if_pos hnq])
        obtain ⟨K, hK⟩ : ∃ K, K = 34 :: dbl s.data.toList := ⟨_, rfl⟩
        rw [← hK] at HO hlen ⊢
        have HKK := hid hK
        clear hnq hti hK
        go_wp2_with (at_builtin; refine wpList_append_own_at _ rfl _ _ 44 rfl w.heap.size 5 _ (.int .u8 0) 1 1 Tryz.underlying44 (info_parts u8i).choose_spec.1 (info_parts u8i).choose_spec.2.1 (info_parts u8i).choose_spec.2.2.1 (info_parts u8i).choose_spec.2.2.2 rfl (by decide) _ _ _ rfl (HO.out.alloc _) ⟨wr.heap.size, 0, none⟩ 1 1 [.int .u8 34] rfl rfl (by intro j u hj; cases j with | zero => simp at hj; subst hj; simp [Addr.add] | succ j => simp at hj) (by intro u hu; simp at hu; subst hu; rfl) (by unfold maxLen; omega) (by omega) (by have := HB.out.size; simp; omega) ?_)
        intro v5 w5 hown5 hgrow5 _ _
        obtain ⟨a5, c5, rfl⟩ := own_slice hown5
        have HB5 := hid ((HB.out.alloc HB.out.size _).grown hgrow5 (by simp; have := HB.out.size; omega) (fun k hk => (World.ownsRow.lt HO.out k hk).1))
        clear hgrow5
        have kc := conv_own2 (w := w5) (B := w.heap.size) (v := .slice a5 (K.length + 1) c5) (t := K ++ [34]) (by rw [List.length_append]; simpa [Lib.byteCells] using hown5)
        clear hown5
        go_wp2
        go_ret
        refine ⟨congrArg (fun z => Ending.returned (.string z)) ?_, HB5.out⟩
        rw [HX.out, HKK.out]
        rfl
      | false =>
        have HX := hid (show Pv = s by rw [HP.out]; unfold pcl; rw [if_neg (by rw [hnq]; decide)])
        clear hnq hti
        go_wp2
        go_ret
        exact ⟨congrArg (fun z => Ending.returned (.string z)) HX.out.symm, HB.out⟩
end Go.Proofs.YtedgdgaobgkffaaGreatDoor
