/-
  The document's own PrintShown.
-/
import Derived.Test.YtjmpkogjilefnaaDoorPsh
import Derived.Test.YtjmpkogjilefnaaDoorRefPr
namespace Go.Proofs.YtjmpkogjilefnaaDoor
open Go.RowKit
set_option maxRecDepth 100000

theorem one_of (x : ByteArray) (j : Nat) (h : j < x.size) : (x.extract j (j + 1)).data.toList = [x[j]'h] := by
  rw [Lib.extract_data, show j + 1 - j = 1 by omega]
  have hl : j < x.data.toList.length := by rw [len_list]; exact h
  rw [List.drop_eq_getElem_cons hl, byte_list x j h]
  simp

theorem run_subG (x : ByteArray) (i k : Nat) (z : Int) (hz : z = (k : Int)) (hi : i ≤ k) (hk : k ≤ x.size) (w : World) :
    (Instr.slice 9 (.string x) (some (.int .i64 (i : Int))) (some (.int .i64 z)) none).run Tryd.prog w = .ok (.string (x.extract i k)) w := by
  subst hz
  simp [Instr.slice, Instr.sliceBounds, Instr.sliceBound, asIntOf, run_underlying Tryd.underlying9, go_sem, hi, hk]
theorem run_subE (x : ByteArray) (j : Nat) (w : World) (h : j + 1 ≤ x.size) :
    (Instr.slice 9 (.string x) (some (.int .i64 (j : Int))) (some (.int .i64 ((j : Int) + 1))) none).run Tryd.prog w = .ok (.string (x.extract j (j + 1))) w :=
  run_subG x j (j + 1) _ (by omega) (by omega) h w

set_option maxHeartbeats 4000000 in
theorem refPrintShown_any (v : Value) (L : List El) (w : World) (hr : RE w v L) (hx : ∀ x ∈ L, x.2.size ≤ 281474976710656) (hll : L.length ≤ 9223372036854775000) :
    Calls Tryd.prog 23 #[v] w fun e w' => (∃ t en n, e = .returned (.tuple #[.string t, .int .i64 en, .int .i64 n]) ∧ PsA L t en n) ∧ Below w.heap.size w w' := by
  have HP := hid (refPrint_any v L w hr hx hll)
  have HR := hid hr
  clear hx hll hr
  have hvs : ∃ ao cap, v = .slice ao L.length cap := by
    rcases HR.out with ⟨rfl, ao, cap, rfl, _⟩ | ⟨b, off, cap, rfl, _⟩
    · exact ⟨_, _, rfl⟩
    · exact ⟨_, _, rfl⟩
  obtain ⟨vo, vc, rfl⟩ := hvs
  go_enter Tryd.func23, Tryd.ntmps23
  go_wp2_with fail
  refine HP.out.mono ?_
  rintro e w1 ⟨⟨t, en, n, rfl, hpr⟩, hb1⟩
  have HPR := hid hpr
  have B1 := hid hb1
  have R1 := hid (HR.out.below hb1)
  clear hpr hb1 HP HR
  by_cases h0 : en = 0
  · subst h0
    obtain ⟨hz, rfl⟩ := HPR.out.zero
    have HZ := hid hz
    have h39 := few_39 L L.length (Nat.le_refl _) hz
    have HSZ := hid (fun i hi => shP_len L i hi (fun j hj => hz j (by omega)))
    clear hz
    go_wp2_with fail
    go_loopw [8, 9] (fun s i wr => ∃ (k : Nat) (S : ByteArray), k ≤ L.length ∧ i = .int .i64 (k : Int) ∧ s = .string S ∧ S.data.toList = shP L k ∧ wr = w1) (fun _ i _ => L.length - (intOf i).toNat)
    case atStart => exact ⟨0, ⟨#[]⟩, by omega, rfl, rfl, rfl, rfl⟩
    case round =>
      obtain ⟨k, S, hk, rfl, rfl, hS, hwr⟩ := hrel
      have hws := hwr.symm
      clear hwr
      subst hws
      have HS := hid hS
      have hSl := len_list S
      rw [hS] at hSl
      have hs1 := HSZ.out k hk
      have hSs : S.size ≤ 10000 := by omega
      clear hS hSl hs1
      by_cases hlt : k < L.length
      · rcases R1.out with ⟨rfl, _⟩ | ⟨b, off, cap, hv, hcap, hcell⟩
        · simp at hlt
        have hvo : vo = some ⟨b, off, none⟩ := by injection hv
        subst hvo
        have hcl := hcell k hlt
        have c0 := hcl.1
        have c1 := hcl.2
        have h0 := HZ.out k hlt
        rw [ft_at hlt] at h0
        obtain ⟨q, hq, _, hf⟩ := ftE_zero h0
        have ha4 := kfind_len hq
        have hx90 := fltK_len hf
        have HSE := hid (she_at hlt)
        obtain ⟨a, ha⟩ : ∃ a, a = (L[k]'hlt).1 := ⟨_, rfl⟩
        obtain ⟨x, hx⟩ : ∃ x, x = (L[k]'hlt).2 := ⟨_, rfl⟩
        rw [← ha] at c0 ha4 HSE
        rw [← hx] at c1 hx90 HSE
        have hal := len_list a
        have hxl := len_list x
        rw [hal] at ha4
        rw [hxl] at hx90
        clear hcell hcl h0 hq hf ha hx hv
        obtain ⟨A, hA⟩ : ∃ A : ByteArray, S ++ (⟨#[40]⟩ : ByteArray) ++ a ++ ⟨#[41]⟩ = A := ⟨_, rfl⟩
        have hAl : A.data.toList = shP L k ++ [40] ++ a.data.toList ++ [41] := by rw [← hA]; simp [ByteArray.data_append, HS.out]
        have hAs : A.size ≤ 10010 := by
          have h1 := HSZ.out k hk
          rw [← len_list, hAl]; simp only [List.length_append, List.length_cons, List.length_nil]; omega
        have HAl := hid hAl
        clear hAl hal
        go_wp2_with fail
        go_loopw [8, 11] (fun s i wr => ∃ (j : Nat) (T : ByteArray), j ≤ x.size ∧ i = .int .i64 (j : Int) ∧ s = .string T ∧ T.data.toList = A.data.toList ++ shV (x.data.toList.take j) ∧ wr = w1) (fun _ i _ => x.size - (intOf i).toNat)
        case atStart => exact ⟨0, A, by omega, rfl, rfl, by simp [shV], rfl⟩
        case round =>
          obtain ⟨j, T, hj, rfl, rfl, hT, hwr⟩ := hrel
          have hws := hwr.symm
          clear hwr
          subst hws
          have HT := hid hT
          have hTl := len_list T
          have hvl := shV_len (x.data.toList.take j)
          rw [List.length_take] at hvl
          have hAl2 := len_list A
          rw [hT, List.length_append] at hTl
          have hTs : T.size ≤ 20000 := by omega
          clear hT hTl hvl hAl2
          by_cases hjl : j < x.size
          · have hjI : (j : Int) < (x.size : Int) := by omega
            have HST := hid (shV_take x.data.toList j (by omega))
            rw [byte_list x j hjl] at HST
            have HO := hid (one_of x j hjl)
            have hos : (x.extract j (j + 1)).size = 1 := by rw [← len_list, HO.out]; rfl
            obtain ⟨X, hX⟩ : ∃ X, x.extract j (j + 1) = X := ⟨_, rfl⟩
            rw [hX] at HO hos
            have hsub := fun w => run_subE x j w (by omega)
            rw [hX] at hsub
            clear hX
            by_cases hbr : IsBr (x[j]'hjl)
            · have hb2 : brk (x[j]'hjl) = [x[j]'hjl, x[j]'hjl] := if_pos hbr
              rw [hb2] at HST
              have HN := hid (show (T ++ X ++ X).data.toList = A.data.toList ++ shV (x.data.toList.take (j + 1)) by rw [ba_app, ba_app, HT.out, HO.out, HST.out]; simp [List.append_assoc])
              have hbb : (((x[j]'hjl).toNat : Int) == 40) = true ∨ ((((x[j]'hjl).toNat : Int) == 40) = false ∧ (((x[j]'hjl).toNat : Int) == 41) = true) := by
                rcases hbr with h | h
                · left; rw [h]; rfl
                · right; rw [h]; exact ⟨rfl, rfl⟩
              clear hbr hb2
              rcases hbb with b1 | ⟨b1, b2⟩
              all_goals
                go_wp2
                go_roundw
                case rel => exact ⟨j + 1, _, by omega, by go_num, rfl, HN.out, by simp⟩
                case measure => simp [intOf]; omega
            · have hb2 : brk (x[j]'hjl) = [x[j]'hjl] := if_neg hbr
              rw [hb2] at HST
              have HN := hid (show (T ++ X).data.toList = A.data.toList ++ shV (x.data.toList.take (j + 1)) by rw [ba_app, HT.out, HO.out, HST.out]; simp [List.append_assoc])
              have b1 : (((x[j]'hjl).toNat : Int) == 40) = false := by
                rw [beq_eq_false_iff_ne]
                intro h
                exact hbr (.inl (UInt8.toNat_inj.1 (by show (x[j]'hjl).toNat = 40; omega)))
              have b2 : (((x[j]'hjl).toNat : Int) == 41) = false := by
                rw [beq_eq_false_iff_ne]
                intro h
                exact hbr (.inr (UInt8.toNat_inj.1 (by show (x[j]'hjl).toNat = 41; omega)))
              clear hbr hb2
              go_wp2
              go_roundw
              case rel => exact ⟨j + 1, _, by omega, by go_num, rfl, HN.out, by simp⟩
              case measure => simp [intOf]; omega
          · have HI := hid (show T.data.toList = shP L (k + 1) by
              rw [HT.out, List.take_of_length_le (by omega), HAl.out, shP, HSE.out]
              simp [List.append_assoc])
            go_wp2
            go_roundw
            case rel => exact ⟨k + 1, T, hlt, by go_num, rfl, HI.out, by simp⟩
            case measure => simp [intOf]; omega
      · have hkl : k = L.length := by omega
        have HI := hid (show S.data.toList = shP L L.length by rw [← hkl]; exact HS.out)
        clear hkl
        go_wp2
        go_ret3
        exact ⟨⟨_, _, _, rfl, _, HPR.out, .inr ⟨rfl, HI.out⟩⟩, B1.out⟩
  · have hnb : (en != 0) = true := by simp [h0]
    have HN := hid h0
    clear h0
    go_wp2
    go_ret3
    exact ⟨⟨_, _, _, rfl, _, HPR.out, .inl ⟨HN.out, rfl⟩⟩, B1.out⟩
end Go.Proofs.YtjmpkogjilefnaaDoor
