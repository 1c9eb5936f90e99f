/-
  Sheets: strings.ReplaceAll of quotes by two.
-/
import Derived.Test.YtpgpeafmlijfkaaGreatDoorSbu
import Derived.Test.YtpgpeafmlijfkaaGreatDoorSia
namespace Go.Proofs.YtpgpeafmlijfkaaGreatDoor
open Go.RowKit
set_option maxRecDepth 100000
set_option linter.unusedVariables false
set_option linter.unusedSimpArgs false

theorem q34 (c : UInt8) : c = 34 ↔ c.toNat = 34 := ⟨fun h => by rw [h]; rfl, fun h => UInt8.toNat_inj.1 (by rw [h]; rfl)⟩
theorem dbl_none (l : List UInt8) (h : Lib.countByte l 34 = 0) : dbl l = l := by
  unfold Lib.countByte at h
  induction l with
  | nil => rfl
  | cons c t ih =>
    rw [List.count_cons] at h
    by_cases hc : c = 34
    · subst hc; simp at h
    · rw [dbl, if_neg (fun e => hc ((q34 c).2 e)), ih (by omega)]
theorem count_some (l : List UInt8) (k : Nat) (h : Lib.countByte l 34 = k + 1) : ∃ a r, l = a ++ 34 :: r ∧ dbl a = a ∧ Lib.indexByte l 34 = (a.length : Int) ∧ Lib.countByte r 34 = k := by
  unfold Lib.countByte at *
  induction l with
  | nil => simp at h
  | cons c t ih =>
    by_cases hc : c = 34
    · subst hc
      refine ⟨[], t, rfl, rfl, ?_, by simpa using h⟩
      unfold Lib.indexByte
      simp
    · rw [List.count_cons, if_neg (by simpa using hc), Nat.add_zero] at h
      obtain ⟨a, r, h1, h2, h3, h4⟩ := ih h
      refine ⟨c :: a, r, by rw [h1]; rfl, ?_, ?_, h4⟩
      · rw [dbl, if_neg (fun e => hc ((q34 c).2 e)), h2]
      · unfold Lib.indexByte
        rw [if_neg (by simpa using hc), h3, if_neg (by simp)]
        simp
theorem ext_list (s : ByteArray) (i j : Nat) : (s.extract i j).data.toList = (s.data.toList.take j).drop i := by
  rw [ByteArray.data_extract, Array.toList_extract, List.extract_eq_take_drop, List.drop_take]
theorem slice_mid (s : ByteArray) (i j : Nat) (y z : Int) (hy : y = (i : Int)) (hz : z = (j : Int)) (h1 : i ≤ j) (h2 : j ≤ s.size) (w : World) : (Instr.slice 9 (.string s) (some (.int .i64 y)) (some (.int .i64 z)) none).run Tryz.prog w = .ok (.string (s.extract i j)) w := by
  subst hy hz
  have := run_slice_string (P := Tryz.prog) w 9 s .i64 .i64 (i : Int) (j : Int) Tryz.underlying9 (by omega) (by omega) (by omega)
  rw [this]
  congr 3
set_option maxHeartbeats 800000 in
theorem replace_q (s : ByteArray) (hs : s.size ≤ 4096) (w : World) :
    Calls Tryz.prog 97 #[.string s, .string ⟨#[34]⟩, .string ⟨#[34, 34]⟩, .int .i64 (-1)] w fun e w' => e = .returned (.string ⟨(dbl s.data.toList).toArray⟩) ∧ Below w.heap.size w w' := by
  have hds : s.data.toList.length = s.size := by rw [Array.length_toList]; rfl
  have hcl : Lib.countByte s.data.toList 34 ≤ s.size := by rw [← hds]; exact List.count_le_length
  have HC := hid (fun w => Tryz.strings_Count_one s 34 w)
  have heq : ((⟨#[34]⟩ : ByteArray).toList == (⟨#[34, 34]⟩ : ByteArray).toList) = false := by rw [ByteArray.toList_eq, ByteArray.toList_eq]; rfl
  obtain ⟨m, hm⟩ : ∃ m, m = Lib.countByte s.data.toList 34 := ⟨_, rfl⟩
  rw [← hm] at HC hcl
  have HM := hid hm
  have HD := hid hds
  obtain ⟨X, hX⟩ : ∃ X : ByteArray, X = ⟨(dbl s.data.toList).toArray⟩ := ⟨_, rfl⟩
  rw [← hX]
  have HX := hid hX
  clear hm hds hX
  by_cases h0 : m = 0
  · have hx : X = s := by
      rw [HX.out, dbl_none _ (HM.out.symm.trans h0)]
    subst h0 hx
    go_enter Tryz.func97, Tryz.ntmps97
    go_wp2_with fail
    refine Calls.mono (HC.out _) ?_
    rintro e w1 ⟨rfl, hw⟩
    replace hw := hw.symm
    subst hw
    go_wp2
    go_ret
    exact ⟨rfl, Below.refl _ _⟩
  · have g0 : ¬ (m : Int) = 0 := by omega
    have b0 : ((m : Int) == 0) = false := by rw [beq_eq_false_iff_ne]; exact g0
    have HG := hid (Tryz.Builder_Grow_fresh w.heap.size w.heap.size (s.size + m) (w.alloc (.cells #[.pointer none, .slice none 0 0] 73)) (Nat.le_refl _) (heap_alloc_new w _) (by simp) (by omega))
    have hcast : ((s.size + m : Nat) : Int) = (s.size : Int) + (m : Int) := by omega
    rw [hcast] at HG
    clear hcast h0
    go_enter Tryz.func97, Tryz.ntmps97
    go_wp2_with fail
    refine Calls.mono (HC.out _) ?_
    rintro e w1 ⟨rfl, hw⟩
    replace hw := hw.symm
    subst hw
    go_wp2_with fail
    refine Calls.mono HG.out ?_
    rintro e w2 ⟨rfl, hb2, hl2⟩
    have HI2 := hid (show Isb w.heap.size w.heap.size [] w2 from .inr hb2)
    have HB2 := hid (show Below w.heap.size w w2 from ((Below.refl _ _).alloc (Nat.le_refl _) _).trans hl2)
    clear hb2 hl2 HG HC
    go_wp2_with fail
    go_loopw [53, 11] (fun t st wr => ∃ (k : Nat) (P l : List UInt8), k ≤ m ∧ t = .int .i64 (k : Int) ∧ s.data.toList = P ++ l ∧ st = .int .i64 (P.length : Int) ∧ Isb w.heap.size w.heap.size (dbl P) wr ∧ Below w.heap.size w wr ∧ Lib.countByte l 34 = m - k) (fun t _ _ => m - (intOf t).toNat)
    case atStart => exact ⟨0, [], s.data.toList, Nat.zero_le _, rfl, rfl, rfl, HI2.out, HB2.out, by rw [HM.out]; omega⟩
    case round =>
      obtain ⟨k, P, l, hk, rfl, hPl, rfl, hB, hBl, hct⟩ := hrel
      have hd := HD.out
      have hPL : P.length + l.length = s.size := by rw [← hd, hPl, List.length_append]
      have hdP := dbl_len P
      have HPl := hid hPl
      have hYl : (s.extract P.length s.size).data.toList = l := by
        rw [ext_list, hPl, List.take_of_length_le (by simp; omega), List.drop_left]
      have q1 := fun w => run_fromI s P.length (P.length : Int) rfl (by omega) w
      by_cases hlt : k < m
      · have hI : (k : Int) < (m : Int) := by omega
        obtain ⟨a, r, hl, ha, hix, hcr⟩ := count_some l (m - (k + 1)) (by omega)
        have hal : P.length + a.length + 1 + r.length = s.size := by rw [← hPL, hl]; simp; omega
        have hZl : (s.extract P.length (P.length + a.length)).data.toList = a := by
          rw [ext_list, hPl, hl, List.take_append, List.take_of_length_le (by omega), List.drop_left]
          simp
        have hZs : (s.extract P.length (P.length + a.length)).size = a.length := by rw [ByteArray.size_extract]; omega
        have q2 := fun w => slice_mid s P.length (P.length + a.length) (P.length : Int) ((P.length : Int) + (a.length : Int)) rfl (by omega) (by omega) (by omega) w
        have HIx := hid (fun w => Tryz.strings_Index_one (s.extract P.length s.size) 34 w)
        rw [hYl, hix] at HIx
        have HZl := hid hZl
        have HBI := hid hB
        have HBl := hid hBl
        have HN := hid (show s.data.toList = (P ++ a ++ [34]) ++ r by rw [hPl, hl]; simp)
        have HDb := hid (show dbl (P ++ a ++ [34]) = dbl P ++ a ++ [34, 34] by rw [dbl_app, dbl_app, ha]; rfl)
        have HCr := hid hcr
        have hp1 : (P.length : Int) + (a.length : Int) ≤ 4096 := by omega
        have hsz := hBl.size
        generalize s.extract P.length s.size = Y at *
        generalize s.extract P.length (P.length + a.length) = Z at *
        clear hPl hYl hl ha hix hcr hct hZl hd hB hBl hPL
        go_wp2_with fail
        refine Calls.mono (HIx.out _) ?_
        rintro e w3 ⟨rfl, hw⟩
        replace hw := hw.symm
        subst hw
        go_wp2_with fail
        refine Calls.mono (wStrb w.heap.size w.heap.size (dbl P) Z _ HBI.out (by omega) hsz) ?_
        rintro e w4 ⟨rfl, hb4, hl4⟩
        rw [HZl.out] at hb4
        have HB4 := hid hb4
        have HL4 := hid (HBl.out.trans hl4)
        have hsz4 := HL4.out.size
        clear hb4 hl4
        go_wp2_with fail
        refine Calls.mono (wStrb w.heap.size w.heap.size (dbl P ++ a) ⟨#[34, 34]⟩ _ HB4.out (by have h2 : (⟨#[34, 34]⟩ : ByteArray).size = 2 := rfl; rw [h2, List.length_append]; omega) hsz4) ?_
        rintro e w5 ⟨rfl, hb5, hl5⟩
        have HB5 := hid hb5
        have HL5 := hid (HL4.out.trans hl5)
        clear hb5 hl5
        go_wp2
        go_roundw
        case rel =>
          refine ⟨k + 1, P ++ a ++ [34], r, by omega, by go_num, HN.out, ?_, ?_, HL5.out, HCr.out⟩
          · have e3 : (P ++ a ++ [34]).length = P.length + a.length + 1 := by simp; omega
            rw [e3]
            rfl
          · rw [HDb.out]
            exact HB5.out
        case measure => simp [intOf]; omega
      · have hI : ¬ (k : Int) < (m : Int) := by omega
        have hx : X = ⟨(dbl P ++ l).toArray⟩ := by
          rw [HX.out, hPl, dbl_app, dbl_none l (by omega)]
        have hYs : (s.extract P.length s.size).size = l.length := by rw [ByteArray.size_extract]; omega
        have HYl := hid hYl
        have HBI := hid hB
        have HBl := hid hBl
        have hsz := hBl.size
        have hsz2 : (dbl P).length + l.length ≤ 10000 := by omega
        generalize s.extract P.length s.size = Y at *
        subst hx
        clear hPl hYl hct hd hB hBl HX hPL
        go_wp2_with fail
        refine Calls.mono (wStrb w.heap.size w.heap.size (dbl P) Y _ HBI.out (by omega) hsz) ?_
        rintro e w4 ⟨rfl, hb4, hl4⟩
        rw [HYl.out] at hb4
        have HB4 := hid hb4
        have HL4 := hid (HBl.out.trans hl4)
        have hsz4 := HL4.out.size
        clear hb4 hl4
        go_wp2_with fail
        refine Calls.mono (strb w.heap.size w.heap.size (dbl P ++ l) _ HB4.out hsz4) ?_
        rintro e w5 ⟨rfl, hl5⟩
        have HL5 := hid (HL4.out.trans hl5)
        clear hl5
        go_wp2
        go_ret
        exact ⟨rfl, HL5.out⟩
set_option maxHeartbeats 1000000 in
theorem replaceAll_q (s : ByteArray) (hs : s.size ≤ 4096) (w : World) :
    Calls Tryz.prog 84 #[.string s, .string ⟨#[34]⟩, .string ⟨#[34, 34]⟩] w fun e w' => e = .returned (.string ⟨(dbl s.data.toList).toArray⟩) ∧ Below w.heap.size w w' := by
  have H := hid (replace_q s hs w)
  go_enter Tryz.func84, Tryz.ntmps84
  go_wp2_with fail
  refine Calls.mono H.out ?_
  rintro e w1 ⟨rfl, hb⟩
  go_wp2
  go_ret
  exact ⟨rfl, hb⟩
end Go.Proofs.YtpgpeafmlijfkaaGreatDoor
