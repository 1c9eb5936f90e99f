/-
  GtinSpan.
-/
import Derived.Test.YtcenlpfanikdnaaDoorParseDay
import Derived.Test.YtcenlpfanikdnaaDoorGoDay
import Derived.Test.YtcenlpfanikdnaaDoorMade
namespace Go.Proofs.YtcenlpfanikdnaaDoor
open Go.RowKit
set_option maxRecDepth 100000

theorem dig_ex (z : Int) (h0 : 0 ≤ z) (h1 : z < 10) : ∃ c : UInt8, 48 + z = (c.toNat : Int) ∧ IsD c ∧ (dv c : Int) = z := by
  have e : (UInt8.ofNat (48 + z.toNat)).toNat = 48 + z.toNat := by rw [UInt8.toNat_ofNat']; omega
  refine ⟨UInt8.ofNat (48 + z.toNat), by rw [e]; omega, ?_, ?_⟩
  · unfold IsD; rw [e]; omega
  · unfold dv; rw [e]; omega

theorem reads_six (w : World) (c0 c1 c2 c3 c4 c5 : UInt8) : Reads (w.alloc (.cells #[.int .u8 (c0.toNat : Int), .int .u8 (c1.toNat : Int), .int .u8 (c2.toNat : Int), .int .u8 (c3.toNat : Int), .int .u8 (c4.toNat : Int), .int .u8 (c5.toNat : Int)] 5)) (.slice (some ⟨w.heap.size, 0, none⟩) 6 6) [c0, c1, c2, c3, c4, c5] := by
  refine .inr ⟨w.heap.size, 0, 6, rfl, Nat.le_refl _, fun j hj => ?_⟩
  have hj' : j < 6 := hj
  have : j = 0 ∨ j = 1 ∨ j = 2 ∨ j = 3 ∨ j = 4 ∨ j = 5 := by omega
  rcases this with rfl | rfl | rfl | rfl | rfl | rfl <;> simp

theorem run_six (w : World) (c0 c1 c2 c3 c4 c5 : UInt8) :
    (convert 22 9 (.slice (some ⟨w.heap.size, 0, none⟩) 6 6)).run Tryd.prog (w.alloc (.cells #[.int .u8 (c0.toNat : Int), .int .u8 (c1.toNat : Int), .int .u8 (c2.toNat : Int), .int .u8 (c3.toNat : Int), .int .u8 (c4.toNat : Int), .int .u8 (c5.toNat : Int)] 5)) = .ok (.string ⟨#[c0, c1, c2, c3, c4, c5]⟩) (w.alloc (.cells #[.int .u8 (c0.toNat : Int), .int .u8 (c1.toNat : Int), .int .u8 (c2.toNat : Int), .int .u8 (c3.toNat : Int), .int .u8 (c4.toNat : Int), .int .u8 (c5.toNat : Int)] 5)) :=
  run_text (l := [c0, c1, c2, c3, c4, c5]) 22 9 Tryd.underlying22 Tryd.underlying5 Tryd.underlying9 (reads_six w c0 c1 c2 c3 c4 c5)

theorem parts_six (c0 c1 c2 c3 c4 c5 : UInt8) : yy [c0, c1, c2, c3, c4, c5] = 10 * dv c0 + dv c1 ∧ mm [c0, c1, c2, c3, c4, c5] = 10 * dv c2 + dv c3 ∧ dd [c0, c1, c2, c3, c4, c5] = 10 * dv c4 + dv c5 := by
  unfold yy mm dd nm
  simp
  omega

/-- the string of a label that says a thirteenth month -/
theorem parse_13 (c0 c1 c4 c5 : UInt8) (h0 : IsD c0) (h1 : IsD c1) (h4 : IsD c4) (h5 : IsD c5) (s : ByteArray) (hl : s.data.toList = [49, 53, c0, c1, 49, 51, c4, c5]) (w : World) (hkn : HasKn w) :
    Calls Tryd.prog 15 #[.string s] w fun e w' => e = .returned (.tuple #[.slice none 0 0, .int .i64 28, .int .i64 2]) ∧ Below w.heap.size w w' := by
  have hs : s.size = 8 := by rw [← len_list, hl]; rfl
  refine parse_day s w hkn hs (by rw [hl]; rfl) (fun i hi _ => ?_) ?_
  · rw [isDB_iff, ← byte_list s i hi]
    have hm : s.data.toList[i]'(by rw [len_list]; exact hi) ∈ [49, 53, c0, c1, 49, 51, c4, c5] := hl ▸ List.getElem_mem _
    simp only [List.mem_cons, List.not_mem_nil, or_false] at hm
    rcases hm with e | e | e | e | e | e | e | e <;> rw [e] <;> first | assumption | (unfold IsD; decide)
  · rw [Lib.extract_data, hl]
    intro hd0
    obtain ⟨_, h, _⟩ := dayOk_iff.1 hd0
    rw [show List.take (8 - 2) (List.drop 2 [49, 53, c0, c1, 49, 51, c4, c5]) = [c0, c1, 49, 51, c4, c5] from rfl, (parts_six c0 c1 49 51 c4 c5).2.1] at h
    revert h
    decide

set_option maxHeartbeats 4000000 in
theorem span_any (y m d now : Int) (w : World) (hkn : HasKn w) (hy0 : 0 ≤ y) (hy1 : y < 256) (hm0 : 0 ≤ m) (hm1 : m < 256) (hd0 : 0 ≤ d) (hd1 : d < 256) :
    Calls Tryd.prog 5 #[.int .u8 y, .int .u8 m, .int .u8 d, .int .i64 now] w fun e w' => e = .returned (.bool true) ∧ Below w.heap.size w w' := by
  have HW : Hid (_) := within_any now 9800 w (by omega) (by omega)
  have hn0 : 0 ≤ now % (9800 + 1) := by omega
  have hn1 : now % (9800 + 1) ≤ 9800 := by omega
  obtain ⟨q, hq⟩ : ∃ q, q = now % (9800 + 1) := ⟨_, rfl⟩
  rw [← hq] at HW hn0 hn1
  clear hq
  have HK : Hid (_) := hkn
  clear hkn
  go_enter Tryd.func5, Tryd.ntmps5
  go_wp2_with fail
  refine Calls.mono HW.out ?_
  rintro e w' ⟨rfl, rfl⟩
  clear HW
  go_wp2_with fail
  rw [show y % 10 = y % 100 % 10 by omega]
  have hY0 : 0 ≤ y % 100 := by omega
  have hY1 : y % 100 < 100 := by omega
  have hM0 : 1 ≤ 1 + m % 12 := by omega
  have hM1 : 1 + m % 12 ≤ 12 := by omega
  have hD0 : 0 ≤ d % 29 := by omega
  have hD1 : d % 29 ≤ 28 := by omega
  have hN0 : 100 ≤ 100 + q := by omega
  have hN1 : 100 + q ≤ 9900 := by omega
  generalize y % 100 = Y at hY0 hY1 ⊢
  generalize 1 + m % 12 = M at hM0 hM1 ⊢
  generalize d % 29 = D at hD0 hD1 ⊢
  generalize 100 + q = N at hN0 hN1 ⊢
  obtain ⟨c0, z0, d0, v0⟩ := dig_ex (Y / 10) (by omega) (by omega)
  obtain ⟨c1, z1, d1, v1⟩ := dig_ex (Y % 10) (by omega) (by omega)
  obtain ⟨c2, z2, d2, v2⟩ := dig_ex (M / 10) (by omega) (by omega)
  obtain ⟨c3, z3, d3, v3⟩ := dig_ex (M % 10) (by omega) (by omega)
  obtain ⟨c4, z4, d4, v4⟩ := dig_ex (D / 10) (by omega) (by omega)
  obtain ⟨c5, z5, d5, v5⟩ := dig_ex (D % 10) (by omega) (by omega)
  rw [z0, z1, z2, z3, z4, z5]
  have kc := run_six w' c0 c1 c2 c3 c4 c5
  obtain ⟨w1, hw1⟩ : ∃ w1, w1 = w'.alloc (.cells #[.int .u8 (c0.toNat : Int), .int .u8 (c1.toNat : Int), .int .u8 (c2.toNat : Int), .int .u8 (c3.toNat : Int), .int .u8 (c4.toNat : Int), .int .u8 (c5.toNat : Int)] 5) := ⟨_, rfl⟩
  have b1 : Below w'.heap.size w' w1 := hw1 ▸ (Below.refl _ _).alloc (Nat.le_refl _) _
  rw [← hw1] at kc ⊢
  clear hw1 z0 z1 z2 z3 z4 z5
  have hp := parts_six c0 c1 c2 c3 c4 c5
  have hyv : (yy [c0, c1, c2, c3, c4, c5] : Int) = Y := by rw [hp.1]; omega
  have hmv : (mm [c0, c1, c2, c3, c4, c5] : Int) = M := by rw [hp.2.1]; omega
  have hdv : (dd [c0, c1, c2, c3, c4, c5] : Int) = D := by rw [hp.2.2]; omega
  have hAll : AllD [c0, c1, c2, c3, c4, c5] := by
    intro c hc
    simp only [List.mem_cons, List.not_mem_nil, or_false] at hc
    rcases hc with rfl | rfl | rfl | rfl | rfl | rfl <;> assumption
  have hok : DayOk (yy [c0, c1, c2, c3, c4, c5]) (mm [c0, c1, c2, c3, c4, c5]) (dd [c0, c1, c2, c3, c4, c5]) := by
    refine dayOk_iff.2 ⟨by omega, by omega, ?_⟩
    unfold lastD
    split
    · split <;> omega
    · split <;> omega
  have hfine : DayFine (⟨#[49, 53]⟩ : ByteArray).data.toList (⟨#[c0, c1, c2, c3, c4, c5]⟩ : ByteArray).data.toList N := ⟨by rfl, by rfl, hAll, hok, hN0, hN1⟩
  have hnot : ¬ DayFine (⟨#[49, 48]⟩ : ByteArray).data.toList (⟨#[c0, c1, c2, c3, c4, c5]⟩ : ByteArray).data.toList N := by
    rintro ⟨h, _⟩
    rw [show kfind (⟨#[49, 48]⟩ : ByteArray).data.toList = some 9 by rfl] at h
    cases h
  have HF : Hid (∀ wx, HasKn wx → Calls Tryd.prog 13 #[.agg #[.string ⟨#[49, 53]⟩, .string ⟨#[c0, c1, c2, c3, c4, c5]⟩], .int .i64 N] wx fun e w' => e = .returned (.tuple #[.int .i64 (yr N (yy [c0, c1, c2, c3, c4, c5])), .int .i64 M, .int .i64 D, .bool true]) ∧ Below wx.heap.size wx w') := fun wx h => (day_any ⟨#[49, 53]⟩ ⟨#[c0, c1, c2, c3, c4, c5]⟩ N wx h (show 6 ≤ 9223372036854775807 by decide)).mono fun e w2 h2 => ⟨by
    rcases h2.1 with ⟨h3, _⟩ | ⟨_, rfl⟩
    · exact absurd hfine h3
    · unfold goodDay
      rw [← hmv, ← hdv], h2.2⟩
  have HG : Hid (∀ wx, HasKn wx → Calls Tryd.prog 13 #[.agg #[.string ⟨#[49, 48]⟩, .string ⟨#[c0, c1, c2, c3, c4, c5]⟩], .int .i64 N] wx fun e w' => e = .returned badDay ∧ Below wx.heap.size wx w') := fun wx h => (day_any ⟨#[49, 48]⟩ ⟨#[c0, c1, c2, c3, c4, c5]⟩ N wx h (show 6 ≤ 9223372036854775807 by decide)).mono fun e w2 h2 => ⟨by
    rcases h2.1 with ⟨_, rfl⟩ | ⟨h3, _⟩
    · rfl
    · exact absurd h3 hnot, h2.2⟩
  obtain ⟨A, hA⟩ : ∃ A, A = yr N (yy [c0, c1, c2, c3, c4, c5]) := ⟨_, rfl⟩
  rw [← hA] at HF
  unfold yr at hA
  rw [hyv] at hA
  have hA0 : ¬ A < N - 49 := by omega
  have hA1 : ¬ N + 50 < A := by omega
  have hA2 : A % 100 = Y := by omega
  have hA3 : 0 ≤ A := by omega
  have hA4 : A.tmod 100 = Y := by rw [Int.tmod_eq_emod_of_nonneg hA3]; exact hA2
  have hA5 : A ≤ 10000 := by omega
  have HK1 : Hid (_) := HasKn.below HK.out b1
  have HB1 : Hid (_) := b1
  have HD : Hid (IsD c0 ∧ IsD c1 ∧ IsD c4 ∧ IsD c5) := ⟨d0, d1, d4, d5⟩
  clear hA hfine hnot hok hAll hp hyv hmv hdv v0 v1 v2 v3 v4 v5 d0 d1 d2 d3 d4 d5 b1
  go_wp2_with fail
  refine (HF.out _ HK1.out).mono ?_
  rintro e w2 ⟨rfl, b2⟩
  clear kc
  go_wp2_with fail
  have HK2 : Hid (_) := HasKn.below HK1.out b2
  have HB2 : Hid (_) := HB1.out.trans (b2.mono HB1.out.size)
  clear b2
  refine (HG.out _ HK2.out).mono ?_
  rintro e w3 ⟨rfl, b3⟩
  unfold badDay
  have HK3 : Hid (_) := HasKn.below HK2.out b3
  have HB3 : Hid (_) := HB2.out.trans (b3.mono HB2.out.size)
  clear b3 hA0 hA1 hA2 hA3 hA4 hA5
  have HX : Hid (Calls Tryd.prog 16 #[.string ⟨#[c0, c1, c2, c3, c4, c5]⟩, .int .i64 2, .int .u8 49] w3 fun e w' => ∃ t : ByteArray, e = .returned (.string t) ∧ t.data.toList = [c0, c1, 49, c3, c4, c5] ∧ Below w3.heap.size w3 w') := with_any ⟨#[c0, c1, c2, c3, c4, c5]⟩ 2 49 w3 (show 2 < 6 by decide) (show 6 ≤ 100 by decide)
  go_wp2_with fail
  refine Calls.mono HX.out ?_
  rintro e w4 ⟨t, rfl, ht, b4⟩
  have HK4 : Hid (_) := HasKn.below HK3.out b4
  have HB4 : Hid (_) := HB3.out.trans (b4.mono HB3.out.size)
  have hts : t.size = 6 := by rw [← len_list, ht]; rfl
  have HY : Hid (Calls Tryd.prog 16 #[.string t, .int .i64 3, .int .u8 51] w4 fun e w' => ∃ t2 : ByteArray, e = .returned (.string t2) ∧ t2.data.toList = t.data.toList.set 3 51 ∧ Below w4.heap.size w4 w') := with_any t 3 51 w4 (by omega) (by omega)
  rw [ht] at HY
  clear b4 ht hts HX
  go_wp2_with fail
  refine Calls.mono HY.out ?_
  rintro e w5 ⟨t2, rfl, ht2, b5⟩
  have HK5 : Hid (_) := HasKn.below HK4.out b5
  have HB5 : Hid (_) := HB4.out.trans (b5.mono HB4.out.size)
  have HZ : Hid (_) := parse_13 c0 c1 c4 c5 HD.out.1 HD.out.2.1 HD.out.2.2.1 HD.out.2.2.2 (⟨#[49, 53]⟩ ++ t2) (by rw [ByteArray.data_append, Array.toList_append, ht2]; rfl) w5 HK5.out
  have hts2 : t2.size = 6 := by rw [← len_list, ht2]; rfl
  clear b5 ht2 HY
  go_wp2_with fail
  refine Calls.mono HZ.out ?_
  rintro e w6 ⟨rfl, b6⟩
  have HB6 : Hid (_) := HB5.out.trans (b6.mono HB5.out.size)
  clear b6
  go_wp2
  go_ret
  exact ⟨rfl, HB6.out⟩
end Go.Proofs.YtcenlpfanikdnaaDoor
