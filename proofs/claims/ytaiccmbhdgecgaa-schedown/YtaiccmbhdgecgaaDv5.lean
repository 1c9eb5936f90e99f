/-
  Div64 by a small divisor: the walk.
-/
import Derived.Test.YtaiccmbhdgecgaaDv2
import Derived.Deep.Cut
namespace Go.Proofs.Ytaiccmbhdgecgaa
open Go.RowKit
set_option maxRecDepth 100000

set_option maxHeartbeats 1000000 in
theorem div64_14 (hi lo : Nat) (w : World) (h1 : 0 < hi) (h2 : hi < 14) (hlo : lo < 18446744073709551616) :
    Calls Try.prog 69 #[.int .u64 (hi : Int), .int .u64 (lo : Int), .int .u64 14] w fun e w' => (∃ r, e = .returned (.tuple #[.int .u64 (((hi * 18446744073709551616 + lo) / 14 : Nat) : Int), r])) ∧ ∃ n, w' = w.drewN n := by
  have HLz := hid (fun w => (show Calls Try.prog 74 #[.int .u64 14] w fun e w' => e = .returned (.int .i64 60) ∧ w' = w from Try.bits_LeadingZeros64 14 w (by omega) (by omega)))
  have i1 : ¬ (14 : Int) ≤ (hi : Int) := by omega
  have i2 : ¬ (hi : Int) = 0 := by omega
  have i3 : ((hi : Int) == 0) = false := by simp; omega
  obtain ⟨U, A, q, r, V, q2, hF⟩ := dv_facts 14 268435456 16 hi lo (by decide) (by decide) h2 (by decide) (by decide) hlo
  obtain ⟨f1, f3, f4, f5, f6, f8⟩ := dv_ints (s := 60) hF (by decide) hlo (by decide) (by decide)
  obtain ⟨X1, X2, X3, r2, k1, k2, k3, k4, k5, k6, k7, k8, k9⟩ := dv_low (Z := 16140901064495857664) hF (by decide) (by decide)
  obtain ⟨T, hT⟩ : ∃ T, A * 4294967296 = T := ⟨_, rfl⟩
  rw [hT] at f3 f4 f5
  clear f8
  replace f1 : bits .or .u64 ((hi : Int) * 1152921504606846976) ((lo : Int) / 16) = (U : Int) := f1
  have f2 : bits .and .u64 16140901064495857664 4294967295 = 0 := by decide
  replace f3 : IntKind.u64.wrap ((lo : Int) * 1152921504606846976) = (T : Int) := f3
  replace f6 : IntKind.u64.wrap ((U : Int) / 3758096384) = (q : Int) := f6
  have f7 : IntKind.u64.wrap ((U : Int) - (q : Int) * 3758096384) = (r : Int) := dv_rest hF
  have brI : (r : Int) < 3758096384 := Int.ofNat_lt.2 hF.er
  have bAI : (A : Int) < 4294967296 := Int.ofNat_lt.2 hF.bA
  obtain ⟨g1, b1I, g2⟩ := not_two32 q hF.bq
  obtain ⟨g3, b3I, g4⟩ := not_two32 q2 hF.b2
  replace k3 : IntKind.u64.wrap ((q : Int) * 16140901064495857664) = (X3 : Int) := k3
  replace k5 : (V : Int) / 3758096384 = (q2 : Int) := k5
  replace k6 : IntKind.u64.wrap ((V : Int) - (q2 : Int) * 3758096384) = (r2 : Int) := k6
  replace k7 : (r2 : Int) < 3758096384 := Int.ofNat_lt.2 k7
  replace k9 : (V : Int) < 18446744073709551616 := Int.ofNat_lt.2 k9
  rw [hF.fin]
  clear hT hF hlo h1 h2
  have HK := hid (And.intro k1 (And.intro k2 (And.intro k3 (And.intro k4 (And.intro k5 (And.intro k6 (And.intro k7 (And.intro k9 (And.intro g3 (And.intro b3I g4))))))))))
  clear k1 k2 k3 k4 k5 k6 k7 k9 g3 b3I g4
  go_enter Try.func69, Try.ntmps69
  go_wp2_with fail
  refine Calls.mono (HLz.out _) ?_
  rintro e w2 ⟨rfl, rfl⟩
  clear HLz
  go_wp2_with fail
  go_loopw [15, 16] (fun v15 v16 wx => v15 = .int .u64 (q : Int) ∧ v16 = .int .u64 (r : Int) ∧ wx = w2) (fun _ _ _ => 0)
  case atStart => exact ⟨rfl, rfl, rfl⟩
  case round =>
    obtain ⟨rfl, rfl, rfl⟩ := hrel
    clear f1 f2 f3 f4 f5 f6 f7 i1 i2 i3
    obtain ⟨gV, _, gV2, _⟩ := neg_no V
    go_upto_region 21 with fail
    obtain ⟨k1, k2, k3, k4, k5, k6, k7, k9, g3, b3I, g4⟩ := HK.out
    obtain ⟨_, gR, _, gR2⟩ := neg_no r2
    clear HK gV gV2
    obtain ⟨Y1, m1, _⟩ := wrap_nat ((V : Int) * 4294967296)
    obtain ⟨Y2, m2, _⟩ := wrap_nat ((q2 : Int) * 16140901064495857664)
    obtain ⟨Y3, m3, _⟩ := wrap_nat ((Y1 : Int) - (Y2 : Int))
    go_upto_region 24 with fail
    clear k1 k2 k3 k4 k5 k6 brI bAI k8
    go_loopw [16, 18] (fun v16 v18 wx => v16 = .int .u64 (r2 : Int) ∧ v18 = .int .u64 (q2 : Int) ∧ wx = wr) (fun _ _ _ => 0)
    case atStart => exact ⟨rfl, rfl, rfl⟩
    case round =>
      obtain ⟨rfl, rfl, rfl⟩ := hrel
      go_upto_region 28 with fail
      go_wp2
      go_ret2
      exact ⟨⟨_, rfl⟩, 0, rfl⟩
set_option maxHeartbeats 1000000 in
theorem div64_15 (hi lo : Nat) (w : World) (h1 : 0 < hi) (h2 : hi < 15) (hlo : lo < 18446744073709551616) :
    Calls Try.prog 69 #[.int .u64 (hi : Int), .int .u64 (lo : Int), .int .u64 15] w fun e w' => (∃ r, e = .returned (.tuple #[.int .u64 (((hi * 18446744073709551616 + lo) / 15 : Nat) : Int), r])) ∧ ∃ n, w' = w.drewN n := by
  have HLz := hid (fun w => (show Calls Try.prog 74 #[.int .u64 15] w fun e w' => e = .returned (.int .i64 60) ∧ w' = w from Try.bits_LeadingZeros64 15 w (by omega) (by omega)))
  have i1 : ¬ (15 : Int) ≤ (hi : Int) := by omega
  have i2 : ¬ (hi : Int) = 0 := by omega
  have i3 : ((hi : Int) == 0) = false := by simp; omega
  obtain ⟨U, A, q, r, V, q2, hF⟩ := dv_facts 15 268435456 16 hi lo (by decide) (by decide) h2 (by decide) (by decide) hlo
  obtain ⟨f1, f3, f4, f5, f6, f8⟩ := dv_ints (s := 60) hF (by decide) hlo (by decide) (by decide)
  obtain ⟨X1, X2, X3, r2, k1, k2, k3, k4, k5, k6, k7, k8, k9⟩ := dv_low (Z := 17293822569102704640) hF (by decide) (by decide)
  obtain ⟨T, hT⟩ : ∃ T, A * 4294967296 = T := ⟨_, rfl⟩
  rw [hT] at f3 f4 f5
  clear f8
  replace f1 : bits .or .u64 ((hi : Int) * 1152921504606846976) ((lo : Int) / 16) = (U : Int) := f1
  have f2 : bits .and .u64 17293822569102704640 4294967295 = 0 := by decide
  replace f3 : IntKind.u64.wrap ((lo : Int) * 1152921504606846976) = (T : Int) := f3
  replace f6 : IntKind.u64.wrap ((U : Int) / 4026531840) = (q : Int) := f6
  have f7 : IntKind.u64.wrap ((U : Int) - (q : Int) * 4026531840) = (r : Int) := dv_rest hF
  have brI : (r : Int) < 4026531840 := Int.ofNat_lt.2 hF.er
  have bAI : (A : Int) < 4294967296 := Int.ofNat_lt.2 hF.bA
  obtain ⟨g1, b1I, g2⟩ := not_two32 q hF.bq
  obtain ⟨g3, b3I, g4⟩ := not_two32 q2 hF.b2
  replace k3 : IntKind.u64.wrap ((q : Int) * 17293822569102704640) = (X3 : Int) := k3
  replace k5 : (V : Int) / 4026531840 = (q2 : Int) := k5
  replace k6 : IntKind.u64.wrap ((V : Int) - (q2 : Int) * 4026531840) = (r2 : Int) := k6
  replace k7 : (r2 : Int) < 4026531840 := Int.ofNat_lt.2 k7
  replace k9 : (V : Int) < 18446744073709551616 := Int.ofNat_lt.2 k9
  rw [hF.fin]
  clear hT hF hlo h1 h2
  have HK := hid (And.intro k1 (And.intro k2 (And.intro k3 (And.intro k4 (And.intro k5 (And.intro k6 (And.intro k7 (And.intro k9 (And.intro g3 (And.intro b3I g4))))))))))
  clear k1 k2 k3 k4 k5 k6 k7 k9 g3 b3I g4
  go_enter Try.func69, Try.ntmps69
  go_wp2_with fail
  refine Calls.mono (HLz.out _) ?_
  rintro e w2 ⟨rfl, rfl⟩
  clear HLz
  go_wp2_with fail
  go_loopw [15, 16] (fun v15 v16 wx => v15 = .int .u64 (q : Int) ∧ v16 = .int .u64 (r : Int) ∧ wx = w2) (fun _ _ _ => 0)
  case atStart => exact ⟨rfl, rfl, rfl⟩
  case round =>
    obtain ⟨rfl, rfl, rfl⟩ := hrel
    clear f1 f2 f3 f4 f5 f6 f7 i1 i2 i3
    obtain ⟨gV, _, gV2, _⟩ := neg_no V
    go_upto_region 21 with fail
    obtain ⟨k1, k2, k3, k4, k5, k6, k7, k9, g3, b3I, g4⟩ := HK.out
    obtain ⟨_, gR, _, gR2⟩ := neg_no r2
    clear HK gV gV2
    obtain ⟨Y1, m1, _⟩ := wrap_nat ((V : Int) * 4294967296)
    obtain ⟨Y2, m2, _⟩ := wrap_nat ((q2 : Int) * 17293822569102704640)
    obtain ⟨Y3, m3, _⟩ := wrap_nat ((Y1 : Int) - (Y2 : Int))
    go_upto_region 24 with fail
    clear k1 k2 k3 k4 k5 k6 brI bAI k8
    go_loopw [16, 18] (fun v16 v18 wx => v16 = .int .u64 (r2 : Int) ∧ v18 = .int .u64 (q2 : Int) ∧ wx = wr) (fun _ _ _ => 0)
    case atStart => exact ⟨rfl, rfl, rfl⟩
    case round =>
      obtain ⟨rfl, rfl, rfl⟩ := hrel
      go_upto_region 28 with fail
      go_wp2
      go_ret2
      exact ⟨⟨_, rfl⟩, 0, rfl⟩
set_option maxHeartbeats 1000000 in
theorem div64_16 (hi lo : Nat) (w : World) (h1 : 0 < hi) (h2 : hi < 16) (hlo : lo < 18446744073709551616) :
    Calls Try.prog 69 #[.int .u64 (hi : Int), .int .u64 (lo : Int), .int .u64 16] w fun e w' => (∃ r, e = .returned (.tuple #[.int .u64 (((hi * 18446744073709551616 + lo) / 16 : Nat) : Int), r])) ∧ ∃ n, w' = w.drewN n := by
  have HLz := hid (fun w => (show Calls Try.prog 74 #[.int .u64 16] w fun e w' => e = .returned (.int .i64 59) ∧ w' = w from Try.bits_LeadingZeros64 16 w (by omega) (by omega)))
  have i1 : ¬ (16 : Int) ≤ (hi : Int) := by omega
  have i2 : ¬ (hi : Int) = 0 := by omega
  have i3 : ((hi : Int) == 0) = false := by simp; omega
  obtain ⟨U, A, q, r, V, q2, hF⟩ := dv_facts 16 134217728 32 hi lo (by decide) (by decide) h2 (by decide) (by decide) hlo
  obtain ⟨f1, f3, f4, f5, f6, f8⟩ := dv_ints (s := 59) hF (by decide) hlo (by decide) (by decide)
  obtain ⟨X1, X2, X3, r2, k1, k2, k3, k4, k5, k6, k7, k8, k9⟩ := dv_low (Z := 9223372036854775808) hF (by decide) (by decide)
  obtain ⟨T, hT⟩ : ∃ T, A * 4294967296 = T := ⟨_, rfl⟩
  rw [hT] at f3 f4 f5
  clear f8
  replace f1 : bits .or .u64 ((hi : Int) * 576460752303423488) ((lo : Int) / 32) = (U : Int) := f1
  have f2 : bits .and .u64 9223372036854775808 4294967295 = 0 := by decide
  replace f3 : IntKind.u64.wrap ((lo : Int) * 576460752303423488) = (T : Int) := f3
  replace f6 : IntKind.u64.wrap ((U : Int) / 2147483648) = (q : Int) := f6
  have f7 : IntKind.u64.wrap ((U : Int) - (q : Int) * 2147483648) = (r : Int) := dv_rest hF
  have brI : (r : Int) < 2147483648 := Int.ofNat_lt.2 hF.er
  have bAI : (A : Int) < 4294967296 := Int.ofNat_lt.2 hF.bA
  obtain ⟨g1, b1I, g2⟩ := not_two32 q hF.bq
  obtain ⟨g3, b3I, g4⟩ := not_two32 q2 hF.b2
  replace k3 : IntKind.u64.wrap ((q : Int) * 9223372036854775808) = (X3 : Int) := k3
  replace k5 : (V : Int) / 2147483648 = (q2 : Int) := k5
  replace k6 : IntKind.u64.wrap ((V : Int) - (q2 : Int) * 2147483648) = (r2 : Int) := k6
  replace k7 : (r2 : Int) < 2147483648 := Int.ofNat_lt.2 k7
  replace k9 : (V : Int) < 18446744073709551616 := Int.ofNat_lt.2 k9
  rw [hF.fin]
  clear hT hF hlo h1 h2
  have HK := hid (And.intro k1 (And.intro k2 (And.intro k3 (And.intro k4 (And.intro k5 (And.intro k6 (And.intro k7 (And.intro k9 (And.intro g3 (And.intro b3I g4))))))))))
  clear k1 k2 k3 k4 k5 k6 k7 k9 g3 b3I g4
  go_enter Try.func69, Try.ntmps69
  go_wp2_with fail
  refine Calls.mono (HLz.out _) ?_
  rintro e w2 ⟨rfl, rfl⟩
  clear HLz
  go_wp2_with fail
  go_loopw [15, 16] (fun v15 v16 wx => v15 = .int .u64 (q : Int) ∧ v16 = .int .u64 (r : Int) ∧ wx = w2) (fun _ _ _ => 0)
  case atStart => exact ⟨rfl, rfl, rfl⟩
  case round =>
    obtain ⟨rfl, rfl, rfl⟩ := hrel
    clear f1 f2 f3 f4 f5 f6 f7 i1 i2 i3
    obtain ⟨gV, _, gV2, _⟩ := neg_no V
    go_upto_region 21 with fail
    obtain ⟨k1, k2, k3, k4, k5, k6, k7, k9, g3, b3I, g4⟩ := HK.out
    obtain ⟨_, gR, _, gR2⟩ := neg_no r2
    clear HK gV gV2
    obtain ⟨Y1, m1, _⟩ := wrap_nat ((V : Int) * 4294967296)
    obtain ⟨Y2, m2, _⟩ := wrap_nat ((q2 : Int) * 9223372036854775808)
    obtain ⟨Y3, m3, _⟩ := wrap_nat ((Y1 : Int) - (Y2 : Int))
    go_upto_region 24 with fail
    clear k1 k2 k3 k4 k5 k6 brI bAI k8
    go_loopw [16, 18] (fun v16 v18 wx => v16 = .int .u64 (r2 : Int) ∧ v18 = .int .u64 (q2 : Int) ∧ wx = wr) (fun _ _ _ => 0)
    case atStart => exact ⟨rfl, rfl, rfl⟩
    case round =>
      obtain ⟨rfl, rfl, rfl⟩ := hrel
      go_upto_region 28 with fail
      go_wp2
      go_ret2
      exact ⟨⟨_, rfl⟩, 0, rfl⟩
set_option maxHeartbeats 1000000 in
theorem div64_17 (hi lo : Nat) (w : World) (h1 : 0 < hi) (h2 : hi < 17) (hlo : lo < 18446744073709551616) :
    Calls Try.prog 69 #[.int .u64 (hi : Int), .int .u64 (lo : Int), .int .u64 17] w fun e w' => (∃ r, e = .returned (.tuple #[.int .u64 (((hi * 18446744073709551616 + lo) / 17 : Nat) : Int), r])) ∧ ∃ n, w' = w.drewN n := by
  have HLz := hid (fun w => (show Calls Try.prog 74 #[.int .u64 17] w fun e w' => e = .returned (.int .i64 59) ∧ w' = w from Try.bits_LeadingZeros64 17 w (by omega) (by omega)))
  have i1 : ¬ (17 : Int) ≤ (hi : Int) := by omega
  have i2 : ¬ (hi : Int) = 0 := by omega
  have i3 : ((hi : Int) == 0) = false := by simp; omega
  obtain ⟨U, A, q, r, V, q2, hF⟩ := dv_facts 17 134217728 32 hi lo (by decide) (by decide) h2 (by decide) (by decide) hlo
  obtain ⟨f1, f3, f4, f5, f6, f8⟩ := dv_ints (s := 59) hF (by decide) hlo (by decide) (by decide)
  obtain ⟨X1, X2, X3, r2, k1, k2, k3, k4, k5, k6, k7, k8, k9⟩ := dv_low (Z := 9799832789158199296) hF (by decide) (by decide)
  obtain ⟨T, hT⟩ : ∃ T, A * 4294967296 = T := ⟨_, rfl⟩
  rw [hT] at f3 f4 f5
  clear f8
  replace f1 : bits .or .u64 ((hi : Int) * 576460752303423488) ((lo : Int) / 32) = (U : Int) := f1
  have f2 : bits .and .u64 9799832789158199296 4294967295 = 0 := by decide
  replace f3 : IntKind.u64.wrap ((lo : Int) * 576460752303423488) = (T : Int) := f3
  replace f6 : IntKind.u64.wrap ((U : Int) / 2281701376) = (q : Int) := f6
  have f7 : IntKind.u64.wrap ((U : Int) - (q : Int) * 2281701376) = (r : Int) := dv_rest hF
  have brI : (r : Int) < 2281701376 := Int.ofNat_lt.2 hF.er
  have bAI : (A : Int) < 4294967296 := Int.ofNat_lt.2 hF.bA
  obtain ⟨g1, b1I, g2⟩ := not_two32 q hF.bq
  obtain ⟨g3, b3I, g4⟩ := not_two32 q2 hF.b2
  replace k3 : IntKind.u64.wrap ((q : Int) * 9799832789158199296) = (X3 : Int) := k3
  replace k5 : (V : Int) / 2281701376 = (q2 : Int) := k5
  replace k6 : IntKind.u64.wrap ((V : Int) - (q2 : Int) * 2281701376) = (r2 : Int) := k6
  replace k7 : (r2 : Int) < 2281701376 := Int.ofNat_lt.2 k7
  replace k9 : (V : Int) < 18446744073709551616 := Int.ofNat_lt.2 k9
  rw [hF.fin]
  clear hT hF hlo h1 h2
  have HK := hid (And.intro k1 (And.intro k2 (And.intro k3 (And.intro k4 (And.intro k5 (And.intro k6 (And.intro k7 (And.intro k9 (And.intro g3 (And.intro b3I g4))))))))))
  clear k1 k2 k3 k4 k5 k6 k7 k9 g3 b3I g4
  go_enter Try.func69, Try.ntmps69
  go_wp2_with fail
  refine Calls.mono (HLz.out _) ?_
  rintro e w2 ⟨rfl, rfl⟩
  clear HLz
  go_wp2_with fail
  go_loopw [15, 16] (fun v15 v16 wx => v15 = .int .u64 (q : Int) ∧ v16 = .int .u64 (r : Int) ∧ wx = w2) (fun _ _ _ => 0)
  case atStart => exact ⟨rfl, rfl, rfl⟩
  case round =>
    obtain ⟨rfl, rfl, rfl⟩ := hrel
    clear f1 f2 f3 f4 f5 f6 f7 i1 i2 i3
    obtain ⟨gV, _, gV2, _⟩ := neg_no V
    go_upto_region 21 with fail
    obtain ⟨k1, k2, k3, k4, k5, k6, k7, k9, g3, b3I, g4⟩ := HK.out
    obtain ⟨_, gR, _, gR2⟩ := neg_no r2
    clear HK gV gV2
    obtain ⟨Y1, m1, _⟩ := wrap_nat ((V : Int) * 4294967296)
    obtain ⟨Y2, m2, _⟩ := wrap_nat ((q2 : Int) * 9799832789158199296)
    obtain ⟨Y3, m3, _⟩ := wrap_nat ((Y1 : Int) - (Y2 : Int))
    go_upto_region 24 with fail
    clear k1 k2 k3 k4 k5 k6 brI bAI k8
    go_loopw [16, 18] (fun v16 v18 wx => v16 = .int .u64 (r2 : Int) ∧ v18 = .int .u64 (q2 : Int) ∧ wx = wr) (fun _ _ _ => 0)
    case atStart => exact ⟨rfl, rfl, rfl⟩
    case round =>
      obtain ⟨rfl, rfl, rfl⟩ := hrel
      go_upto_region 28 with fail
      go_wp2
      go_ret2
      exact ⟨⟨_, rfl⟩, 0, rfl⟩
set_option maxHeartbeats 1000000 in
theorem div64_18 (hi lo : Nat) (w : World) (h1 : 0 < hi) (h2 : hi < 18) (hlo : lo < 18446744073709551616) :
    Calls Try.prog 69 #[.int .u64 (hi : Int), .int .u64 (lo : Int), .int .u64 18] w fun e w' => (∃ r, e = .returned (.tuple #[.int .u64 (((hi * 18446744073709551616 + lo) / 18 : Nat) : Int), r])) ∧ ∃ n, w' = w.drewN n := by
  have HLz := hid (fun w => (show Calls Try.prog 74 #[.int .u64 18] w fun e w' => e = .returned (.int .i64 59) ∧ w' = w from Try.bits_LeadingZeros64 18 w (by omega) (by omega)))
  have i1 : ¬ (18 : Int) ≤ (hi : Int) := by omega
  have i2 : ¬ (hi : Int) = 0 := by omega
  have i3 : ((hi : Int) == 0) = false := by simp; omega
  obtain ⟨U, A, q, r, V, q2, hF⟩ := dv_facts 18 134217728 32 hi lo (by decide) (by decide) h2 (by decide) (by decide) hlo
  obtain ⟨f1, f3, f4, f5, f6, f8⟩ := dv_ints (s := 59) hF (by decide) hlo (by decide) (by decide)
  obtain ⟨X1, X2, X3, r2, k1, k2, k3, k4, k5, k6, k7, k8, k9⟩ := dv_low (Z := 10376293541461622784) hF (by decide) (by decide)
  obtain ⟨T, hT⟩ : ∃ T, A * 4294967296 = T := ⟨_, rfl⟩
  rw [hT] at f3 f4 f5
  clear f8
  replace f1 : bits .or .u64 ((hi : Int) * 576460752303423488) ((lo : Int) / 32) = (U : Int) := f1
  have f2 : bits .and .u64 10376293541461622784 4294967295 = 0 := by decide
  replace f3 : IntKind.u64.wrap ((lo : Int) * 576460752303423488) = (T : Int) := f3
  replace f6 : IntKind.u64.wrap ((U : Int) / 2415919104) = (q : Int) := f6
  have f7 : IntKind.u64.wrap ((U : Int) - (q : Int) * 2415919104) = (r : Int) := dv_rest hF
  have brI : (r : Int) < 2415919104 := Int.ofNat_lt.2 hF.er
  have bAI : (A : Int) < 4294967296 := Int.ofNat_lt.2 hF.bA
  obtain ⟨g1, b1I, g2⟩ := not_two32 q hF.bq
  obtain ⟨g3, b3I, g4⟩ := not_two32 q2 hF.b2
  replace k3 : IntKind.u64.wrap ((q : Int) * 10376293541461622784) = (X3 : Int) := k3
  replace k5 : (V : Int) / 2415919104 = (q2 : Int) := k5
  replace k6 : IntKind.u64.wrap ((V : Int) - (q2 : Int) * 2415919104) = (r2 : Int) := k6
  replace k7 : (r2 : Int) < 2415919104 := Int.ofNat_lt.2 k7
  replace k9 : (V : Int) < 18446744073709551616 := Int.ofNat_lt.2 k9
  rw [hF.fin]
  clear hT hF hlo h1 h2
  have HK := hid (And.intro k1 (And.intro k2 (And.intro k3 (And.intro k4 (And.intro k5 (And.intro k6 (And.intro k7 (And.intro k9 (And.intro g3 (And.intro b3I g4))))))))))
  clear k1 k2 k3 k4 k5 k6 k7 k9 g3 b3I g4
  go_enter Try.func69, Try.ntmps69
  go_wp2_with fail
  refine Calls.mono (HLz.out _) ?_
  rintro e w2 ⟨rfl, rfl⟩
  clear HLz
  go_wp2_with fail
  go_loopw [15, 16] (fun v15 v16 wx => v15 = .int .u64 (q : Int) ∧ v16 = .int .u64 (r : Int) ∧ wx = w2) (fun _ _ _ => 0)
  case atStart => exact ⟨rfl, rfl, rfl⟩
  case round =>
    obtain ⟨rfl, rfl, rfl⟩ := hrel
    clear f1 f2 f3 f4 f5 f6 f7 i1 i2 i3
    obtain ⟨gV, _, gV2, _⟩ := neg_no V
    go_upto_region 21 with fail
    obtain ⟨k1, k2, k3, k4, k5, k6, k7, k9, g3, b3I, g4⟩ := HK.out
    obtain ⟨_, gR, _, gR2⟩ := neg_no r2
    clear HK gV gV2
    obtain ⟨Y1, m1, _⟩ := wrap_nat ((V : Int) * 4294967296)
    obtain ⟨Y2, m2, _⟩ := wrap_nat ((q2 : Int) * 10376293541461622784)
    obtain ⟨Y3, m3, _⟩ := wrap_nat ((Y1 : Int) - (Y2 : Int))
    go_upto_region 24 with fail
    clear k1 k2 k3 k4 k5 k6 brI bAI k8
    go_loopw [16, 18] (fun v16 v18 wx => v16 = .int .u64 (r2 : Int) ∧ v18 = .int .u64 (q2 : Int) ∧ wx = wr) (fun _ _ _ => 0)
    case atStart => exact ⟨rfl, rfl, rfl⟩
    case round =>
      obtain ⟨rfl, rfl, rfl⟩ := hrel
      go_upto_region 28 with fail
      go_wp2
      go_ret2
      exact ⟨⟨_, rfl⟩, 0, rfl⟩
set_option maxHeartbeats 1000000 in
theorem div64_19 (hi lo : Nat) (w : World) (h1 : 0 < hi) (h2 : hi < 19) (hlo : lo < 18446744073709551616) :
    Calls Try.prog 69 #[.int .u64 (hi : Int), .int .u64 (lo : Int), .int .u64 19] w fun e w' => (∃ r, e = .returned (.tuple #[.int .u64 (((hi * 18446744073709551616 + lo) / 19 : Nat) : Int), r])) ∧ ∃ n, w' = w.drewN n := by
  have HLz := hid (fun w => (show Calls Try.prog 74 #[.int .u64 19] w fun e w' => e = .returned (.int .i64 59) ∧ w' = w from Try.bits_LeadingZeros64 19 w (by omega) (by omega)))
  have i1 : ¬ (19 : Int) ≤ (hi : Int) := by omega
  have i2 : ¬ (hi : Int) = 0 := by omega
  have i3 : ((hi : Int) == 0) = false := by simp; omega
  obtain ⟨U, A, q, r, V, q2, hF⟩ := dv_facts 19 134217728 32 hi lo (by decide) (by decide) h2 (by decide) (by decide) hlo
  obtain ⟨f1, f3, f4, f5, f6, f8⟩ := dv_ints (s := 59) hF (by decide) hlo (by decide) (by decide)
  obtain ⟨X1, X2, X3, r2, k1, k2, k3, k4, k5, k6, k7, k8, k9⟩ := dv_low (Z := 10952754293765046272) hF (by decide) (by decide)
  obtain ⟨T, hT⟩ : ∃ T, A * 4294967296 = T := ⟨_, rfl⟩
  rw [hT] at f3 f4 f5
  clear f8
  replace f1 : bits .or .u64 ((hi : Int) * 576460752303423488) ((lo : Int) / 32) = (U : Int) := f1
  have f2 : bits .and .u64 10952754293765046272 4294967295 = 0 := by decide
  replace f3 : IntKind.u64.wrap ((lo : Int) * 576460752303423488) = (T : Int) := f3
  replace f6 : IntKind.u64.wrap ((U : Int) / 2550136832) = (q : Int) := f6
  have f7 : IntKind.u64.wrap ((U : Int) - (q : Int) * 2550136832) = (r : Int) := dv_rest hF
  have brI : (r : Int) < 2550136832 := Int.ofNat_lt.2 hF.er
  have bAI : (A : Int) < 4294967296 := Int.ofNat_lt.2 hF.bA
  obtain ⟨g1, b1I, g2⟩ := not_two32 q hF.bq
  obtain ⟨g3, b3I, g4⟩ := not_two32 q2 hF.b2
  replace k3 : IntKind.u64.wrap ((q : Int) * 10952754293765046272) = (X3 : Int) := k3
  replace k5 : (V : Int) / 2550136832 = (q2 : Int) := k5
  replace k6 : IntKind.u64.wrap ((V : Int) - (q2 : Int) * 2550136832) = (r2 : Int) := k6
  replace k7 : (r2 : Int) < 2550136832 := Int.ofNat_lt.2 k7
  replace k9 : (V : Int) < 18446744073709551616 := Int.ofNat_lt.2 k9
  rw [hF.fin]
  clear hT hF hlo h1 h2
  have HK := hid (And.intro k1 (And.intro k2 (And.intro k3 (And.intro k4 (And.intro k5 (And.intro k6 (And.intro k7 (And.intro k9 (And.intro g3 (And.intro b3I g4))))))))))
  clear k1 k2 k3 k4 k5 k6 k7 k9 g3 b3I g4
  go_enter Try.func69, Try.ntmps69
  go_wp2_with fail
  refine Calls.mono (HLz.out _) ?_
  rintro e w2 ⟨rfl, rfl⟩
  clear HLz
  go_wp2_with fail
  go_loopw [15, 16] (fun v15 v16 wx => v15 = .int .u64 (q : Int) ∧ v16 = .int .u64 (r : Int) ∧ wx = w2) (fun _ _ _ => 0)
  case atStart => exact ⟨rfl, rfl, rfl⟩
  case round =>
    obtain ⟨rfl, rfl, rfl⟩ := hrel
    clear f1 f2 f3 f4 f5 f6 f7 i1 i2 i3
    obtain ⟨gV, _, gV2, _⟩ := neg_no V
    go_upto_region 21 with fail
    obtain ⟨k1, k2, k3, k4, k5, k6, k7, k9, g3, b3I, g4⟩ := HK.out
    obtain ⟨_, gR, _, gR2⟩ := neg_no r2
    clear HK gV gV2
    obtain ⟨Y1, m1, _⟩ := wrap_nat ((V : Int) * 4294967296)
    obtain ⟨Y2, m2, _⟩ := wrap_nat ((q2 : Int) * 10952754293765046272)
    obtain ⟨Y3, m3, _⟩ := wrap_nat ((Y1 : Int) - (Y2 : Int))
    go_upto_region 24 with fail
    clear k1 k2 k3 k4 k5 k6 brI bAI k8
    go_loopw [16, 18] (fun v16 v18 wx => v16 = .int .u64 (r2 : Int) ∧ v18 = .int .u64 (q2 : Int) ∧ wx = wr) (fun _ _ _ => 0)
    case atStart => exact ⟨rfl, rfl, rfl⟩
    case round =>
      obtain ⟨rfl, rfl, rfl⟩ := hrel
      go_upto_region 28 with fail
      go_wp2
      go_ret2
      exact ⟨⟨_, rfl⟩, 0, rfl⟩
end Go.Proofs.Ytaiccmbhdgecgaa
