/-
  Div64 by a small divisor: the walk.
-/
import Derived.Test.YtaiccmbhdgecgaaDv2
import Derived.Deep.Cut
namespace Go.Proofs.Ytaiccmbhdgecgaa
open Go.RowKit
set_option maxRecDepth 100000

set_option maxHeartbeats 1000000 in
theorem div64_2 (hi lo : Nat) (w : World) (h1 : 0 < hi) (h2 : hi < 2) (hlo : lo < 18446744073709551616) :
    Calls Try.prog 69 #[.int .u64 (hi : Int), .int .u64 (lo : Int), .int .u64 2] w fun e w' => (∃ r, e = .returned (.tuple #[.int .u64 (((hi * 18446744073709551616 + lo) / 2 : Nat) : Int), r])) ∧ ∃ n, w' = w.drewN n := by
  have HLz := hid (fun w => (show Calls Try.prog 74 #[.int .u64 2] w fun e w' => e = .returned (.int .i64 62) ∧ w' = w from Try.bits_LeadingZeros64 2 w (by omega) (by omega)))
  have i1 : ¬ (2 : Int) ≤ (hi : Int) := by omega
  have i2 : ¬ (hi : Int) = 0 := by omega
  have i3 : ((hi : Int) == 0) = false := by simp; omega
  obtain ⟨U, A, q, r, V, q2, hF⟩ := dv_facts 2 1073741824 4 hi lo (by decide) (by decide) h2 (by decide) (by decide) hlo
  obtain ⟨f1, f3, f4, f5, f6, f8⟩ := dv_ints (s := 62) hF (by decide) hlo (by decide) (by decide)
  obtain ⟨X1, X2, X3, r2, k1, k2, k3, k4, k5, k6, k7, k8, k9⟩ := dv_low (Z := 9223372036854775808) hF (by decide) (by decide)
  obtain ⟨T, hT⟩ : ∃ T, A * 4294967296 = T := ⟨_, rfl⟩
  rw [hT] at f3 f4 f5
  clear f8
  replace f1 : bits .or .u64 ((hi : Int) * 4611686018427387904) ((lo : Int) / 4) = (U : Int) := f1
  have f2 : bits .and .u64 9223372036854775808 4294967295 = 0 := by decide
  replace f3 : IntKind.u64.wrap ((lo : Int) * 4611686018427387904) = (T : Int) := f3
  replace f6 : IntKind.u64.wrap ((U : Int) / 2147483648) = (q : Int) := f6
  have f7 : IntKind.u64.wrap ((U : Int) - (q : Int) * 2147483648) = (r : Int) := dv_rest hF
  have brI : (r : Int) < 2147483648 := Int.ofNat_lt.2 hF.er
  have bAI : (A : Int) < 4294967296 := Int.ofNat_lt.2 hF.bA
  obtain ⟨g1, b1I, g2⟩ := not_two32 q hF.bq
  obtain ⟨g3, b3I, g4⟩ := not_two32 q2 hF.b2
  replace k3 : IntKind.u64.wrap ((q : Int) * 9223372036854775808) = (X3 : Int) := k3
  replace k5 : (V : Int) / 2147483648 = (q2 : Int) := k5
  replace k6 : IntKind.u64.wrap ((V : Int) - (q2 : Int) * 2147483648) = (r2 : Int) := k6
  replace k7 : (r2 : Int) < 2147483648 := Int.ofNat_lt.2 k7
  replace k9 : (V : Int) < 18446744073709551616 := Int.ofNat_lt.2 k9
  rw [hF.fin]
  clear hT hF hlo h1 h2
  have HK := hid (And.intro k1 (And.intro k2 (And.intro k3 (And.intro k4 (And.intro k5 (And.intro k6 (And.intro k7 (And.intro k9 (And.intro g3 (And.intro b3I g4))))))))))
  clear k1 k2 k3 k4 k5 k6 k7 k9 g3 b3I g4
  go_enter Try.func69, Try.ntmps69
  go_wp2_with fail
  refine Calls.mono (HLz.out _) ?_
  rintro e w2 ⟨rfl, rfl⟩
  clear HLz
  go_wp2_with fail
  go_loopw [15, 16] (fun v15 v16 wx => v15 = .int .u64 (q : Int) ∧ v16 = .int .u64 (r : Int) ∧ wx = w2) (fun _ _ _ => 0)
  case atStart => exact ⟨rfl, rfl, rfl⟩
  case round =>
    obtain ⟨rfl, rfl, rfl⟩ := hrel
    clear f1 f2 f3 f4 f5 f6 f7 i1 i2 i3
    obtain ⟨gV, _, gV2, _⟩ := neg_no V
    go_upto_region 21 with fail
    obtain ⟨k1, k2, k3, k4, k5, k6, k7, k9, g3, b3I, g4⟩ := HK.out
    obtain ⟨_, gR, _, gR2⟩ := neg_no r2
    clear HK gV gV2
    obtain ⟨Y1, m1, _⟩ := wrap_nat ((V : Int) * 4294967296)
    obtain ⟨Y2, m2, _⟩ := wrap_nat ((q2 : Int) * 9223372036854775808)
    obtain ⟨Y3, m3, _⟩ := wrap_nat ((Y1 : Int) - (Y2 : Int))
    go_upto_region 24 with fail
    clear k1 k2 k3 k4 k5 k6 brI bAI k8
    go_loopw [16, 18] (fun v16 v18 wx => v16 = .int .u64 (r2 : Int) ∧ v18 = .int .u64 (q2 : Int) ∧ wx = wr) (fun _ _ _ => 0)
    case atStart => exact ⟨rfl, rfl, rfl⟩
    case round =>
      obtain ⟨rfl, rfl, rfl⟩ := hrel
      go_upto_region 28 with fail
      go_wp2
      go_ret2
      exact ⟨⟨_, rfl⟩, 0, rfl⟩
set_option maxHeartbeats 1000000 in
theorem div64_3 (hi lo : Nat) (w : World) (h1 : 0 < hi) (h2 : hi < 3) (hlo : lo < 18446744073709551616) :
    Calls Try.prog 69 #[.int .u64 (hi : Int), .int .u64 (lo : Int), .int .u64 3] w fun e w' => (∃ r, e = .returned (.tuple #[.int .u64 (((hi * 18446744073709551616 + lo) / 3 : Nat) : Int), r])) ∧ ∃ n, w' = w.drewN n := by
  have HLz := hid (fun w => (show Calls Try.prog 74 #[.int .u64 3] w fun e w' => e = .returned (.int .i64 62) ∧ w' = w from Try.bits_LeadingZeros64 3 w (by omega) (by omega)))
  have i1 : ¬ (3 : Int) ≤ (hi : Int) := by omega
  have i2 : ¬ (hi : Int) = 0 := by omega
  have i3 : ((hi : Int) == 0) = false := by simp; omega
  obtain ⟨U, A, q, r, V, q2, hF⟩ := dv_facts 3 1073741824 4 hi lo (by decide) (by decide) h2 (by decide) (by decide) hlo
  obtain ⟨f1, f3, f4, f5, f6, f8⟩ := dv_ints (s := 62) hF (by decide) hlo (by decide) (by decide)
  obtain ⟨X1, X2, X3, r2, k1, k2, k3, k4, k5, k6, k7, k8, k9⟩ := dv_low (Z := 13835058055282163712) hF (by decide) (by decide)
  obtain ⟨T, hT⟩ : ∃ T, A * 4294967296 = T := ⟨_, rfl⟩
  rw [hT] at f3 f4 f5
  clear f8
  replace f1 : bits .or .u64 ((hi : Int) * 4611686018427387904) ((lo : Int) / 4) = (U : Int) := f1
  have f2 : bits .and .u64 13835058055282163712 4294967295 = 0 := by decide
  replace f3 : IntKind.u64.wrap ((lo : Int) * 4611686018427387904) = (T : Int) := f3
  replace f6 : IntKind.u64.wrap ((U : Int) / 3221225472) = (q : Int) := f6
  have f7 : IntKind.u64.wrap ((U : Int) - (q : Int) * 3221225472) = (r : Int) := dv_rest hF
  have brI : (r : Int) < 3221225472 := Int.ofNat_lt.2 hF.er
  have bAI : (A : Int) < 4294967296 := Int.ofNat_lt.2 hF.bA
  obtain ⟨g1, b1I, g2⟩ := not_two32 q hF.bq
  obtain ⟨g3, b3I, g4⟩ := not_two32 q2 hF.b2
  replace k3 : IntKind.u64.wrap ((q : Int) * 13835058055282163712) = (X3 : Int) := k3
  replace k5 : (V : Int) / 3221225472 = (q2 : Int) := k5
  replace k6 : IntKind.u64.wrap ((V : Int) - (q2 : Int) * 3221225472) = (r2 : Int) := k6
  replace k7 : (r2 : Int) < 3221225472 := Int.ofNat_lt.2 k7
  replace k9 : (V : Int) < 18446744073709551616 := Int.ofNat_lt.2 k9
  rw [hF.fin]
  clear hT hF hlo h1 h2
  have HK := hid (And.intro k1 (And.intro k2 (And.intro k3 (And.intro k4 (And.intro k5 (And.intro k6 (And.intro k7 (And.intro k9 (And.intro g3 (And.intro b3I g4))))))))))
  clear k1 k2 k3 k4 k5 k6 k7 k9 g3 b3I g4
  go_enter Try.func69, Try.ntmps69
  go_wp2_with fail
  refine Calls.mono (HLz.out _) ?_
  rintro e w2 ⟨rfl, rfl⟩
  clear HLz
  go_wp2_with fail
  go_loopw [15, 16] (fun v15 v16 wx => v15 = .int .u64 (q : Int) ∧ v16 = .int .u64 (r : Int) ∧ wx = w2) (fun _ _ _ => 0)
  case atStart => exact ⟨rfl, rfl, rfl⟩
  case round =>
    obtain ⟨rfl, rfl, rfl⟩ := hrel
    clear f1 f2 f3 f4 f5 f6 f7 i1 i2 i3
    obtain ⟨gV, _, gV2, _⟩ := neg_no V
    go_upto_region 21 with fail
    obtain ⟨k1, k2, k3, k4, k5, k6, k7, k9, g3, b3I, g4⟩ := HK.out
    obtain ⟨_, gR, _, gR2⟩ := neg_no r2
    clear HK gV gV2
    obtain ⟨Y1, m1, _⟩ := wrap_nat ((V : Int) * 4294967296)
    obtain ⟨Y2, m2, _⟩ := wrap_nat ((q2 : Int) * 13835058055282163712)
    obtain ⟨Y3, m3, _⟩ := wrap_nat ((Y1 : Int) - (Y2 : Int))
    go_upto_region 24 with fail
    clear k1 k2 k3 k4 k5 k6 brI bAI k8
    go_loopw [16, 18] (fun v16 v18 wx => v16 = .int .u64 (r2 : Int) ∧ v18 = .int .u64 (q2 : Int) ∧ wx = wr) (fun _ _ _ => 0)
    case atStart => exact ⟨rfl, rfl, rfl⟩
    case round =>
      obtain ⟨rfl, rfl, rfl⟩ := hrel
      go_upto_region 28 with fail
      go_wp2
      go_ret2
      exact ⟨⟨_, rfl⟩, 0, rfl⟩
set_option maxHeartbeats 1000000 in
theorem div64_4 (hi lo : Nat) (w : World) (h1 : 0 < hi) (h2 : hi < 4) (hlo : lo < 18446744073709551616) :
    Calls Try.prog 69 #[.int .u64 (hi : Int), .int .u64 (lo : Int), .int .u64 4] w fun e w' => (∃ r, e = .returned (.tuple #[.int .u64 (((hi * 18446744073709551616 + lo) / 4 : Nat) : Int), r])) ∧ ∃ n, w' = w.drewN n := by
  have HLz := hid (fun w => (show Calls Try.prog 74 #[.int .u64 4] w fun e w' => e = .returned (.int .i64 61) ∧ w' = w from Try.bits_LeadingZeros64 4 w (by omega) (by omega)))
  have i1 : ¬ (4 : Int) ≤ (hi : Int) := by omega
  have i2 : ¬ (hi : Int) = 0 := by omega
  have i3 : ((hi : Int) == 0) = false := by simp; omega
  obtain ⟨U, A, q, r, V, q2, hF⟩ := dv_facts 4 536870912 8 hi lo (by decide) (by decide) h2 (by decide) (by decide) hlo
  obtain ⟨f1, f3, f4, f5, f6, f8⟩ := dv_ints (s := 61) hF (by decide) hlo (by decide) (by decide)
  obtain ⟨X1, X2, X3, r2, k1, k2, k3, k4, k5, k6, k7, k8, k9⟩ := dv_low (Z := 9223372036854775808) hF (by decide) (by decide)
  obtain ⟨T, hT⟩ : ∃ T, A * 4294967296 = T := ⟨_, rfl⟩
  rw [hT] at f3 f4 f5
  clear f8
  replace f1 : bits .or .u64 ((hi : Int) * 2305843009213693952) ((lo : Int) / 8) = (U : Int) := f1
  have f2 : bits .and .u64 9223372036854775808 4294967295 = 0 := by decide
  replace f3 : IntKind.u64.wrap ((lo : Int) * 2305843009213693952) = (T : Int) := f3
  replace f6 : IntKind.u64.wrap ((U : Int) / 2147483648) = (q : Int) := f6
  have f7 : IntKind.u64.wrap ((U : Int) - (q : Int) * 2147483648) = (r : Int) := dv_rest hF
  have brI : (r : Int) < 2147483648 := Int.ofNat_lt.2 hF.er
  have bAI : (A : Int) < 4294967296 := Int.ofNat_lt.2 hF.bA
  obtain ⟨g1, b1I, g2⟩ := not_two32 q hF.bq
  obtain ⟨g3, b3I, g4⟩ := not_two32 q2 hF.b2
  replace k3 : IntKind.u64.wrap ((q : Int) * 9223372036854775808) = (X3 : Int) := k3
  replace k5 : (V : Int) / 2147483648 = (q2 : Int) := k5
  replace k6 : IntKind.u64.wrap ((V : Int) - (q2 : Int) * 2147483648) = (r2 : Int) := k6
  replace k7 : (r2 : Int) < 2147483648 := Int.ofNat_lt.2 k7
  replace k9 : (V : Int) < 18446744073709551616 := Int.ofNat_lt.2 k9
  rw [hF.fin]
  clear hT hF hlo h1 h2
  have HK := hid (And.intro k1 (And.intro k2 (And.intro k3 (And.intro k4 (And.intro k5 (And.intro k6 (And.intro k7 (And.intro k9 (And.intro g3 (And.intro b3I g4))))))))))
  clear k1 k2 k3 k4 k5 k6 k7 k9 g3 b3I g4
  go_enter Try.func69, Try.ntmps69
  go_wp2_with fail
  refine Calls.mono (HLz.out _) ?_
  rintro e w2 ⟨rfl, rfl⟩
  clear HLz
  go_wp2_with fail
  go_loopw [15, 16] (fun v15 v16 wx => v15 = .int .u64 (q : Int) ∧ v16 = .int .u64 (r : Int) ∧ wx = w2) (fun _ _ _ => 0)
  case atStart => exact ⟨rfl, rfl, rfl⟩
  case round =>
    obtain ⟨rfl, rfl, rfl⟩ := hrel
    clear f1 f2 f3 f4 f5 f6 f7 i1 i2 i3
    obtain ⟨gV, _, gV2, _⟩ := neg_no V
    go_upto_region 21 with fail
    obtain ⟨k1, k2, k3, k4, k5, k6, k7, k9, g3, b3I, g4⟩ := HK.out
    obtain ⟨_, gR, _, gR2⟩ := neg_no r2
    clear HK gV gV2
    obtain ⟨Y1, m1, _⟩ := wrap_nat ((V : Int) * 4294967296)
    obtain ⟨Y2, m2, _⟩ := wrap_nat ((q2 : Int) * 9223372036854775808)
    obtain ⟨Y3, m3, _⟩ := wrap_nat ((Y1 : Int) - (Y2 : Int))
    go_upto_region 24 with fail
    clear k1 k2 k3 k4 k5 k6 brI bAI k8
    go_loopw [16, 18] (fun v16 v18 wx => v16 = .int .u64 (r2 : Int) ∧ v18 = .int .u64 (q2 : Int) ∧ wx = wr) (fun _ _ _ => 0)
    case atStart => exact ⟨rfl, rfl, rfl⟩
    case round =>
      obtain ⟨rfl, rfl, rfl⟩ := hrel
      go_upto_region 28 with fail
      go_wp2
      go_ret2
      exact ⟨⟨_, rfl⟩, 0, rfl⟩
set_option maxHeartbeats 1000000 in
theorem div64_5 (hi lo : Nat) (w : World) (h1 : 0 < hi) (h2 : hi < 5) (hlo : lo < 18446744073709551616) :
    Calls Try.prog 69 #[.int .u64 (hi : Int), .int .u64 (lo : Int), .int .u64 5] w fun e w' => (∃ r, e = .returned (.tuple #[.int .u64 (((hi * 18446744073709551616 + lo) / 5 : Nat) : Int), r])) ∧ ∃ n, w' = w.drewN n := by
  have HLz := hid (fun w => (show Calls Try.prog 74 #[.int .u64 5] w fun e w' => e = .returned (.int .i64 61) ∧ w' = w from Try.bits_LeadingZeros64 5 w (by omega) (by omega)))
  have i1 : ¬ (5 : Int) ≤ (hi : Int) := by omega
  have i2 : ¬ (hi : Int) = 0 := by omega
  have i3 : ((hi : Int) == 0) = false := by simp; omega
  obtain ⟨U, A, q, r, V, q2, hF⟩ := dv_facts 5 536870912 8 hi lo (by decide) (by decide) h2 (by decide) (by decide) hlo
  obtain ⟨f1, f3, f4, f5, f6, f8⟩ := dv_ints (s := 61) hF (by decide) hlo (by decide) (by decide)
  obtain ⟨X1, X2, X3, r2, k1, k2, k3, k4, k5, k6, k7, k8, k9⟩ := dv_low (Z := 11529215046068469760) hF (by decide) (by decide)
  obtain ⟨T, hT⟩ : ∃ T, A * 4294967296 = T := ⟨_, rfl⟩
  rw [hT] at f3 f4 f5
  clear f8
  replace f1 : bits .or .u64 ((hi : Int) * 2305843009213693952) ((lo : Int) / 8) = (U : Int) := f1
  have f2 : bits .and .u64 11529215046068469760 4294967295 = 0 := by decide
  replace f3 : IntKind.u64.wrap ((lo : Int) * 2305843009213693952) = (T : Int) := f3
  replace f6 : IntKind.u64.wrap ((U : Int) / 2684354560) = (q : Int) := f6
  have f7 : IntKind.u64.wrap ((U : Int) - (q : Int) * 2684354560) = (r : Int) := dv_rest hF
  have brI : (r : Int) < 2684354560 := Int.ofNat_lt.2 hF.er
  have bAI : (A : Int) < 4294967296 := Int.ofNat_lt.2 hF.bA
  obtain ⟨g1, b1I, g2⟩ := not_two32 q hF.bq
  obtain ⟨g3, b3I, g4⟩ := not_two32 q2 hF.b2
  replace k3 : IntKind.u64.wrap ((q : Int) * 11529215046068469760) = (X3 : Int) := k3
  replace k5 : (V : Int) / 2684354560 = (q2 : Int) := k5
  replace k6 : IntKind.u64.wrap ((V : Int) - (q2 : Int) * 2684354560) = (r2 : Int) := k6
  replace k7 : (r2 : Int) < 2684354560 := Int.ofNat_lt.2 k7
  replace k9 : (V : Int) < 18446744073709551616 := Int.ofNat_lt.2 k9
  rw [hF.fin]
  clear hT hF hlo h1 h2
  have HK := hid (And.intro k1 (And.intro k2 (And.intro k3 (And.intro k4 (And.intro k5 (And.intro k6 (And.intro k7 (And.intro k9 (And.intro g3 (And.intro b3I g4))))))))))
  clear k1 k2 k3 k4 k5 k6 k7 k9 g3 b3I g4
  go_enter Try.func69, Try.ntmps69
  go_wp2_with fail
  refine Calls.mono (HLz.out _) ?_
  rintro e w2 ⟨rfl, rfl⟩
  clear HLz
  go_wp2_with fail
  go_loopw [15, 16] (fun v15 v16 wx => v15 = .int .u64 (q : Int) ∧ v16 = .int .u64 (r : Int) ∧ wx = w2) (fun _ _ _ => 0)
  case atStart => exact ⟨rfl, rfl, rfl⟩
  case round =>
    obtain ⟨rfl, rfl, rfl⟩ := hrel
    clear f1 f2 f3 f4 f5 f6 f7 i1 i2 i3
    obtain ⟨gV, _, gV2, _⟩ := neg_no V
    go_upto_region 21 with fail
    obtain ⟨k1, k2, k3, k4, k5, k6, k7, k9, g3, b3I, g4⟩ := HK.out
    obtain ⟨_, gR, _, gR2⟩ := neg_no r2
    clear HK gV gV2
    obtain ⟨Y1, m1, _⟩ := wrap_nat ((V : Int) * 4294967296)
    obtain ⟨Y2, m2, _⟩ := wrap_nat ((q2 : Int) * 11529215046068469760)
    obtain ⟨Y3, m3, _⟩ := wrap_nat ((Y1 : Int) - (Y2 : Int))
    go_upto_region 24 with fail
    clear k1 k2 k3 k4 k5 k6 brI bAI k8
    go_loopw [16, 18] (fun v16 v18 wx => v16 = .int .u64 (r2 : Int) ∧ v18 = .int .u64 (q2 : Int) ∧ wx = wr) (fun _ _ _ => 0)
    case atStart => exact ⟨rfl, rfl, rfl⟩
    case round =>
      obtain ⟨rfl, rfl, rfl⟩ := hrel
      go_upto_region 28 with fail
      go_wp2
      go_ret2
      exact ⟨⟨_, rfl⟩, 0, rfl⟩
set_option maxHeartbeats 1000000 in
theorem div64_6 (hi lo : Nat) (w : World) (h1 : 0 < hi) (h2 : hi < 6) (hlo : lo < 18446744073709551616) :
    Calls Try.prog 69 #[.int .u64 (hi : Int), .int .u64 (lo : Int), .int .u64 6] w fun e w' => (∃ r, e = .returned (.tuple #[.int .u64 (((hi * 18446744073709551616 + lo) / 6 : Nat) : Int), r])) ∧ ∃ n, w' = w.drewN n := by
  have HLz := hid (fun w => (show Calls Try.prog 74 #[.int .u64 6] w fun e w' => e = .returned (.int .i64 61) ∧ w' = w from Try.bits_LeadingZeros64 6 w (by omega) (by omega)))
  have i1 : ¬ (6 : Int) ≤ (hi : Int) := by omega
  have i2 : ¬ (hi : Int) = 0 := by omega
  have i3 : ((hi : Int) == 0) = false := by simp; omega
  obtain ⟨U, A, q, r, V, q2, hF⟩ := dv_facts 6 536870912 8 hi lo (by decide) (by decide) h2 (by decide) (by decide) hlo
  obtain ⟨f1, f3, f4, f5, f6, f8⟩ := dv_ints (s := 61) hF (by decide) hlo (by decide) (by decide)
  obtain ⟨X1, X2, X3, r2, k1, k2, k3, k4, k5, k6, k7, k8, k9⟩ := dv_low (Z := 13835058055282163712) hF (by decide) (by decide)
  obtain ⟨T, hT⟩ : ∃ T, A * 4294967296 = T := ⟨_, rfl⟩
  rw [hT] at f3 f4 f5
  clear f8
  replace f1 : bits .or .u64 ((hi : Int) * 2305843009213693952) ((lo : Int) / 8) = (U : Int) := f1
  have f2 : bits .and .u64 13835058055282163712 4294967295 = 0 := by decide
  replace f3 : IntKind.u64.wrap ((lo : Int) * 2305843009213693952) = (T : Int) := f3
  replace f6 : IntKind.u64.wrap ((U : Int) / 3221225472) = (q : Int) := f6
  have f7 : IntKind.u64.wrap ((U : Int) - (q : Int) * 3221225472) = (r : Int) := dv_rest hF
  have brI : (r : Int) < 3221225472 := Int.ofNat_lt.2 hF.er
  have bAI : (A : Int) < 4294967296 := Int.ofNat_lt.2 hF.bA
  obtain ⟨g1, b1I, g2⟩ := not_two32 q hF.bq
  obtain ⟨g3, b3I, g4⟩ := not_two32 q2 hF.b2
  replace k3 : IntKind.u64.wrap ((q : Int) * 13835058055282163712) = (X3 : Int) := k3
  replace k5 : (V : Int) / 3221225472 = (q2 : Int) := k5
  replace k6 : IntKind.u64.wrap ((V : Int) - (q2 : Int) * 3221225472) = (r2 : Int) := k6
  replace k7 : (r2 : Int) < 3221225472 := Int.ofNat_lt.2 k7
  replace k9 : (V : Int) < 18446744073709551616 := Int.ofNat_lt.2 k9
  rw [hF.fin]
  clear hT hF hlo h1 h2
  have HK := hid (And.intro k1 (And.intro k2 (And.intro k3 (And.intro k4 (And.intro k5 (And.intro k6 (And.intro k7 (And.intro k9 (And.intro g3 (And.intro b3I g4))))))))))
  clear k1 k2 k3 k4 k5 k6 k7 k9 g3 b3I g4
  go_enter Try.func69, Try.ntmps69
  go_wp2_with fail
  refine Calls.mono (HLz.out _) ?_
  rintro e w2 ⟨rfl, rfl⟩
  clear HLz
  go_wp2_with fail
  go_loopw [15, 16] (fun v15 v16 wx => v15 = .int .u64 (q : Int) ∧ v16 = .int .u64 (r : Int) ∧ wx = w2) (fun _ _ _ => 0)
  case atStart => exact ⟨rfl, rfl, rfl⟩
  case round =>
    obtain ⟨rfl, rfl, rfl⟩ := hrel
    clear f1 f2 f3 f4 f5 f6 f7 i1 i2 i3
    obtain ⟨gV, _, gV2, _⟩ := neg_no V
    go_upto_region 21 with fail
    obtain ⟨k1, k2, k3, k4, k5, k6, k7, k9, g3, b3I, g4⟩ := HK.out
    obtain ⟨_, gR, _, gR2⟩ := neg_no r2
    clear HK gV gV2
    obtain ⟨Y1, m1, _⟩ := wrap_nat ((V : Int) * 4294967296)
    obtain ⟨Y2, m2, _⟩ := wrap_nat ((q2 : Int) * 13835058055282163712)
    obtain ⟨Y3, m3, _⟩ := wrap_nat ((Y1 : Int) - (Y2 : Int))
    go_upto_region 24 with fail
    clear k1 k2 k3 k4 k5 k6 brI bAI k8
    go_loopw [16, 18] (fun v16 v18 wx => v16 = .int .u64 (r2 : Int) ∧ v18 = .int .u64 (q2 : Int) ∧ wx = wr) (fun _ _ _ => 0)
    case atStart => exact ⟨rfl, rfl, rfl⟩
    case round =>
      obtain ⟨rfl, rfl, rfl⟩ := hrel
      go_upto_region 28 with fail
      go_wp2
      go_ret2
      exact ⟨⟨_, rfl⟩, 0, rfl⟩
set_option maxHeartbeats 1000000 in
theorem div64_7 (hi lo : Nat) (w : World) (h1 : 0 < hi) (h2 : hi < 7) (hlo : lo < 18446744073709551616) :
    Calls Try.prog 69 #[.int .u64 (hi : Int), .int .u64 (lo : Int), .int .u64 7] w fun e w' => (∃ r, e = .returned (.tuple #[.int .u64 (((hi * 18446744073709551616 + lo) / 7 : Nat) : Int), r])) ∧ ∃ n, w' = w.drewN n := by
  have HLz := hid (fun w => (show Calls Try.prog 74 #[.int .u64 7] w fun e w' => e = .returned (.int .i64 61) ∧ w' = w from Try.bits_LeadingZeros64 7 w (by omega) (by omega)))
  have i1 : ¬ (7 : Int) ≤ (hi : Int) := by omega
  have i2 : ¬ (hi : Int) = 0 := by omega
  have i3 : ((hi : Int) == 0) = false := by simp; omega
  obtain ⟨U, A, q, r, V, q2, hF⟩ := dv_facts 7 536870912 8 hi lo (by decide) (by decide) h2 (by decide) (by decide) hlo
  obtain ⟨f1, f3, f4, f5, f6, f8⟩ := dv_ints (s := 61) hF (by decide) hlo (by decide) (by decide)
  obtain ⟨X1, X2, X3, r2, k1, k2, k3, k4, k5, k6, k7, k8, k9⟩ := dv_low (Z := 16140901064495857664) hF (by decide) (by decide)
  obtain ⟨T, hT⟩ : ∃ T, A * 4294967296 = T := ⟨_, rfl⟩
  rw [hT] at f3 f4 f5
  clear f8
  replace f1 : bits .or .u64 ((hi : Int) * 2305843009213693952) ((lo : Int) / 8) = (U : Int) := f1
  have f2 : bits .and .u64 16140901064495857664 4294967295 = 0 := by decide
  replace f3 : IntKind.u64.wrap ((lo : Int) * 2305843009213693952) = (T : Int) := f3
  replace f6 : IntKind.u64.wrap ((U : Int) / 3758096384) = (q : Int) := f6
  have f7 : IntKind.u64.wrap ((U : Int) - (q : Int) * 3758096384) = (r : Int) := dv_rest hF
  have brI : (r : Int) < 3758096384 := Int.ofNat_lt.2 hF.er
  have bAI : (A : Int) < 4294967296 := Int.ofNat_lt.2 hF.bA
  obtain ⟨g1, b1I, g2⟩ := not_two32 q hF.bq
  obtain ⟨g3, b3I, g4⟩ := not_two32 q2 hF.b2
  replace k3 : IntKind.u64.wrap ((q : Int) * 16140901064495857664) = (X3 : Int) := k3
  replace k5 : (V : Int) / 3758096384 = (q2 : Int) := k5
  replace k6 : IntKind.u64.wrap ((V : Int) - (q2 : Int) * 3758096384) = (r2 : Int) := k6
  replace k7 : (r2 : Int) < 3758096384 := Int.ofNat_lt.2 k7
  replace k9 : (V : Int) < 18446744073709551616 := Int.ofNat_lt.2 k9
  rw [hF.fin]
  clear hT hF hlo h1 h2
  have HK := hid (And.intro k1 (And.intro k2 (And.intro k3 (And.intro k4 (And.intro k5 (And.intro k6 (And.intro k7 (And.intro k9 (And.intro g3 (And.intro b3I g4))))))))))
  clear k1 k2 k3 k4 k5 k6 k7 k9 g3 b3I g4
  go_enter Try.func69, Try.ntmps69
  go_wp2_with fail
  refine Calls.mono (HLz.out _) ?_
  rintro e w2 ⟨rfl, rfl⟩
  clear HLz
  go_wp2_with fail
  go_loopw [15, 16] (fun v15 v16 wx => v15 = .int .u64 (q : Int) ∧ v16 = .int .u64 (r : Int) ∧ wx = w2) (fun _ _ _ => 0)
  case atStart => exact ⟨rfl, rfl, rfl⟩
  case round =>
    obtain ⟨rfl, rfl, rfl⟩ := hrel
    clear f1 f2 f3 f4 f5 f6 f7 i1 i2 i3
    obtain ⟨gV, _, gV2, _⟩ := neg_no V
    go_upto_region 21 with fail
    obtain ⟨k1, k2, k3, k4, k5, k6, k7, k9, g3, b3I, g4⟩ := HK.out
    obtain ⟨_, gR, _, gR2⟩ := neg_no r2
    clear HK gV gV2
    obtain ⟨Y1, m1, _⟩ := wrap_nat ((V : Int) * 4294967296)
    obtain ⟨Y2, m2, _⟩ := wrap_nat ((q2 : Int) * 16140901064495857664)
    obtain ⟨Y3, m3, _⟩ := wrap_nat ((Y1 : Int) - (Y2 : Int))
    go_upto_region 24 with fail
    clear k1 k2 k3 k4 k5 k6 brI bAI k8
    go_loopw [16, 18] (fun v16 v18 wx => v16 = .int .u64 (r2 : Int) ∧ v18 = .int .u64 (q2 : Int) ∧ wx = wr) (fun _ _ _ => 0)
    case atStart => exact ⟨rfl, rfl, rfl⟩
    case round =>
      obtain ⟨rfl, rfl, rfl⟩ := hrel
      go_upto_region 28 with fail
      go_wp2
      go_ret2
      exact ⟨⟨_, rfl⟩, 0, rfl⟩
end Go.Proofs.Ytaiccmbhdgecgaa
