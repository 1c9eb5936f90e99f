/-
  GtinChecks: the law's own walk, out of the contracts.
-/
import Derived.Test.YthpdimhkgkefhaaDoorUnit
namespace Go.Proofs.YthpdimhkgkefhaaDoor
open Go.RowKit
set_option maxRecDepth 100000

set_option maxHeartbeats 2000000 in
theorem checks_any (s : ByteArray) (w : World) (hs : s.size ≤ 9223372036854775807) :
    Calls Tryd.prog 3 #[.string s] w fun e w' => e = .returned (.bool true) ∧ Below w.heap.size w w' := by
  have C1 : Hid (∀ w, Calls Tryd.prog 5 #[.string s] w fun e w' => e = .returned (.tuple #[.int .i64 (chkE s.data.toList).1, .int .i64 (chkE s.data.toList).2]) ∧ w' = w) := fun w => check_any s w hs
  have C2 : Hid (∀ w, Calls Tryd.prog 6 #[.string s] w fun e w' => e = .returned (.tuple #[.int .i64 (chkE s.data.toList).1, .int .i64 (chkE s.data.toList).2]) ∧ w' = w) := fun w => refCheck_any s w
  have N1 : Hid (∀ w, Calls Tryd.prog 7 #[.string s] w fun e w' => e = .returned (.tuple #[.string ⟨(nrmT s.data.toList).toArray⟩, .int .i64 (nrmE s.data.toList)]) ∧ Below w.heap.size w w') := fun w => normal_any s w hs
  have N2 : Hid (∀ w, Calls Tryd.prog 8 #[.string s] w fun e w' => e = .returned (.tuple #[.string ⟨(nrmT s.data.toList).toArray⟩, .int .i64 (nrmE s.data.toList)]) ∧ w' = w) := fun w => refNormal_any s w
  have S1 : Hid (∀ w, Calls Tryd.prog 9 #[.string s] w fun e w' => e = .returned (.tuple #[.string ⟨(shT s.data.toList).toArray⟩, .int .i64 (nrmE s.data.toList)]) ∧ Below w.heap.size w w') := fun w => short_any s w hs
  have S2 : Hid (∀ w, Calls Tryd.prog 10 #[.string s] w fun e w' => e = .returned (.tuple #[.string ⟨(shT s.data.toList).toArray⟩, .int .i64 (nrmE s.data.toList)]) ∧ w' = w) := fun w => refShort_any s w
  have U1 : Hid (∀ w, Calls Tryd.prog 11 #[.string s] w fun e w' => e = .returned (.tuple #[.string ⟨(unT s.data.toList).toArray⟩, .int .i64 (unE s.data.toList)]) ∧ Below w.heap.size w w') := fun w => unit_any s w hs
  have U2 : Hid (∀ w, Calls Tryd.prog 12 #[.string s] w fun e w' => e = .returned (.tuple #[.string ⟨(unT s.data.toList).toArray⟩, .int .i64 (unE s.data.toList)]) ∧ Below w.heap.size w w') := fun w => refUnit_any s w
  generalize (chkE s.data.toList).1 = c1 at C1 C2
  generalize (chkE s.data.toList).2 = c2 at C1 C2
  generalize (⟨(nrmT s.data.toList).toArray⟩ : ByteArray) = nT at N1 N2
  generalize nrmE s.data.toList = nE at N1 N2 S1 S2
  generalize (⟨(shT s.data.toList).toArray⟩ : ByteArray) = sT at S1 S2
  generalize (⟨(unT s.data.toList).toArray⟩ : ByteArray) = uT at U1 U2
  generalize unE s.data.toList = uE at U1 U2
  clear hs
  go_enter Tryd.func3, Tryd.ntmps3
  go_wp2_with fail
  refine (C1.out w).mono ?_
  rintro e w1 ⟨rfl, rfl⟩
  go_wp2_with fail
  refine (C2.out w1).mono ?_
  rintro e w2 ⟨rfl, rfl⟩
  go_wp2_with fail
  refine (N1.out w2).mono ?_
  rintro e w3 ⟨rfl, hb3⟩
  have hz3 := hb3.size
  go_wp2_with fail
  refine (N2.out w3).mono ?_
  rintro e w4 ⟨rfl, rfl⟩
  go_wp2_with fail
  refine (S1.out w4).mono ?_
  rintro e w5 ⟨rfl, hb5⟩
  have hB5 := hb3.trans (hb5.mono hz3)
  have hz5 := hB5.size
  clear hb3 hb5 hz3
  go_wp2_with fail
  refine (S2.out w5).mono ?_
  rintro e w6 ⟨rfl, rfl⟩
  go_wp2_with fail
  refine (U1.out w6).mono ?_
  rintro e w7 ⟨rfl, hb7⟩
  have hB7 := hB5.trans (hb7.mono hz5)
  have hz7 := hB7.size
  clear hB5 hb7 hz5
  go_wp2_with fail
  refine (U2.out w7).mono ?_
  rintro e w8 ⟨rfl, hb8⟩
  go_wp2
  go_ret
  exact ⟨rfl, hB7.trans (hb8.mono hz7)⟩
end Go.Proofs.YthpdimhkgkefhaaDoor
