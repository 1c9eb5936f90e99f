/-
  SchedFairs: the law's walk.
-/
import Derived.Test.YthkddjffofehjaaSe
namespace Go.Proofs.Ythkddjffofehjaa
open Go.RowKit
set_option maxRecDepth 100000

set_option maxHeartbeats 1000000 in
theorem fairs_any (v : Value) (R : List Int) (n k : Int) (w : World) (hr : RI w v R) (hl : R.length * 8 ≤ reachBytes) (hk0 : -9223372036854775808 ≤ k) (hk1 : k ≤ 9223372036854775807) :
    Calls Try.prog 3 #[v, .int .i64 n, .int .i64 k] w fun e w' => e = .returned (.bool true) ∧ Below w.heap.size w w' := by
  have hl' : (R.length + 9) * 8 ≤ 140737488355328 := by have : reachBytes = 140737488351232 := rfl; omega
  have HL := hid (lent_any v R w hr hl')
  obtain ⟨ao, cap, rfl⟩ := hr.len0
  have HR := hid hr
  clear hr hl
  go_enter Try.func3, Try.ntmps3
  go_wp2_with fail
  refine HL.out.mono ?_
  rintro e w1 ⟨v', rfl, hv', hb1⟩
  have HV := hid hv'
  have B1 := hid hb1
  have HF := hid (fair_any v' R n k w1 hv'.reads (by omega) hk0 hk1)
  clear hv' hb1 HL
  go_wp2_with fail
  refine HF.out.mono ?_
  rintro e w2 ⟨⟨b, p, rfl, ha⟩, hb2⟩
  have HA := hid ha
  have B2 := hid (B1.out.trans (hb2.mono B1.out.size))
  have HV2 := hid (HV.out.below hb2)
  have HG := hid (rfair_any _ R n k w2 (HR.out.below B2.out) (by omega) hk0 hk1)
  clear ha hb2 HF HV
  go_wp2_with fail
  refine HG.out.mono ?_
  rintro e w3 ⟨⟨b', p', rfl, ha'⟩, hb3⟩
  obtain ⟨rfl, rfl⟩ := HA.out.same ha'
  have B3 := hid (B2.out.trans (hb3.mono B2.out.size))
  have HK := hid (kept_any _ _ R w3 (HV2.out.below hb3) (HR.out.below B3.out) hl')
  clear ha' hb3 HG HA
  have hb : (b == b) = true := by simp
  have hp : (p == p) = true := by simp
  go_wp2_with fail
  refine HK.out.mono ?_
  rintro e w4 ⟨rfl, hb4⟩
  have B4 := hid (B3.out.trans (hb4.mono B3.out.size))
  clear hb4 HK
  go_wp2
  go_ret
  exact ⟨rfl, B4.out⟩
end Go.Proofs.Ythkddjffofehjaa
