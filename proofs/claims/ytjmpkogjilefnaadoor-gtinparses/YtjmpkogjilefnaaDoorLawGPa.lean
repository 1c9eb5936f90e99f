/-
  GtinParses: the law's own walk, out of the contracts.
-/
import Derived.Test.YtjmpkogjilefnaaDoorRps3
import Derived.Test.YtjmpkogjilefnaaDoorPse
namespace Go.Proofs.YtjmpkogjilefnaaDoor
open Go.RowKit
set_option maxRecDepth 100000

set_option maxHeartbeats 2000000 in
theorem gparses_any (t : ByteArray) (w : World) (hkn : HasKn w) (hs : t.size ≤ 9223372036854775807) :
    Calls Tryd.prog 4 #[.string t] w fun e w' => e = .returned (.bool true) ∧ Below w.heap.size w w' := by
  have P1 := hid (parse_any t w hkn hs)
  have P2 := hid (fun w => refParse_any t w hs)
  clear hkn
  go_enter Tryd.func4, Tryd.ntmps4
  go_wp2_with fail
  refine P1.out.mono ?_
  rintro e w1 ⟨⟨v, M, en, n, rfl, hr, hA, hM⟩, hb1⟩
  have R1 := hid hr
  have A1 := hid hA
  have B1 := hid hb1
  clear hr hA hb1 P1
  go_wp2_with fail
  refine (P2.out _).mono ?_
  rintro e w2 ⟨⟨v', M', en', n', rfl, hr, hA, _⟩, hb2⟩
  obtain ⟨rfl, rfl, rfl⟩ := A1.out.same hA
  have R2 := hid (R1.out.below hb2)
  have R3 := hid hr
  have B2 := hid (B1.out.trans (hb2.mono B1.out.size))
  have HS := hid (same_true _ _ _ _ R2.out R3.out (by omega))
  clear hb2 hr hA A1 B1 R1 P2
  go_wp2_with fail
  refine HS.out.mono ?_
  rintro e w3 ⟨rfl, hb3⟩
  have B3 := hid (B2.out.trans (hb3.mono B2.out.size))
  clear hb3
  go_wp2
  go_ret
  exact ⟨rfl, B3.out⟩
end Go.Proofs.YtjmpkogjilefnaaDoor
