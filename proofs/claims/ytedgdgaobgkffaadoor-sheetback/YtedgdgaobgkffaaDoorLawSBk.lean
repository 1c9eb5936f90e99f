/-
  SheetBack: the law's own walk.
-/
import Derived.Test.YtedgdgaobgkffaaDoorSkw
import Derived.Test.YtedgdgaobgkffaaDoorSqe
namespace Go.Proofs.YtedgdgaobgkffaaDoor
open Go.RowKit
set_option maxRecDepth 100000
set_option linter.unusedVariables false
set_option linter.unusedSimpArgs false

set_option maxHeartbeats 2000000 in
theorem back_law (A : Nat → Addr) (v : Value) (R : List (List (List UInt8))) (w : World) (hE : HE A w) (hT : ErT w) (hr : Rw w v R) :
    Calls Tryd.prog 5 #[v] w fun e w' => e = .returned (.bool true) ∧ Below w.heap.size w w' := by
  have HP := hid (print_any A v R w hE hT hr)
  have HE := hid hE
  have HR := hid hr
  obtain ⟨ao, cap, rfl⟩ := hr.form
  clear hE hT hr
  have hem : ((⟨#[]⟩ : ByteArray).toList == (⟨#[]⟩ : ByteArray).toList) = true := by simp
  go_enter Tryd.func5, Tryd.ntmps5
  go_wp2_with fail
  refine Calls.mono HP.out ?_
  rintro e w1 ⟨sv, ev, rfl, hp, hb⟩
  rcases hp with ⟨_, rfl, hf⟩ | ⟨_, _, rfl, hf⟩ | ⟨hok, hlen, rfl, rfl⟩
  · rcases hf with ⟨h0, _⟩ | ⟨_, f, rfl, _⟩
    · contradiction
    · go_wp2
      go_ret
      exact ⟨rfl, hb⟩
  · rcases hf with ⟨h0, _⟩ | ⟨_, f, rfl, _⟩
    · exact absurd h0 (by decide)
    · go_wp2
      go_ret
      exact ⟨rfl, hb⟩
  · obtain ⟨r1, r2⟩ := print_read R hok hlen
    have HPa := hid (parse_any A ⟨(prt R).toArray⟩ w1 (HE.out.grown hb))
    have HB := hid hb
    have HR1 := hid (And.intro r1 r2)
    clear hok hlen hb r1 r2
    go_wp2_with fail
    refine Calls.mono HPa.out ?_
    rintro e w2 ⟨rv, ev, rfl, hp2, hb2⟩
    have HB2 := hid (HB.out.trans (hb2.mono HB.out.size))
    rcases hp2 with ⟨_, rfl, V, ht⟩ | ⟨hne, _⟩
    · rw [HR1.out.2] at ht
      have HS := hid (sameRows_is rv _ R w2 ht.rw (HR.out.below HB2.out))
      obtain ⟨ra, rc, rfl⟩ := ht.rw.form
      clear ht hb2
      go_wp2_with fail
      refine Calls.mono HS.out ?_
      rintro e w3 ⟨rfl, hb3⟩
      have HB3 := hid (HB2.out.trans (hb3.mono HB2.out.size))
      clear hb3
      go_wp2
      go_ret
      exact ⟨rfl, HB3.out⟩
    · exact absurd HR1.out.1 hne
end Go.Proofs.YtedgdgaobgkffaaDoor
