/-
  GtinBack: the law's own walk, out of the contracts.
-/
import Derived.Test.YtjmpkogjilefnaaDoorWrk
namespace Go.Proofs.YtjmpkogjilefnaaDoor
open Go.RowKit
set_option maxRecDepth 100000

set_option maxHeartbeats 4000000 in
theorem gback_any (t : ByteArray) (w : World) (hkn : HasKn w) (hs : t.size ≤ 9223372036854775807) :
    Calls Tryd.prog 6 #[.string t] w fun e w' => e = .returned (.bool true) ∧ Below w.heap.size w w' := by
  have HK := hid hkn
  have P0 := hid (works_any w hkn)
  have P1 := hid (fun w h => parse_any t w h hs)
  have P3 := hid (fun w h => parseShown_any t w h hs)
  clear hkn hs
  go_enter Tryd.func6, Tryd.ntmps6
  go_wp2_with fail
  refine P0.out.mono ?_
  rintro e w1 ⟨rfl, hb1⟩
  have B1 := hid hb1
  clear hb1 P0
  go_wp2_with fail
  refine (P1.out _ (HK.out.below B1.out)).mono ?_
  rintro e w2 ⟨⟨v, M, en, n, rfl, hr, hA, hM⟩, hb2⟩
  have R2 := hid hr
  have A2 := hid hA
  have B2 := hid (B1.out.trans (hb2.mono B1.out.size))
  clear hr hA hb2 P1 B1
  by_cases hz : en = 0
  · subst hz
    obtain ⟨hA, hX⟩ := A2.out.back t rfl
    have A3 := hid hA
    have P2 := hid (print_any v M w2 (HK.out.below B2.out) R2.out (fun x hx => by have := hX x hx; omega) (by omega))
    clear hA hX A2
    go_wp2_with fail
    refine P2.out.mono ?_
    rintro e w3 ⟨⟨t3, en3, n3, rfl, h3⟩, hb3⟩
    obtain ⟨ht3, rfl, rfl⟩ := A3.out.same h3
    have ht4 := ht3.symm
    clear ht3
    subst ht4
    have BW := hid (B2.out.trans (hb3.mono B2.out.size))
    clear h3 hb3 A3 B2 R2 P2
    go_wp2_with fail
    refine (P3.out _ (HK.out.below BW.out)).mono ?_
    rintro e w5 ⟨⟨v5, M5, en5, n5, rfl, hr5, hA5, hM5⟩, hb5⟩
    have R5 := hid hr5
    have A5 := hid hA5
    have B5 := hid (BW.out.trans (hb5.mono BW.out.size))
    clear hr5 hA5 hb5 P3
    by_cases hz5 : en5 = 0
    · subst hz5
      obtain ⟨hA, hX⟩ := A5.out.back t rfl
      have A6 := hid hA
      have P4 := hid (printShown_any v5 M5 w5 (HK.out.below B5.out) R5.out (fun x hx => by have := hX x hx; omega) (by omega))
      clear hA hX A5
      go_wp2_with fail
      refine P4.out.mono ?_
      rintro e w6 ⟨⟨t6, en6, n6, rfl, h6⟩, hb6⟩
      obtain ⟨rfl, rfl, rfl⟩ := A6.out.same h6
      have B6 := hid (B5.out.trans (hb6.mono B5.out.size))
      clear h6 hb6 A6
      go_wp2
      go_ret
      exact ⟨rfl, B6.out⟩
    · have hz5b : (en5 == 0) = false := by simpa using hz5
      clear hz5
      go_wp2
      go_ret
      exact ⟨rfl, B5.out⟩
  · have hzb : (en == 0) = false := by simpa using hz
    have BW := B2
    clear hz B2
    go_wp2_with fail
    refine (P3.out _ (HK.out.below BW.out)).mono ?_
    rintro e w5 ⟨⟨v5, M5, en5, n5, rfl, hr5, hA5, hM5⟩, hb5⟩
    have R5 := hid hr5
    have A5 := hid hA5
    have B5 := hid (BW.out.trans (hb5.mono BW.out.size))
    clear hr5 hA5 hb5 P3
    by_cases hz5 : en5 = 0
    · subst hz5
      obtain ⟨hA, hX⟩ := A5.out.back t rfl
      have A6 := hid hA
      have P4 := hid (printShown_any v5 M5 w5 (HK.out.below B5.out) R5.out (fun x hx => by have := hX x hx; omega) (by omega))
      clear hA hX A5
      go_wp2_with fail
      refine P4.out.mono ?_
      rintro e w6 ⟨⟨t6, en6, n6, rfl, h6⟩, hb6⟩
      obtain ⟨rfl, rfl, rfl⟩ := A6.out.same h6
      have B6 := hid (B5.out.trans (hb6.mono B5.out.size))
      clear h6 hb6 A6
      go_wp2
      go_ret
      exact ⟨rfl, B6.out⟩
    · have hz5b : (en5 == 0) = false := by simpa using hz5
      clear hz5
      go_wp2
      go_ret
      exact ⟨rfl, B5.out⟩
end Go.Proofs.YtjmpkogjilefnaaDoor
