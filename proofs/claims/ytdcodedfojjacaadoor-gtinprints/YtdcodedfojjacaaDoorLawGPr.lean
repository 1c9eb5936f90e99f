/-
  GtinPrints: the law's own walk, out of the contracts.
-/
import Derived.Test.YtdcodedfojjacaaDoorRefPs
import Derived.Test.YtdcodedfojjacaaDoorTwin
namespace Go.Proofs.YtdcodedfojjacaaDoor
open Go.RowKit
set_option maxRecDepth 100000

set_option maxHeartbeats 2000000 in
theorem gprints_any (v : Value) (L : List El) (w : World) (hkn : HasKn w) (hr : RE w v L) (hl : L.length * 32 + 64 ≤ 140737488355328) (hs : ∀ x ∈ L, x.2.size ≤ 281474976710656) :
    Calls Tryd.prog 7 #[v] w fun e w' => e = .returned (.bool true) ∧ Below w.heap.size w w' := by
  have HT := hid (twin_any v L w hr hl)
  have hl2 : L.length ≤ 9223372036854775000 := by omega
  have P1 := hid (fun v w h1 h2 => print_any v L w h1 h2 hs hl2)
  have P2 := hid (fun v w h2 => refPrint_any v L w h2 hs hl2)
  have P3 := hid (fun v w h1 h2 => printShown_any v L w h1 h2 hs hl2)
  have P4 := hid (fun v w h2 => refPrintShown_any v L w h2 hs hl2)
  have P5 := hid (fun v1 v2 w h1 h2 => kept_any v1 v2 L w h1 h2 hl2)
  have HK := hid hkn
  have HR := hid hr
  clear hkn hr hl hs hl2
  go_enter Tryd.func7, Tryd.ntmps7
  go_wp2_with fail
  refine HT.out.mono ?_
  rintro e w1 ⟨tv, rfl, htw, hb1⟩
  have T1 := hid htw
  have B1 := hid hb1
  clear htw hb1 HT
  go_wp2_with fail
  refine (P1.out _ _ (HK.out.below B1.out) T1.out.reads).mono ?_
  rintro e w2 ⟨⟨t, en, n, rfl, h1⟩, hb2⟩
  have T2 := hid (T1.out.below hb2)
  have B2 := hid (B1.out.trans (hb2.mono B1.out.size))
  have A1 := hid h1
  clear hb2 h1 T1 B1 P1
  go_wp2_with fail
  refine (P2.out _ _ (HR.out.below B2.out)).mono ?_
  rintro e w3 ⟨⟨t', en', n', rfl, h2⟩, hb3⟩
  obtain ⟨rfl, rfl, rfl⟩ := A1.out.same h2
  have T3 := hid (T2.out.below hb3)
  have B3 := hid (B2.out.trans (hb3.mono B2.out.size))
  clear hb3 h2 T2 B2 P2 A1
  go_wp2_with fail
  refine (P3.out _ _ (HK.out.below B3.out) T3.out.reads).mono ?_
  rintro e w4 ⟨⟨s, sn, m, rfl, h3⟩, hb4⟩
  have T4 := hid (T3.out.below hb4)
  have B4 := hid (B3.out.trans (hb4.mono B3.out.size))
  have A3 := hid h3
  clear hb4 h3 T3 B3 P3
  go_wp2_with fail
  refine (P4.out _ _ (HR.out.below B4.out)).mono ?_
  rintro e w5 ⟨⟨s', sn', m', rfl, h4⟩, hb5⟩
  obtain ⟨rfl, rfl, rfl⟩ := A3.out.same h4
  have T5 := hid (T4.out.below hb5)
  have B5 := hid (B4.out.trans (hb5.mono B4.out.size))
  clear hb5 h4 T4 B4 P4 A3
  go_wp2_with fail
  refine (P5.out _ _ _ T5.out (HR.out.below B5.out)).mono ?_
  rintro e w6 ⟨rfl, hb6⟩
  have B6 := hid (B5.out.trans (hb6.mono B5.out.size))
  clear hb6
  go_wp2
  go_ret
  exact ⟨rfl, B6.out⟩
end Go.Proofs.YtdcodedfojjacaaDoor
