/-
  WalSectors: the law's own walk, out of the contracts.
-/
import Derived.Test.YtghkfhbjfmdnmaaWl3
import Derived.Test.YtghkfhbjfmdnmaaLend
namespace Go.Proofs.Ytghkfhbjfmdnmaa
open Go.RowKit
set_option maxRecDepth 100000

set_option maxHeartbeats 2000000 in
theorem walSectors_any (life n : Int) (v : Value) (l : List UInt8) (w : World) (hr : Reads w v l) (hl : l.length + 100 ≤ 140737488355328) :
    Calls Try.prog 3 #[.int .i64 life, .int .i64 n, v] w fun e w' => e = .returned (.bool true) ∧ Below w.heap.size w w' := by
  have N1 := hidw (need_any n w)
  have N2 := hidw (rneed_any n w)
  have N3 := hidw (need_any (l.length : Int) w)
  have N4 := hidw (rneed_any (l.length : Int) w)
  have S1 := hidw (stamp_any life n w)
  have S2 := hidw (rstamp_any life n w)
  have HLe := hidw (lent_any v l w hr (by omega))
  have HR := hidw hr
  obtain ⟨ao, cap, rfl⟩ := hr.form
  clear hr
  go_enter Try.func3, Try.ntmps3
  go_wp2_with fail
  refine Calls.mono N1.out ?_
  rintro e w1 ⟨rfl, rfl⟩
  go_wp2_with fail
  refine Calls.mono N2.out ?_
  rintro e w1 ⟨rfl, rfl⟩
  go_wp2_with fail
  refine Calls.mono N3.out ?_
  rintro e w1 ⟨rfl, rfl⟩
  go_wp2_with fail
  refine Calls.mono N4.out ?_
  rintro e w1 ⟨rfl, rfl⟩
  go_wp2_with fail
  refine Calls.mono S1.out ?_
  rintro e w1 ⟨rfl, rfl⟩
  go_wp2_with fail
  refine Calls.mono S2.out ?_
  rintro e w1 ⟨rfl, rfl⟩
  clear N1 N2 N3 N4 S1 S2
  go_wp2_with fail
  refine Calls.mono HLe.out ?_
  rintro e w2 ⟨v2, rfl, hL2, hb2⟩
  have HSc := hidw (sector_any life n v2 l w2 hL2.reads)
  have HRs0 := hidw (fun wx (h : Below w1.heap.size w1 wx) => rsector_any life n _ l wx (HR.out.below h))
  have HL2 := hidw hL2
  have HB2 := hidw hb2
  clear hL2 hb2 HLe
  generalize scE life n l = er at *
  generalize scL life n l = R at *
  go_wp2_with fail
  refine Calls.mono HSc.out ?_
  rintro e w3 ⟨v3, rfl, ho3, hb3⟩
  have HB3 := hidw (HB2.out.trans (hb3.mono HB2.out.size))
  have HL3 := hidw (HL2.out.below hb3)
  have HO3 := hidw ho3
  have HRs := hidw (HRs0.out w3 HB3.out)
  clear ho3 hb3 HSc HL2 HB2 HRs0
  go_wp2_with fail
  refine Calls.mono HRs.out ?_
  rintro e w4 ⟨v4, rfl, ho4, hb4⟩
  have HB4 := hidw (HB3.out.trans (hb4.mono HB3.out.size))
  have HL4 := hidw (HL3.out.below hb4)
  have t3 := run_text (P := Try.prog) 22 9 Try.underlying22 Try.underlying5 Try.underlying9 (HO3.out.reads.below hb4)
  have t4 := run_text (P := Try.prog) 22 9 Try.underlying22 Try.underlying5 Try.underlying9 ho4.reads
  have HK := hidw (kept_any v2 _ l w4 HL4.out (HR.out.below HB4.out) (by omega))
  clear ho4 hb4 HRs HL3 HB3 HO3 HL4
  go_wp2_with fail
  refine Calls.mono HK.out ?_
  rintro e w5 ⟨rfl, rfl⟩
  go_wp2
  go_ret
  exact ⟨rfl, HB4.out⟩
end Go.Proofs.Ytghkfhbjfmdnmaa
