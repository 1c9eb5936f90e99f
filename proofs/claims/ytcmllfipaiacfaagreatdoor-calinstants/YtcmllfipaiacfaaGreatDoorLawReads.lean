/-
  CalReads: the law's own walk, out of the contracts.
-/
import Derived.Test.YtcmllfipaiacfaaGreatDoorRpd0
import Derived.Test.YtcmllfipaiacfaaGreatDoorRpd2
import Derived.Test.YtcmllfipaiacfaaGreatDoorRpd4
import Derived.Stop.LaidErr
namespace Go.Proofs.YtcmllfipaiacfaaGreatDoor
open Go.RowKit
set_option maxRecDepth 100000

theorem shA_is (t : ByteArray) (k : Nat) : ∃ y m d e p, shA t k = rT y m d e p := by
  unfold shA
  split
  · exact rdV_is _ _ _ _ _
  · exact rdV_is _ _ _ _ _
  · exact ryV_is _ _ _
  · exact ryV_is _ _ _
  · exact rwV_is _ _ _ _ _
  · exact rwV_is _ _ _ _ _

/-- both sides answer the same -/
theorem reads_both (t : ByteArray) : ∃ y m d e p : Int, (∀ w, HasAh w → Calls Tryz.prog 13 #[.string t] w fun x w' => x = .returned (rT y m d e p) ∧ Below w.heap.size w w') ∧
    (∀ w, Calls Tryz.prog 24 #[.string t] w fun x w' => x = .returned (rT y m d e p) ∧ Below w.heap.size w w') := by
  by_cases hs : 64 < t.size
  · exact ⟨_, _, _, _, _, fun w _ => parse_long t hs w, fun w => refParse_long t hs w⟩
  · rcases ds_cases t.data.toList with ⟨p, hp⟩ | ⟨k, hk, hf, hm⟩
    · exact ⟨_, _, _, _, _, fun w _ => parse_none t (by omega) p hp w, fun w => refParse_none t (by omega) p hp w⟩
    · obtain ⟨y, m, d, e, p, hv⟩ := shA_is t k
      refine ⟨y, m, d, e, p, ?_, ?_⟩
      · intro w hA
        rw [← hv]
        match k, hk, hf, hm with
        | 0, _, hf, hm => exact parse_0 t hm hf w hA
        | 1, _, hf, hm => exact parse_1 t hm hf w hA
        | 2, _, hf, hm => exact parse_2 t hm hf w hA
        | 3, _, hf, hm => exact parse_3 t hm hf w hA
        | 4, _, hf, hm => exact parse_4 t hm hf w hA
        | 5, _, hf, hm => exact parse_5 t hm hf w hA
      · intro w
        rw [← hv]
        match k, hk, hf, hm with
        | 0, _, hf, hm => exact refParse_0 t hm hf w
        | 1, _, hf, hm => exact refParse_1 t hm hf w
        | 2, _, hf, hm => exact refParse_2 t hm hf w
        | 3, _, hf, hm => exact refParse_3 t hm hf w
        | 4, _, hf, hm => exact refParse_4 t hm hf w
        | 5, _, hf, hm => exact refParse_5 t hm hf w

end Go.Proofs.YtcmllfipaiacfaaGreatDoor
