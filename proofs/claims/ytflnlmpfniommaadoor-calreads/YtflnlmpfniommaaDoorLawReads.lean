/-
  CalReads: the law's own walk, out of the contracts.
-/
import Derived.Test.YtflnlmpfniommaaDoorRpd0
import Derived.Test.YtflnlmpfniommaaDoorRpd2
import Derived.Test.YtflnlmpfniommaaDoorRpd4
import Derived.Stop.LaidErr
namespace Go.Proofs.YtflnlmpfniommaaDoor
open Go.RowKit
set_option maxRecDepth 100000

theorem shA_is (t : ByteArray) (k : Nat) : ∃ y m d e p, shA t k = rT y m d e p := by
  unfold shA
  split
  · exact rdV_is _ _ _ _ _
  · exact rdV_is _ _ _ _ _
  · exact ryV_is _ _ _
  · exact ryV_is _ _ _
  · exact rwV_is _ _ _ _ _
  · exact rwV_is _ _ _ _ _

/-- both sides answer the same -/
theorem reads_both (t : ByteArray) : ∃ y m d e p : Int, (∀ w, HasAh w → Calls Tryd.prog 19 #[.string t] w fun x w' => x = .returned (rT y m d e p) ∧ Below w.heap.size w w') ∧
    (∀ w, Calls Tryd.prog 20 #[.string t] w fun x w' => x = .returned (rT y m d e p) ∧ Below w.heap.size w w') := by
  by_cases hs : 64 < t.size
  · exact ⟨_, _, _, _, _, fun w _ => parse_long t hs w, fun w => refParse_long t hs w⟩
  · rcases ds_cases t.data.toList with ⟨p, hp⟩ | ⟨k, hk, hf, hm⟩
    · exact ⟨_, _, _, _, _, fun w _ => parse_none t (by omega) p hp w, fun w => refParse_none t (by omega) p hp w⟩
    · obtain ⟨y, m, d, e, p, hv⟩ := shA_is t k
      refine ⟨y, m, d, e, p, ?_, ?_⟩
      · intro w hA
        rw [← hv]
        match k, hk, hf, hm with
        | 0, _, hf, hm => exact parse_0 t hm hf w hA
        | 1, _, hf, hm => exact parse_1 t hm hf w hA
        | 2, _, hf, hm => exact parse_2 t hm hf w hA
        | 3, _, hf, hm => exact parse_3 t hm hf w hA
        | 4, _, hf, hm => exact parse_4 t hm hf w hA
        | 5, _, hf, hm => exact parse_5 t hm hf w hA
      · intro w
        rw [← hv]
        match k, hk, hf, hm with
        | 0, _, hf, hm => exact refParse_0 t hm hf w
        | 1, _, hf, hm => exact refParse_1 t hm hf w
        | 2, _, hf, hm => exact refParse_2 t hm hf w
        | 3, _, hf, hm => exact refParse_3 t hm hf w
        | 4, _, hf, hm => exact refParse_4 t hm hf w
        | 5, _, hf, hm => exact refParse_5 t hm hf w

theorem reads_any (t : ByteArray) (w : World) (hA : HasAh w) :
    Calls Tryd.prog 8 #[.string t] w fun e w' => e = .returned (.bool true) ∧ Below w.heap.size w w' := by
  obtain ⟨y, m, d, e, p, P0, Q0⟩ := reads_both t
  have P := hid (P0 w hA)
  have Q := hid Q0
  clear P0 Q0 hA
  unfold rT dV at *
  go_enter Tryd.func8, Tryd.ntmps8
  go_wp2_with fail
  refine P.out.mono ?_
  rintro e w1 ⟨rfl, hb1⟩
  have HB1 := hid hb1
  clear hb1 P
  go_wp2_with fail
  refine (Q.out _).mono ?_
  rintro e w2 ⟨rfl, hb2⟩
  have X1 := hid ((Box.new w1 y m d).later hb2)
  have HB2 := hid ((HB1.out.alloc HB1.out.size (.cells #[.int .i64 y, .int .i64 m, .int .i64 d] 35)).trans (hb2.mono (by have := HB1.out.size; simp; omega)))
  clear hb2 Q HB1
  obtain ⟨k0, k1, k2, _⟩ := (X1.out.later (alloc_below _ (.cells #[.int .i64 y, .int .i64 m, .int .i64 d] 35))).facts
  have HB3 := hid (HB2.out.alloc HB2.out.size (.cells #[.int .i64 y, .int .i64 m, .int .i64 d] 35))
  clear X1 HB2
  go_wp2
  go_ret
  exact ⟨rfl, HB3.out⟩
end Go.Proofs.YtflnlmpfniommaaDoor
