/-
  CalPrints: the law's own walk, out of the contracts.
-/
import Derived.Test.YtjjkfhpiapnjlacDoorRprint
import Derived.Stop.LaidErr
namespace Go.Proofs.YtjjkfhpiapnjlacDoor
open Go.RowKit
set_option maxRecDepth 100000

theorem of_list {t : ByteArray} {l : List UInt8} (h : t.data.toList = l) : t = ⟨l.toArray⟩ := ba_ext (by rw [h])

/-- both sides answer the same -/
theorem prints_both (y m d f : Int) : ∃ (t : ByteArray) (n : Int), (∀ w, HasAh w → HasPw w → Calls Tryd.prog 17 #[dV y m d, .int .i64 f] w fun x w' => x = .returned (.tuple #[.string t, .int .i64 n]) ∧ Below w.heap.size w w') ∧
    (∀ w, Calls Tryd.prog 18 #[dV y m d, .int .i64 f] w fun x w' => x = .returned (.tuple #[.string t, .int .i64 n]) ∧ Below w.heap.size w w') := by
  by_cases hv : VD y m d
  · by_cases hf : f < 0 ∨ 5 < f
    · exact ⟨_, _, fun w hA hT => printDate_arg y m d f hv hf w hA hT, fun w => refPrintDate_arg y m d f hv hf w⟩
    · have key : ∀ (P : World → Prop) (F : Nat), (∀ w, P w → Calls Tryd.prog F #[dV y m d, .int .i64 f] w fun e w' => (∃ t : ByteArray, e = .returned (.tuple #[.string t, .int .i64 0]) ∧ t.data.toList = pdL f y m d) ∧ Below w.heap.size w w') →
          ∀ w, P w → Calls Tryd.prog F #[dV y m d, .int .i64 f] w fun x w' => x = .returned (.tuple #[.string ⟨(pdL f y m d).toArray⟩, .int .i64 0]) ∧ Below w.heap.size w w' := by
        intro P F h w hw
        refine (h w hw).mono ?_
        rintro e w' ⟨⟨t, rfl, ht⟩, hb⟩
        exact ⟨by rw [of_list ht], hb⟩
      have hc : f = 0 ∨ f = 1 ∨ f = 2 ∨ f = 3 ∨ f = 4 ∨ f = 5 := by omega
      by_cases hneg : wkY y (nb y m d) < 0
      · rcases hc with rfl | rfl | rfl | rfl | rfl | rfl
        · exact ⟨_, _, fun w hA hT => key (fun w => HasAh w ∧ HasPw w) _ (fun w h => printDate_0 y m d hv w h.1 h.2) w ⟨hA, hT⟩, fun w => key (fun _ => True) _ (fun w _ => refPrintDate_0 y m d hv w) w trivial⟩
        · exact ⟨_, _, fun w hA hT => key (fun w => HasAh w ∧ HasPw w) _ (fun w h => printDate_1 y m d hv w h.1 h.2) w ⟨hA, hT⟩, fun w => key (fun _ => True) _ (fun w _ => refPrintDate_1 y m d hv w) w trivial⟩
        · exact ⟨_, _, fun w hA hT => key (fun w => HasAh w ∧ HasPw w) _ (fun w h => printDate_2 y m d hv w h.1 h.2) w ⟨hA, hT⟩, fun w => key (fun _ => True) _ (fun w _ => refPrintDate_2 y m d hv w) w trivial⟩
        · exact ⟨_, _, fun w hA hT => key (fun w => HasAh w ∧ HasPw w) _ (fun w h => printDate_3 y m d hv w h.1 h.2) w ⟨hA, hT⟩, fun w => key (fun _ => True) _ (fun w _ => refPrintDate_3 y m d hv w) w trivial⟩
        · exact ⟨_, _, fun w hA hT => printDate_4n y m d hv hneg w hA hT, fun w => refPrintDate_4n y m d hv hneg w⟩
        · exact ⟨_, _, fun w hA hT => printDate_5n y m d hv hneg w hA hT, fun w => refPrintDate_5n y m d hv hneg w⟩
      · rcases hc with rfl | rfl | rfl | rfl | rfl | rfl
        · exact ⟨_, _, fun w hA hT => key (fun w => HasAh w ∧ HasPw w) _ (fun w h => printDate_0 y m d hv w h.1 h.2) w ⟨hA, hT⟩, fun w => key (fun _ => True) _ (fun w _ => refPrintDate_0 y m d hv w) w trivial⟩
        · exact ⟨_, _, fun w hA hT => key (fun w => HasAh w ∧ HasPw w) _ (fun w h => printDate_1 y m d hv w h.1 h.2) w ⟨hA, hT⟩, fun w => key (fun _ => True) _ (fun w _ => refPrintDate_1 y m d hv w) w trivial⟩
        · exact ⟨_, _, fun w hA hT => key (fun w => HasAh w ∧ HasPw w) _ (fun w h => printDate_2 y m d hv w h.1 h.2) w ⟨hA, hT⟩, fun w => key (fun _ => True) _ (fun w _ => refPrintDate_2 y m d hv w) w trivial⟩
        · exact ⟨_, _, fun w hA hT => key (fun w => HasAh w ∧ HasPw w) _ (fun w h => printDate_3 y m d hv w h.1 h.2) w ⟨hA, hT⟩, fun w => key (fun _ => True) _ (fun w _ => refPrintDate_3 y m d hv w) w trivial⟩
        · exact ⟨_, _, fun w hA hT => key (fun w => HasAh w ∧ HasPw w) _ (fun w h => printDate_4 y m d hv hneg w h.1 h.2) w ⟨hA, hT⟩, fun w => key (fun _ => True) _ (fun w _ => refPrintDate_4 y m d hv hneg w) w trivial⟩
        · exact ⟨_, _, fun w hA hT => key (fun w => HasAh w ∧ HasPw w) _ (fun w h => printDate_5 y m d hv hneg w h.1 h.2) w ⟨hA, hT⟩, fun w => key (fun _ => True) _ (fun w _ => refPrintDate_5 y m d hv hneg w) w trivial⟩
  · exact ⟨_, _, fun w hA _ => printDate_bad y m d f hv w hA, fun w => refPrintDate_bad y m d f hv w⟩

theorem prints_any (y m d f : Int) (w : World) (hA : HasAh w) (hT : HasPw w) :
    Calls Tryd.prog 5 #[dV y m d, .int .i64 f] w fun e w' => e = .returned (.bool true) ∧ Below w.heap.size w w' := by
  obtain ⟨t, n, p, q⟩ := prints_both y m d f
  have P := hid p
  have Q := hid q
  have S0 := hid (show Su w w from ⟨hA, hT, Below.refl _ _⟩)
  have heq : (t.toList == t.toList) = true := by simp
  clear p q hA hT
  unfold dV at *
  go_enter Tryd.func5, Tryd.ntmps5
  go_wp2_with fail
  refine (P.out _ (S0.out.alloc _).1 (S0.out.alloc _).2.1).mono ?_
  rintro e w1 ⟨rfl, hb1⟩
  have X1 := hid ((Box.new w y m d).later hb1)
  have S1 := hid ((S0.out.alloc _).call hb1)
  clear hb1 P S0
  obtain ⟨k0, k1, k2, _⟩ := X1.out.facts
  go_wp2_with fail
  refine (Q.out _).mono ?_
  rintro e w2 ⟨rfl, hb2⟩
  have S2 := hid (S1.out.call hb2)
  clear hb2
  go_wp2
  go_ret
  exact ⟨rfl, S2.out.2.2⟩
end Go.Proofs.YtjjkfhpiapnjlacDoor
