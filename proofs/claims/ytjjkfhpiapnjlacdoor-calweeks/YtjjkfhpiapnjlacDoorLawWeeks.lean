/-
  CalWeeks: the law's own walk, out of the contracts.
-/
import Derived.Test.YtjjkfhpiapnjlacDoorRfw
namespace Go.Proofs.YtjjkfhpiapnjlacDoor
open Go.RowKit
set_option maxRecDepth 100000

theorem week_both (y m d : Int) : ∃ a b c e : Int, weekV y m d = .tuple #[dV a b c, .int .i64 e] := by
  unfold weekV
  by_cases h : VD y m d
  · rw [if_pos h]; exact ⟨_, _, _, _, rfl⟩
  · rw [if_neg h]; exact ⟨_, _, _, _, rfl⟩

theorem from_both (y k d : Int) : ∃ a b c e : Int, (∀ w, HasAh w → Calls Tryd.prog 23 #[dV y k d] w fun x w' => x = .returned (.tuple #[dV a b c, .int .i64 e]) ∧ Below w.heap.size w w') ∧
    (∀ w, Calls Tryd.prog 24 #[dV y k d] w fun x w' => x = .returned (.tuple #[dV a b c, .int .i64 e]) ∧ Below w.heap.size w w') := by
  by_cases h : OkW y k d
  · obtain ⟨a, b, c, e, hof⟩ := ofV_is (wkD y k d)
    exact ⟨a, b, c, e, fun w hA => hof ▸ fromWeek_good y k d h w hA, fun w => hof ▸ refFromWeek_good y k d h w⟩
  · exact ⟨_, _, _, _, fun w _ => fromWeek_bad y k d h w, fun w => refFromWeek_bad y k d h w⟩

set_option maxHeartbeats 1000000 in
theorem weeks_any (y m d z k x : Int) (w : World) (hA : HasAh w) :
    Calls Tryd.prog 7 #[dV y m d, dV z k x] w fun e w' => e = .returned (.bool true) ∧ Below w.heap.size w w' := by
  have S0 := hid (St.refl hA)
  have H1 := hid (fun w h => cWeekOf_any y m d w h)
  have H2 := hid (fun w => refWeekOf_any y m d w)
  obtain ⟨a1, b1, c1, e1, hw⟩ := week_both y m d
  rw [hw] at H1 H2
  obtain ⟨a2, b2, c2, e2, h3, h4⟩ := from_both z k x
  have H3 := hid h3
  have H4 := hid h4
  clear hA hw h3 h4
  unfold dV at *
  go_enter Tryd.func7, Tryd.ntmps7
  go_wp2_with fail
  refine (H1.out _ ((S0.out.alloc _).alloc _).1).mono ?_
  rintro e w1 ⟨rfl, hb1⟩
  have S1 := hid (((S0.out.alloc _).alloc _).call hb1)
  have B1 := hid ((Box.new w y m d).later1 hb1)
  have V1 : Hid (WBox w1 (w.heap.size + 1) z k x) := by have h := (WBox.new (w.alloc (.cells #[.int .i64 y, .int .i64 m, .int .i64 d] 24)) z k x).later hb1; exact (by simpa using h : WBox w1 (w.heap.size + 1) z k x)
  clear hb1 H1
  obtain ⟨p0, p1, p2, _, _, _, pz⟩ := B1.out.facts
  go_wp2_with fail
  refine (H2.out _).mono ?_
  rintro e w2 ⟨rfl, hb2⟩
  have S2 := hid ((S1.out.alloc _).call hb2)
  have V2 := hid (V1.out.later1 hb2)
  have X2 := hid ((WBox.new w1 a1 b1 c1).later hb2)
  clear hb2 H2 B1 V1 p0 p1 p2 pz
  generalize w1.heap.size = q1 at *
  obtain ⟨p0, p1, p2, _, _, _, pz⟩ := V2.out.facts
  go_wp2_with fail
  refine (H3.out _ (S2.out.alloc _).1).mono ?_
  rintro e w3 ⟨rfl, hb3⟩
  have S3 := hid ((S2.out.alloc _).call hb3)
  have V3 := hid (V2.out.later1 hb3)
  have X3 := hid (X2.out.later1 hb3)
  have Y3 := hid ((WBox.new w2 a1 b1 c1).later hb3)
  clear hb3 H3 V2 X2 p0 p1 p2 pz
  generalize w2.heap.size = q2 at *
  obtain ⟨p0, p1, p2, _, _, _, pz⟩ := V3.out.facts
  go_wp2_with fail
  refine (H4.out _).mono ?_
  rintro e w4 ⟨rfl, hb4⟩
  have S4 := hid ((S3.out.alloc _).call hb4)
  have X4 := hid (X3.out.later1 hb4)
  have Y4 := hid (Y3.out.later1 hb4)
  have Z4 := hid ((Box.new w3 a2 b2 c2).later hb4)
  clear hb4 H4 V3 X3 Y3 p0 p1 p2 pz
  generalize w3.heap.size = q3 at *
  obtain ⟨x0, x1, x2, _, _, _, xz⟩ := X4.out.facts
  obtain ⟨y0, y1, y2, _, _, _, yz⟩ := Y4.out.facts
  obtain ⟨z0, z1, z2, _, _, _, zz⟩ := Z4.out.facts
  go_wp2
  go_ret
  exact ⟨rfl, (S4.out.alloc _).2⟩
end Go.Proofs.YtjjkfhpiapnjlacDoor
