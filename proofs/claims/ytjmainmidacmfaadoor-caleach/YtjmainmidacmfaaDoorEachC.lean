/-
  Each: the iterator that it hands back.
-/
import Derived.Test.YtjmainmidacmfaaDoorIBx
namespace Go.Proofs.YtjmainmidacmfaaDoor
open Go.RowKit
set_option maxRecDepth 100000

/-- the step as Each takes it -/
def clS (s : Int) : Int := min (max s (-3652425)) 3652425
/-- a step of 0, where a day is none -/
def stE (y m d y' m' d' s : Int) : Int := if VD y m d ∧ VD y' m' d' then clS s else 0
/-- a day's number, or 0 -/
def dn (y m d : Int) : Int := if VD y m d then nb y m d else 0

set_option maxHeartbeats 1000000 in
theorem each_any (y m d y' m' d' s : Int) (w : World) (hA : HasAh w) :
    Calls Tryd.prog 22 #[dV y m d, dV y' m' d', .int .i64 s] w fun e w' => (∃ g1 g2 gs, e = .returned (.func (.func 38) #[] #[.pointer (some ⟨g1, 0, none⟩), .pointer (some ⟨gs, 0, none⟩), .pointer (some ⟨g2, 0, none⟩)]) ∧
      w.heap.size ≤ g1 ∧ w.heap.size ≤ g2 ∧ w.heap.size ≤ gs ∧ IBox w' g1 (dn y m d) ∧ IBox w' g2 (dn y' m' d') ∧ IBox w' gs (stE y m d y' m' d' s)) ∧ Below w.heap.size w w' := by
  have hmf : ∀ (fn : Fn) (first cap : Array Value) (w : World), (Instr.makeFunc fn first cap).run Tryd.prog w = .ok (.func fn first cap) w := fun _ _ _ _ => rfl
  have D1 := hid (fun w hA => days_any y m d w hA)
  have D2 := hid (fun w hA => days_any y' m' d' w hA)
  have hs : stE y m d y' m' d' s = if (if VD y m d then (0 : Int) else 30) = 0 ∧ (if VD y' m' d' then (0 : Int) else 30) = 0 then clS s else 0 := by
    unfold stE
    by_cases h1 : VD y m d <;> by_cases h2 : VD y' m' d' <;> simp [h1, h2]
  have e1 : (if VD y m d then nb y m d else 0) = dn y m d := rfl
  have e2 : (if VD y' m' d' then nb y' m' d' else 0) = dn y' m' d' := rfl
  rw [e1] at D1
  rw [e2] at D2
  obtain ⟨r1, hr1, hv1⟩ : ∃ r : Int, (if VD y m d then (0 : Int) else 30) = r ∧ (r = 0 ∨ r = 30) := ⟨_, rfl, by split <;> simp⟩
  obtain ⟨r2, hr2, hv2⟩ : ∃ r : Int, (if VD y' m' d' then (0 : Int) else 30) = r ∧ (r = 0 ∨ r = 30) := ⟨_, rfl, by split <;> simp⟩
  rw [hr1] at D1 hs
  rw [hr2] at D2 hs
  generalize dn y m d = n1 at *
  generalize dn y' m' d' = n2 at *
  generalize stE y m d y' m' d' s = S at *
  have HA := hid hA
  clear hA hr1 hr2 e1 e2
  unfold dV at *
  have hc : ((r1 = 0 ∧ r2 = 0 ∧ S = -3652425 ∧ s < -3652425) ∨ (r1 = 0 ∧ r2 = 0 ∧ S = 3652425 ∧ 3652425 < s) ∨ (r1 = 0 ∧ r2 = 0 ∧ S = s ∧ -3652425 ≤ s ∧ s ≤ 3652425)) ∨ (r1 = 0 ∧ r2 = 30 ∧ S = 0) ∨ (r1 = 30 ∧ S = 0) := by
    rcases hv1 with rfl | rfl
    · rcases hv2 with rfl | rfl
      · left
        have hS : S = clS s := by rw [hs]; simp
        unfold clS at hS
        omega
      · right; left; exact ⟨rfl, rfl, by rw [hs]; simp⟩
    · right; right; exact ⟨rfl, by rw [hs]; simp⟩
  clear hv1 hv2 hs
  have s1 : (w.alloc (.cells #[.int .i64 y, .int .i64 m, .int .i64 d] 36)).heap.size = w.heap.size + 1 := by simp
  have s2 : ((w.alloc (.cells #[.int .i64 y, .int .i64 m, .int .i64 d] 36)).alloc (.cells #[.int .i64 y', .int .i64 m', .int .i64 d'] 36)).heap.size = w.heap.size + 1 + 1 := by simp
  have X0 := hid (show Box (((w.alloc (.cells #[.int .i64 y, .int .i64 m, .int .i64 d] 36)).alloc (.cells #[.int .i64 y', .int .i64 m', .int .i64 d'] 36)).alloc (.cells #[.int .i64 s] 3)) (w.heap.size + 1) y' m' d' by
    have h := (Box.new (w.alloc (.cells #[.int .i64 y, .int .i64 m, .int .i64 d] 36)) y' m' d').later (alloc_below _ (.cells #[.int .i64 s] 3))
    rw [s1] at h
    exact h)
  have I0 := hid (show IBox (((w.alloc (.cells #[.int .i64 y, .int .i64 m, .int .i64 d] 36)).alloc (.cells #[.int .i64 y', .int .i64 m', .int .i64 d'] 36)).alloc (.cells #[.int .i64 s] 3)) (w.heap.size + 1 + 1) s by
    have h : IBox _ ((w.alloc (.cells #[.int .i64 y, .int .i64 m, .int .i64 d] 36)).alloc (.cells #[.int .i64 y', .int .i64 m', .int .i64 d'] 36)).heap.size s := heap_alloc_new ((w.alloc (.cells #[.int .i64 y, .int .i64 m, .int .i64 d] 36)).alloc (.cells #[.int .i64 y', .int .i64 m', .int .i64 d'] 36)) (.cells #[.int .i64 s] 3)
    rw [s2] at h
    exact h)
  have B0 := hid (show Below w.heap.size w (((w.alloc (.cells #[.int .i64 y, .int .i64 m, .int .i64 d] 36)).alloc (.cells #[.int .i64 y', .int .i64 m', .int .i64 d'] 36)).alloc (.cells #[.int .i64 s] 3)) from (((Below.refl _ _).alloc (Nat.le_refl _) _).alloc (by omega) _).alloc (by omega) _)
  clear s1 s2
  rcases hc with (⟨rfl, rfl, rfl, hs1⟩ | ⟨rfl, rfl, rfl, hs1⟩ | ⟨rfl, rfl, rfl, hs1, hs2⟩) | ⟨rfl, rfl, rfl⟩ | ⟨rfl, rfl⟩
  all_goals
    go_enter Tryd.func22, Tryd.ntmps22
    go_wp2_with fail
    refine (D1.out _ (HA.out.below B0.out)).mono ?_
    rintro e w1 ⟨rfl, hb1⟩
    have X1 := hid ((X0.out.later hb1).later (alloc_below w1 (.cells #[.int .i64 n1] 3)))
    have I1 := hid ((I0.out.later hb1).later (alloc_below w1 (.cells #[.int .i64 n1] 3)))
    have J1 := hid (show IBox (w1.alloc (.cells #[.int .i64 n1] 3)) w1.heap.size n1 from heap_alloc_new _ _)
    have B1 := hid ((B0.out.trans (hb1.mono B0.out.size)).alloc (B0.out.trans (hb1.mono B0.out.size)).size (.cells #[.int .i64 n1] 3))
    have HG1 := hid (show w.heap.size + 1 + 1 < w1.heap.size from (I0.out.later hb1).facts.2.2)
    have hz1 : w.heap.size ≤ w1.heap.size := (B0.out.trans (hb1.mono B0.out.size)).size
    clear hb1
    obtain ⟨k0, k1, k2, _⟩ := X1.out.facts
    go_wp2_with fail
    refine (D2.out _ (HA.out.below B1.out)).mono ?_
    rintro e w2 ⟨rfl, hb2⟩
    have I2 := hid ((I1.out.later hb2).later (alloc_below w2 (.cells #[.int .i64 n2] 3)))
    have J2 := hid ((J1.out.later hb2).later (alloc_below w2 (.cells #[.int .i64 n2] 3)))
    have M2 := hid (show IBox (w2.alloc (.cells #[.int .i64 n2] 3)) w2.heap.size n2 from heap_alloc_new _ _)
    have B2 := hid ((B1.out.trans (hb2.mono B1.out.size)).alloc (B1.out.trans (hb2.mono B1.out.size)).size (.cells #[.int .i64 n2] 3))
    have hz2 : w1.heap.size < w2.heap.size := by have := hb2.size; simp at this; omega
    clear hb2 X1 I1 J1 k0 k1 k2
    obtain ⟨i0, if0, _⟩ := I2.out.facts
    have hne1 : w1.heap.size ≠ w.heap.size + 1 + 1 := by have := I2.out.facts.2.2; have := HG1.out; omega
    have hne2 : w2.heap.size ≠ w.heap.size + 1 + 1 := by have := HG1.out; omega
    have KJ := hid (show ∀ (v : World) (u : Value), IBox v w1.heap.size n1 → IBox (v.setCell ⟨w.heap.size + 1 + 1, 0, none⟩ u) w1.heap.size n1 from fun v u h => by
      unfold IBox
      rw [Below.heap_setCell _ _ _ _ (by show w1.heap.size ≠ w.heap.size + 1 + 1; exact hne1)]
      exact h)
    have KM := hid (show ∀ (v : World) (u : Value), IBox v w2.heap.size n2 → IBox (v.setCell ⟨w.heap.size + 1 + 1, 0, none⟩ u) w2.heap.size n2 from fun v u h => by
      unfold IBox
      rw [Below.heap_setCell _ _ _ _ (by show w2.heap.size ≠ w.heap.size + 1 + 1; exact hne2)]
      exact h)
    go_wp2
    go_ret
    first
      | exact ⟨⟨w1.heap.size, w2.heap.size, w.heap.size + 1 + 1, rfl, hz1, by omega, by omega, KJ.out _ _ J2.out, KM.out _ _ M2.out, I2.out.put _⟩, B2.out.setCell (by show w.heap.size ≤ w.heap.size + 1 + 1; omega) _⟩
      | exact ⟨⟨w1.heap.size, w2.heap.size, w.heap.size + 1 + 1, rfl, hz1, by omega, by omega, KJ.out _ _ (KJ.out _ _ J2.out), KM.out _ _ (KM.out _ _ M2.out), (I2.out.put _).put _⟩, (B2.out.setCell (by show w.heap.size ≤ w.heap.size + 1 + 1; omega) _).setCell (by show w.heap.size ≤ w.heap.size + 1 + 1; omega) _⟩
end Go.Proofs.YtjmainmidacmfaaDoor
