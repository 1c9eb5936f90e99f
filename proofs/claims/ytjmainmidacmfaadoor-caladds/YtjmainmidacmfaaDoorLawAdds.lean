/-
  CalAdds: the law's own walk, out of the contracts.
-/
import Derived.Test.YtjmainmidacmfaaDoorRins
namespace Go.Proofs.YtjmainmidacmfaaDoor
open Go.RowKit
set_option maxRecDepth 100000

/-- both sides answer the same -/
theorem adds_both (t y m v d h i s : Int) (back : Bool) : ∃ n e : Int, (∀ w, HasAh w → Calls Tryd.prog 13 #[.int .i64 t, sV y m v d h i s, .bool back] w fun x w' => x = .returned (rV n e) ∧ Below w.heap.size w w') ∧
    (∀ w, Calls Tryd.prog 18 #[.int .i64 t, sV y m v d h i s, .bool back] w fun x w' => x = .returned (rV n e) ∧ Below w.heap.size w w') := by
  by_cases ht : Inst t
  · by_cases hf : FSx y m v d h i s
    · have key : ∀ mo se, ∃ n e, addV t mo se = rV n e := by
        intro mo se
        unfold addV
        by_cases h1 : Mon (mk (t / 86400) mo)
        · rw [if_pos h1]
          by_cases h2 : Inst (isum t mo se)
          · rw [if_pos h2]; exact ⟨_, _, rfl⟩
          · rw [if_neg h2]; exact ⟨_, _, rfl⟩
        · rw [if_neg h1]; exact ⟨_, _, rfl⟩
      obtain ⟨n, e, he⟩ := key (if back then -(12 * y + m) else 12 * y + m) (if back then -(spSe v d h i s) else spSe v d h i s)
      exact ⟨n, e, fun w hA => he ▸ addSpan_good t y m v d h i s back ht hf w hA _ _ rfl rfl, fun w => he ▸ refAddSpan_good t y m v d h i s back ht hf w _ _ rfl rfl⟩
    · exact ⟨_, _, fun w _ => addSpan_noSpan t y m v d h i s back ht hf w, fun w => refAddSpan_noSpan t y m v d h i s back ht hf w⟩
  · exact ⟨_, _, fun w _ => addSpan_noInst t y m v d h i s back ht w, fun w => refAddSpan_noInst t y m v d h i s back ht w⟩

set_option maxHeartbeats 1000000 in
theorem adds_any (t y m v d h i s : Int) (w : World) (hA : HasAh w) :
    Calls Tryd.prog 7 #[.int .i64 t, sV y m v d h i s] w fun e w' => e = .returned (.bool true) ∧ Below w.heap.size w w' := by
  obtain ⟨n1, e1, p1, q1⟩ := adds_both t y m v d h i s false
  obtain ⟨n2, e2, p2, q2⟩ := adds_both t y m v d h i s true
  have P1 := hid p1
  have P2 := hid p2
  have Q1 := hid q1
  have Q2 := hid q2
  have HA := hid hA
  clear p1 p2 q1 q2 hA
  unfold sV rV at *
  go_enter Tryd.func7, Tryd.ntmps7
  go_wp2_with fail
  refine (P1.out _ (HA.out.alloc _)).mono ?_
  rintro e w1 ⟨rfl, hb1⟩
  have HA1 := hid ((HA.out.alloc _).below hb1)
  have X1 := hid ((SBox.new w y m v d h i s).later hb1)
  have hB1 : Below w.heap.size w w1 := ((Below.refl _ _).alloc (Nat.le_refl _) _).trans (hb1.mono (by simp))
  clear hb1 P1 HA
  obtain ⟨k0, k1, k2, k3, k4, k5, k6, kz⟩ := X1.out.facts
  go_wp2_with fail
  refine (Q1.out _).mono ?_
  rintro e w2 ⟨rfl, hb2⟩
  have HA2 := hid (HA1.out.below hb2)
  have X2 := hid (X1.out.later hb2)
  have hB2 := hB1.trans (hb2.mono hB1.size)
  clear hb2 Q1 X1 HA1 hB1 k0 k1 k2 k3 k4 k5 k6 kz
  obtain ⟨k0, k1, k2, k3, k4, k5, k6, kz⟩ := X2.out.facts
  go_wp2_with fail
  refine (P2.out _ HA2.out).mono ?_
  rintro e w3 ⟨rfl, hb3⟩
  have X3 := hid (X2.out.later hb3)
  have hB3 := hB2.trans (hb3.mono hB2.size)
  clear hb3 P2 X2 HA2 hB2 k0 k1 k2 k3 k4 k5 k6 kz
  obtain ⟨k0, k1, k2, k3, k4, k5, k6, kz⟩ := X3.out.facts
  go_wp2_with fail
  refine (Q2.out _).mono ?_
  rintro e w4 ⟨rfl, hb4⟩
  have hB4 := hB3.trans (hb4.mono hB3.size)
  clear hb4
  go_wp2
  go_ret
  exact ⟨rfl, hB4⟩
end Go.Proofs.YtjmainmidacmfaaDoor
