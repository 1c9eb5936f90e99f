/-
  CalTells: the law's own walk, out of the contracts.
-/
import Derived.Test.YtjmainmidacmfaaDoorTellsP
import Derived.Test.YtjmainmidacmfaaDoorTellsR
import Derived.Stop.LaidErr
namespace Go.Proofs.YtjmainmidacmfaaDoor
open Go.RowKit
set_option maxRecDepth 100000

theorem printSpan_bad (y m v d h i s : Int) (hf : ¬ FSx y m v d h i s) (w : World) :
    Calls Tryd.prog 9 #[sV y m v d h i s] w fun e w' => e = .returned (.tuple #[.string ⟨#[]⟩, .int .i64 34]) ∧ Below w.heap.size w w' := by
  have HS := hid (fun w => isSpan_any y m v d h i s w)
  rw [decide_eq_false hf] at HS
  clear hf
  unfold sV at *
  go_enter Tryd.func9, Tryd.ntmps9
  go_wp2_with fail
  refine (HS.out _).mono ?_
  rintro e w1 ⟨rfl, hb1⟩
  go_wp2
  go_ret2
  exact ⟨rfl, ((Below.refl _ _).alloc (Nat.le_refl _) _).trans (hb1.mono (by simp))⟩

theorem refPrintSpan_bad (y m v d h i s : Int) (hf : ¬ FSx y m v d h i s) (w : World) :
    Calls Tryd.prog 11 #[sV y m v d h i s] w fun e w' => e = .returned (.tuple #[.string ⟨#[]⟩, .int .i64 34]) ∧ Below w.heap.size w w' := by
  have HS := hid (fun w => refFits_any y m v d h i s w)
  rw [decide_eq_false hf] at HS
  clear hf
  unfold sV at *
  go_enter Tryd.func11, Tryd.ntmps11
  go_wp2_with fail
  refine (HS.out _).mono ?_
  rintro e w1 ⟨rfl, hb1⟩
  go_wp2
  go_ret2
  exact ⟨rfl, ((Below.refl _ _).alloc (Nat.le_refl _) _).trans (hb1.mono (by simp))⟩

/-- both sides answer the same -/
theorem tells_both (y m v d h i s : Int) : ∃ (t : ByteArray) (n : Int), (∀ w, HasPw w → Calls Tryd.prog 9 #[sV y m v d h i s] w fun x w' => x = .returned (.tuple #[.string t, .int .i64 n]) ∧ Below w.heap.size w w') ∧
    (∀ w, Calls Tryd.prog 11 #[sV y m v d h i s] w fun x w' => x = .returned (.tuple #[.string t, .int .i64 n]) ∧ Below w.heap.size w w') := by
  by_cases hf : FSx y m v d h i s
  · refine ⟨⟨(psL (dayL y m v d) (clkL h i s)).toArray⟩, 0, fun w hT => ?_, fun w => ?_⟩
    · refine (printSpan_good y m v d h i s hf w hT).mono ?_
      rintro e w' ⟨⟨t, rfl, ht⟩, hb⟩
      have : t = ⟨(psL (dayL y m v d) (clkL h i s)).toArray⟩ := ba_ext (by rw [ht])
      exact ⟨by rw [this], hb⟩
    · have hv := hf.1.2.2.1.1
      by_cases h0 : v = 0
      · refine (refPrintSpan_zero y m v d h i s hf h0 w).mono ?_
        rintro e w' ⟨⟨t, rfl, ht⟩, hb⟩
        have : t = ⟨(psL (dayL y m v d) (clkL h i s)).toArray⟩ := ba_ext (by rw [ht])
        exact ⟨by rw [this], hb⟩
      · refine (refPrintSpan_weeks y m v d h i s hf (by omega) w).mono ?_
        rintro e w' ⟨⟨t, rfl, ht⟩, hb⟩
        have : t = ⟨(psL (dayL y m v d) (clkL h i s)).toArray⟩ := ba_ext (by rw [ht])
        exact ⟨by rw [this], hb⟩
  · exact ⟨_, _, fun w _ => printSpan_bad y m v d h i s hf w, fun w => refPrintSpan_bad y m v d h i s hf w⟩

theorem tells_any (y m v d h i s : Int) (w : World) (hT : HasPw w) :
    Calls Tryd.prog 4 #[sV y m v d h i s] w fun e w' => e = .returned (.bool true) ∧ Below w.heap.size w w' := by
  obtain ⟨t, n, p, q⟩ := tells_both y m v d h i s
  have P := hid p
  have Q := hid q
  have HT := hid hT
  have heq : (t.toList == t.toList) = true := by simp
  clear p q hT
  unfold sV at *
  go_enter Tryd.func4, Tryd.ntmps4
  go_wp2_with fail
  refine (P.out _ (HT.out.alloc _)).mono ?_
  rintro e w1 ⟨rfl, hb1⟩
  have X1 := hid ((SBox.new w y m v d h i s).later hb1)
  have hB1 : Below w.heap.size w w1 := ((Below.refl _ _).alloc (Nat.le_refl _) _).trans (hb1.mono (by simp))
  clear hb1 P HT
  obtain ⟨k0, k1, k2, k3, k4, k5, k6, kz⟩ := X1.out.facts
  go_wp2_with fail
  refine (Q.out _).mono ?_
  rintro e w2 ⟨rfl, hb2⟩
  have hB2 := hB1.trans (hb2.mono hB1.size)
  clear hb2
  go_wp2
  go_ret
  exact ⟨rfl, hB2⟩
end Go.Proofs.YtjmainmidacmfaaDoor
