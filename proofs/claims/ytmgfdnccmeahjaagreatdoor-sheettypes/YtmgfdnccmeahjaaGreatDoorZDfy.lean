/-
  Dfy: Sheets: said, of the error of a fault.
-/
import Derived.Test.YtmgfdnccmeahjaaGreatDoorZTc5
import Derived.Test.YtmgfdnccmeahjaaGreatDoorZWy4
namespace Go.Proofs.YtmgfdnccmeahjaaGreatDoor
open Go.RowKit
set_option maxRecDepth 100000
set_option linter.unusedVariables false
set_option linter.unusedSimpArgs false

/-- said, of the error of a fault -/
theorem said_ero (A : Nat → Addr) (q : Nat × Nat × Nat × Int) (i : Nat) (w : World) (ev : Value) (h : ErO A q w ev) (hx : q.2.1 ≤ 9223372036854775807) (hy : q.2.2.1 ≤ 9223372036854775807) (n : Nat) (hn : q.2.2.2 = (n : Int) ∧ n ≤ 100 ∧ (q.1 ≠ 16 → q.1 ≠ 17 → n = 0)) (hT : ErT w) (hP : HasPw w) (hA : Sn A w) :
    Calls Tryz.prog 24 #[ev, fVw q.1 q.2.1 q.2.2.1 i n] w fun e w' => e = .returned (.bool true) ∧ Below w.heap.size w w' := by
  obtain ⟨c, x, y, m⟩ := q
  obtain ⟨f, e, rfl, hf, he⟩ := h
  simp only at hn hx hy he hf ⊢
  obtain ⟨rfl, h100, hz⟩ := hn
  rcases he with ⟨hc, rfl⟩ | ⟨hc, g, rfl, hg⟩
  · obtain rfl := hz hc.2.2.1 hc.2.2.2
    rw [fVw_zero]
    exact said_is A f c x y i w hx hy hT hP hf hA ⟨hc.1, hc.2.1⟩ hc.2.2
  · rw [erV_pos A (by omega)] at hg
    rcases hc with rfl | rfl
    · exact saidw_is16 A f g x y i n w (by omega) hx hy hT hP ⟨hf, hg⟩ hA
    · exact saidw_is17 A f g x y i n w (by omega) hx hy hT hP ⟨hf, hg⟩ hA
end Go.Proofs.YtmgfdnccmeahjaaGreatDoor
