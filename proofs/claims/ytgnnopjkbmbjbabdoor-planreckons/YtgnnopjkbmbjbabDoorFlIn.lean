/-
  Four floats that came in; a float.
-/
import Derived.Test.YtgnnopjkbmbjbabDoorPq0
import Derived.WalkLawsBesides
import Derived.WalkKit
import Derived.ProofKit
import Derived.OpenShut
import Derived.SizedLaws
namespace Go.Proofs.YtgnnopjkbmbjbabDoor
open Go.ChangeShapes Go.WideShapes Go.ChangeAt Go.RowKit
set_option maxRecDepth 100000

theorem float_lt {b : Nat} (h : (Lit.float .f64 b).wf = true) : b < 18446744073709551616 := by simpa [Lit.wf] using h
theorem trod_float {H : Type} {enc : TypeId × Value → H} {P : Program} {W : World} {b2 : Nat} {sp : Nat → Bool} {held : Bool} {fuel : Nat} {t : TypeId} {cs : List Value} {x : DataW H × List MemPlace} (ht : P.underlying t = some (.float .f64)) (h : DataW.trod enc P W b2 sp held fuel t cs = some x) : ∃ b, cs = [.float .f64 b] ∧ b < 18446744073709551616 := by
  cases fuel with
  | zero => simp [DataW.trod] at h
  | succ n =>
    unfold DataW.trod at h
    rw [ht] at h
    match cs, h with
    | [.float k b], h =>
      simp only at h
      split at h
      · rename_i hk
        obtain ⟨rfl, hw⟩ := hk
        exact ⟨b, rfl, float_lt hw⟩
      · cases h
theorem okWide_arr {P : Program} {W : World} {r : Reach} {b0 : Nat} {t ti : TypeId} {n : Nat} {v : Value} (ht : P.underlying t = some (.array n ti)) (h : Value.okWide P W r b0 t v) : ∃ cs, v = .agg cs := by
  simp only [Value.okWide, ht] at h
  cases v <;> simp_all
theorem arr4_open {H : Type} {enc : TypeId × Value → H} {W : World} {b2 : Nat} {sp : Nat → Bool} {held : Bool} {t ti : TypeId} {v : Value} {d : DataW H} {p : List MemPlace}
    (ht : Tryd.prog.underlying t = some (.array 4 ti)) (hi : Tryd.prog.underlying ti = some (.float .f64)) (hci : Tryd.prog.cellsOf ti = 1) (hct : Tryd.prog.cellsOf t = 4)
    (hv : ∃ cs, v = .agg cs) (h : ∃ fuel, DataW.trod enc Tryd.prog W b2 sp held fuel t v.cells.toList = some (d, p)) :
    ∃ f : Nat → Nat, v = .agg #[.float .f64 (f 0), .float .f64 (f 1), .float .f64 (f 2), .float .f64 (f 3)] ∧ ∀ i, f i < 18446744073709551616 := by
  obtain ⟨cs, rfl⟩ := hv
  obtain ⟨fuel, hf⟩ := h
  obtain ⟨xs, m, rfl, _, hl, hlen, hel⟩ := DataW.trod_array ht hf
  rw [hct] at hl
  have hcs : (Value.agg cs).cells.toList = cs.toList := by simp [Value.cells]
  rw [hcs] at hl hel
  have key : ∀ i : Fin 4, ∃ b, cs.toList[i.1]? = some (.float .f64 b) ∧ b < 18446744073709551616 := by
    intro i
    have hq := hel i.1 i.2
    rw [hci, List.getElem?_eq_getElem (by have := i.2; omega)] at hq
    obtain ⟨b, e, hb⟩ := trod_float hi hq
    refine ⟨b, ?_, hb⟩
    have := congrArg (·[0]?) e
    simpa [List.getElem?_take, List.getElem?_drop] using this
  obtain ⟨g, hg⟩ := Classical.axiomOfChoice key
  refine ⟨fun i => if h : i < 4 then g ⟨i, h⟩ else 0, ?_, fun i => ?_⟩
  · congr 1
    apply Array.ext'
    apply List.ext_getElem?
    intro i
    by_cases hi4 : i < 4
    · have := (hg ⟨i, hi4⟩).1
      rcases (show i = 0 ∨ i = 1 ∨ i = 2 ∨ i = 3 by omega) with rfl | rfl | rfl | rfl <;> rw [this] <;> rfl
    · rw [List.getElem?_eq_none (by omega), List.getElem?_eq_none (by simp; omega)]
  · dsimp only
    split
    · exact (hg _).2
    · omega
end Go.Proofs.YtgnnopjkbmbjbabDoor
