/-
  An element that came in: two texts.
-/
import Derived.Test.YtdcodedfojjacaaDoorRows
import Derived.ProofKit
import Derived.OpenShut
import Derived.ChangeSame
import Derived.ChangeArms
namespace Go.Proofs.YtdcodedfojjacaaDoor
open Go.ChangeShapes Go.WideShapes Go.ChangeAt Go.RowKit
set_option maxRecDepth 100000

theorem el_struct : ∃ f0 f1 : Field, Tryd.prog.underlying 33 = some (.struct #[f0, f1]) ∧ (f0.type = 9 ∧ f0.offset = 0) ∧ (f1.type = 9 ∧ f1.offset = 1) :=
  ⟨_, _, Tryd.underlying33, ⟨rfl, rfl⟩, ⟨rfl, rfl⟩⟩

theorem elem_cells {H : Type} {enc : TypeId × Value → H} {W : World} {base : Nat} {sp : Nat → Bool} {held : Bool} {fuel : Nat} {cs : List Value} {x : DataW H × List MemPlace} (h : DataW.trod enc Tryd.prog W base sp held fuel 33 cs = some x) :
    ∃ a b : ByteArray, cs = [.string a, .string b] ∧ a.size ≤ maxLen ∧ b.size ≤ maxLen ∧ x = (.agg [.lit (.string a.data.toList), .lit (.string b.data.toList)], []) := by
  obtain ⟨f0, f1, hst, h0, h1⟩ := el_struct
  obtain ⟨y0, y1, n, rfl, hlen, g0, g1⟩ := trod_struct2 hst h
  have hc : Tryd.prog.cellsOf 9 = 1 := by kernel_rfl
  have hc2 : Tryd.prog.cellsOf 33 = 2 := by kernel_rfl
  rw [h0.1, h0.2, hc] at g0
  rw [h1.1, h1.2, hc] at g1
  obtain ⟨a, e0, rfl, ha⟩ := DataW.trod_string Tryd.underlying9 g0
  obtain ⟨b, e1, rfl, hb⟩ := DataW.trod_string Tryd.underlying9 g1
  rw [hc2] at hlen
  match cs, hlen with
  | [u0, u1], _ =>
    simp at e0 e1
    subst e0 e1
    exact ⟨a, b, rfl, ha, hb, rfl⟩

theorem elem_open {H : Type} {enc : TypeId × Value → H} {W : World} {base b2 : Nat} {sp : Nat → Bool} {held : Bool} {v : Value} {d : DataW H} {p : List MemPlace} (hv : Value.okWide Tryd.prog W .any base 33 v) (h : ∃ fuel, DataW.trod enc Tryd.prog W b2 sp held fuel 33 v.cells.toList = some (d, p)) :
    ∃ a b : ByteArray, v = .agg #[.string a, .string b] ∧ a.size ≤ maxLen ∧ b.size ≤ maxLen := by
  obtain ⟨cs, rfl, _⟩ := okWide_struct Tryd.underlying33 hv
  obtain ⟨fuel, hf⟩ := h
  obtain ⟨a, b, hcs, ha, hb, _⟩ := elem_cells hf
  refine ⟨a, b, ?_, ha, hb⟩
  have : cs = #[.string a, .string b] := by
    apply Array.ext'
    simpa [Value.cells] using hcs
  rw [this]
end Go.Proofs.YtdcodedfojjacaaDoor
