/-
  A list of items that came in.
-/
import Derived.Test.YtgnnopjkbmbjbaaGIn
import Derived.Test.YtgnnopjkbmbjbaaPq1
namespace Go.Proofs.Ytgnnopjkbmbjbaa
open Go.ChangeShapes Go.WideShapes Go.ChangeAt Go.RowKit
set_option maxRecDepth 100000

def ItO (x : It) : Prop := ItI x ∧ x.code.size ≤ maxLen
theorem item_struct : ∃ f0 f1 f2 f3 f4 f5 : Field, Try.prog.underlying 24 = some (.struct #[f0, f1, f2, f3, f4, f5]) ∧ (f0.type = 9 ∧ f0.offset = 0) ∧ (f1.type = 3 ∧ f1.offset = 1) ∧ (f2.type = 3 ∧ f2.offset = 2) ∧ (f3.type = 3 ∧ f3.offset = 3) ∧ (f4.type = 3 ∧ f4.offset = 4) ∧ (f5.type = 3 ∧ f5.offset = 5) :=
  ⟨_, _, _, _, _, _, Try.underlying24, ⟨rfl, rfl⟩, ⟨rfl, rfl⟩, ⟨rfl, rfl⟩, ⟨rfl, rfl⟩, ⟨rfl, rfl⟩, ⟨rfl, rfl⟩⟩
theorem item_cells {H : Type} {enc : TypeId × Value → H} {W : World} {b2 : Nat} {sp : Nat → Bool} {held : Bool} {fuel : Nat} {cs : List Value} {x : DataW H × List MemPlace} (h : DataW.trod enc Try.prog W b2 sp held fuel 24 cs = some x) :
    ∃ y : It, cs = itC y ∧ ItO y := by
  obtain ⟨f0, f1, f2, f3, f4, f5, hst, h0, h1, h2, h3, h4, h5⟩ := item_struct
  obtain ⟨xs, n, _, rfl, hl, hlen, hf⟩ := DataW.trod_struct hst h
  have hcs : Try.prog.cellsOf 9 = 1 := by kernel_rfl
  have hc : Try.prog.cellsOf 3 = 1 := by kernel_rfl
  have hc2 : Try.prog.cellsOf 24 = 6 := by kernel_rfl
  match xs, hlen with
  | [y0, y1, y2, y3, y4, y5], _ =>
    have g0 := hf 0 f0 rfl
    have g1 := hf 1 f1 rfl
    have g2 := hf 2 f2 rfl
    have g3 := hf 3 f3 rfl
    have g4 := hf 4 f4 rfl
    have g5 := hf 5 f5 rfl
    simp only [List.getElem?_cons_zero, List.getElem?_cons_succ] at g0 g1 g2 g3 g4 g5
    rw [h0.1, h0.2, hcs] at g0
    rw [h1.1, h1.2, hc] at g1
    rw [h2.1, h2.2, hc] at g2
    rw [h3.1, h3.2, hc] at g3
    rw [h4.1, h4.2, hc] at g4
    rw [h5.1, h5.2, hc] at g5
    obtain ⟨a, e0, _, ha⟩ := DataW.trod_string Try.underlying9 g0
    obtain ⟨t1, e1, _, w1⟩ := DataW.trod_int Try.underlying3 g1
    obtain ⟨t2, e2, _, w2⟩ := DataW.trod_int Try.underlying3 g2
    obtain ⟨t3, e3, _, w3⟩ := DataW.trod_int Try.underlying3 g3
    obtain ⟨t4, e4, _, w4⟩ := DataW.trod_int Try.underlying3 g4
    obtain ⟨t5, e5, _, w5⟩ := DataW.trod_int Try.underlying3 g5
    rw [hc2] at hl
    match cs, hl with
    | [u0, u1, u2, u3, u4, u5], _ =>
      simp at e0 e1 e2 e3 e4 e5
      subst e0 e1 e2 e3 e4 e5
      have b1 := bounds_i64 w1
      have b2 := bounds_i64 w2
      have b3 := bounds_i64 w3
      have b4 := bounds_i64 w4
      have b5 := bounds_i64 w5
      exact ⟨⟨a, t1, t2, t3, t4, t5⟩, rfl, ⟨b1, b2, b3, b4, b5⟩, by first | exact ha | simpa using ha⟩
end Go.Proofs.Ytgnnopjkbmbjbaa
