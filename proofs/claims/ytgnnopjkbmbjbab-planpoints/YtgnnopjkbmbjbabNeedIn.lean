/-
  A need that came in.
-/
import Derived.Test.YtgnnopjkbmbjbabFlIn
namespace Go.Proofs.Ytgnnopjkbmbjbab
open Go.ChangeShapes Go.WideShapes Go.ChangeAt Go.RowKit
set_option maxRecDepth 100000

theorem need_struct : ∃ f0 f1 f2 f3 : Field, Try.prog.underlying 24 = some (.struct #[f0, f1, f2, f3]) ∧ (f0.type = 22 ∧ f0.offset = 0) ∧ (f1.type = 22 ∧ f1.offset = 1) ∧ (f2.type = 22 ∧ f2.offset = 2) ∧ (f3.type = 3 ∧ f3.offset = 3) :=
  ⟨_, _, _, _, Try.underlying24, ⟨rfl, rfl⟩, ⟨rfl, rfl⟩, ⟨rfl, rfl⟩, ⟨rfl, rfl⟩⟩
theorem need_open {H : Type} {enc : TypeId × Value → H} {W : World} {base b2 : Nat} {sp : Nat → Bool} {held : Bool} {v : Value} {d : DataW H} {p : List MemPlace}
    (hv : Value.okWide Try.prog W .any base 24 v) (h : ∃ fuel, DataW.trod enc Try.prog W b2 sp held fuel 24 v.cells.toList = some (d, p)) :
    ∃ (M D Z : Nat) (L : Int), v = .agg #[.float .f64 M, .float .f64 D, .float .f64 Z, .int .i64 L] ∧ -9223372036854775808 ≤ L ∧ L ≤ 9223372036854775807 := by
  obtain ⟨f0, f1, f2, f3, hst, h0, h1, h2, h3⟩ := need_struct
  obtain ⟨cs, rfl, _⟩ := okWide_struct hst hv
  obtain ⟨fuel, hf⟩ := h
  obtain ⟨xs, n, _, _, hl, hlen, hfl⟩ := DataW.trod_struct hst hf
  have hcf : Try.prog.cellsOf 22 = 1 := by kernel_rfl
  have hc : Try.prog.cellsOf 3 = 1 := by kernel_rfl
  have hc2 : Try.prog.cellsOf 24 = 4 := by kernel_rfl
  have hcs : (Value.agg cs).cells.toList = cs.toList := by simp [Value.cells]
  rw [hcs, hc2] at hl
  rw [hcs] at hfl
  match xs, hlen with
  | [y0, y1, y2, y3], _ =>
    have g0 := hfl 0 f0 rfl
    have g1 := hfl 1 f1 rfl
    have g2 := hfl 2 f2 rfl
    have g3 := hfl 3 f3 rfl
    simp only [List.getElem?_cons_zero, List.getElem?_cons_succ] at g0 g1 g2 g3
    rw [h0.1, h0.2, hcf] at g0
    rw [h1.1, h1.2, hcf] at g1
    rw [h2.1, h2.2, hcf] at g2
    rw [h3.1, h3.2, hc] at g3
    obtain ⟨M, e0, _⟩ := trod_float Try.underlying22 g0
    obtain ⟨D, e1, _⟩ := trod_float Try.underlying22 g1
    obtain ⟨Z, e2, _⟩ := trod_float Try.underlying22 g2
    obtain ⟨L, e3, _, w3⟩ := DataW.trod_int Try.underlying3 g3
    have b3 := bounds_i64 w3
    refine ⟨M, D, Z, L, ?_, b3.1, b3.2⟩
    congr 1
    apply Array.ext'
    generalize cs.toList = l at *
    match l, hl with
    | [u0, u1, u2, u3], _ =>
      simp at e0 e1 e2 e3
      subst e0 e1 e2 e3
      rfl
end Go.Proofs.Ytgnnopjkbmbjbab
