/-
  A Crash that came in.
-/
import Derived.Test.YtdgkhenejjodaaaDoorPutsIn
namespace Go.Proofs.YtdgkhenejjodaaaDoor
open Go.ChangeShapes Go.WideShapes Go.ChangeAt Go.RowKit
set_option maxRecDepth 100000

theorem ints_cells {H : Type} {enc : TypeId × Value → H} {W : World} {b2 : Nat} {sp : Nat → Bool} {held : Bool} {fuel : Nat} {u : Value} {x : DataW H × List MemPlace} (h : DataW.trod enc Tryd.prog W b2 sp held fuel 23 [u] = some x) :
    ∃ K : List Int, RI W u K ∧ K.length ≤ maxLen := by
  have hce : Tryd.prog.cellsOf 3 = 1 := by kernel_rfl
  rcases DataW.trod_slice Tryd.underlying23 h with ⟨hcs, hx⟩ | ⟨a, len, cap, elems, rest, n, _, hcs, hx, hb, hl, hm, hlen, hel, _, _⟩
  · simp at hcs
    subst hcs
    exact ⟨[], ⟨none, 0, rfl, Nat.le_refl _, fun i hi => by simp at hi⟩, by simp⟩
  · simp at hcs
    subst hcs
    rw [hce] at hel
    have each : ∀ j : Fin len, ∃ q : Int, W.cell? ((a.add (j.1 * 1)).add 0) = some (.int .i64 q) := by
      intro j
      have h1 := hel j.1 j.2
      rw [List.getElem?_eq_getElem (by have := j.2; omega)] at h1
      obtain ⟨cs, hc, ht⟩ := Option.bind_eq_some_iff.1 h1
      obtain ⟨z, e0, _, _⟩ := DataW.trod_int Tryd.underlying3 ht
      have h2 := World.cells?_some hc
      subst e0
      exact ⟨z, by simpa using h2.2.2 0 (by omega)⟩
    obtain ⟨fn, hfn⟩ := Classical.axiomOfChoice each
    have hpl : (List.ofFn fn).length = len := List.length_ofFn
    refine ⟨List.ofFn fn, ⟨some a, cap, by rw [hpl], by rw [hpl]; exact hl, fun i hi => ?_⟩, by rw [hpl]; omega⟩
    rw [hpl] at hi
    have c00 := hfn ⟨0, by omega⟩
    obtain ⟨b, off, spot⟩ := a
    have hspot : spot = none := by simpa [Addr.add] using World.cell?_spot c00
    subst hspot
    have k1 := hfn ⟨i, hi⟩
    rw [Addr.add_lit, Addr.add_lit] at k1
    rw [List.getElem_ofFn]
    refine ⟨b, off, rfl, ?_⟩
    simpa using k1
theorem crash_struct : ∃ f0 f1 f2 : Field, Tryd.prog.underlying 34 = some (.struct #[f0, f1, f2]) ∧ (f0.type = 23 ∧ f0.offset = 0) ∧ (f1.type = 3 ∧ f1.offset = 1) ∧ (f2.type = 3 ∧ f2.offset = 2) :=
  ⟨_, _, _, Tryd.underlying34, ⟨rfl, rfl⟩, ⟨rfl, rfl⟩, ⟨rfl, rfl⟩⟩
theorem crash_cells {H : Type} {enc : TypeId × Value → H} {W : World} {b2 : Nat} {sp : Nat → Bool} {held : Bool} {fuel : Nat} {cs : List Value} {x : DataW H × List MemPlace} (h : DataW.trod enc Tryd.prog W b2 sp held fuel 34 cs = some x) :
    ∃ (kv : Value) (K : List Int) (T B : Int), cs = [kv, .int .i64 T, .int .i64 B] ∧ RI W kv K ∧ K.length ≤ maxLen ∧ (Lit.int .i64 T).wf = true ∧ (Lit.int .i64 B).wf = true := by
  obtain ⟨f0, f1, f2, hst, h0, h1, h2⟩ := crash_struct
  obtain ⟨xs, n, _, rfl, hl, hlen, hf⟩ := DataW.trod_struct hst h
  have hc : Tryd.prog.cellsOf 3 = 1 := by kernel_rfl
  have hcs : Tryd.prog.cellsOf 23 = 1 := by kernel_rfl
  have hc3 : Tryd.prog.cellsOf 34 = 3 := by kernel_rfl
  match xs, hlen with
  | [y0, y1, y2], _ =>
    have g0 := hf 0 f0 rfl
    have g1 := hf 1 f1 rfl
    have g2 := hf 2 f2 rfl
    simp only [List.getElem?_cons_zero, List.getElem?_cons_succ] at g0 g1 g2
    rw [h0.1, h0.2, hcs] at g0
    rw [h1.1, h1.2, hc] at g1
    rw [h2.1, h2.2, hc] at g2
    rw [hc3] at hl
    match cs, hl with
    | [u0, u1, u2], _ =>
      simp only [List.drop_zero, List.drop_succ_cons, List.take_succ_cons, List.take_zero] at g0 g1 g2
      obtain ⟨K, hK, hKl⟩ := ints_cells g0
      obtain ⟨T, e1, _, hT⟩ := DataW.trod_int Tryd.underlying3 g1
      obtain ⟨B, e2, _, hB⟩ := DataW.trod_int Tryd.underlying3 g2
      simp at e1 e2
      subst e1 e2
      exact ⟨u0, K, T, B, rfl, hK, hKl, hT, hB⟩
theorem crash_open {H : Type} {enc : TypeId × Value → H} {W : World} {base b2 : Nat} {sp : Nat → Bool} {held : Bool} {v : Value} {d : DataW H} {p : List MemPlace} (hv : Value.okWide Tryd.prog W .any base 34 v) (h : ∃ fuel, DataW.trod enc Tryd.prog W b2 sp held fuel 34 v.cells.toList = some (d, p)) :
    ∃ (kv : Value) (K : List Int) (T B : Int), v = .agg #[kv, .int .i64 T, .int .i64 B] ∧ RI W kv K ∧ K.length ≤ maxLen ∧ (Lit.int .i64 T).wf = true ∧ (Lit.int .i64 B).wf = true := by
  obtain ⟨cs, rfl, _⟩ := okWide_struct Tryd.underlying34 hv
  obtain ⟨fuel, hf⟩ := h
  obtain ⟨kv, K, T, B, hcs, hr⟩ := crash_cells hf
  refine ⟨kv, K, T, B, ?_, hr⟩
  have : cs = #[kv, .int .i64 T, .int .i64 B] := by
    apply Array.ext'
    simpa [Value.cells] using hcs
  rw [this]
end Go.Proofs.YtdgkhenejjodaaaDoor
