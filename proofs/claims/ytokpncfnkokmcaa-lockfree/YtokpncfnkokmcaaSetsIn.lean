/-
  A list of lists of ints that came in.
-/
import Derived.Test.YtokpncfnkokmcaaSa
import Derived.Test.YtokpncfnkokmcaaSIn
namespace Go.Proofs.Ytokpncfnkokmcaa
open Go.ChangeShapes Go.WideShapes Go.ChangeAt Go.RowKit
set_option maxRecDepth 100000

def SL (w : World) (v : Value) (P : List (List Int)) : Prop := ∃ ao c, v = .slice ao P.length c ∧ P.length ≤ c ∧ (ao = none → c = 0) ∧ ∀ i (hi : i < P.length), ∃ g off u, ao = some ⟨g, off, none⟩ ∧ w.cell? ⟨g, off + i, none⟩ = some u ∧ RI w u P[i] ∧ P[i].length ≤ 9223372036854775807
theorem ints_cells {H : Type} {enc : TypeId × Value → H} {W : World} {b2 : Nat} {sp : Nat → Bool} {held : Bool} {fuel : Nat} {cs : List Value} {d : DataW H} {p : List MemPlace} (h : DataW.trod enc Try.prog W b2 sp held fuel 23 cs = some (d, p)) :
    ∃ (u : Value) (K : List Int), cs = [u] ∧ RI W u K ∧ K.length ≤ 9223372036854775807 := by
  have hsl : ∃ a len cap, cs = [.slice a len cap] ∧ len ≤ 9223372036854775807 := by
    rcases DataW.trod_slice Try.underlying23 h with ⟨hcs, _⟩ | ⟨a, len, cap, elems, rest, n, _, hcs, _, _, hl, hm, _, _, _, _⟩
    · exact ⟨_, _, _, hcs, by omega⟩
    · exact ⟨_, _, _, hcs, by unfold maxLen at hm; omega⟩
  obtain ⟨a, len, cap, rfl, hlen⟩ := hsl
  have h' : ∃ fuel, DataW.trod enc Try.prog W b2 sp held fuel 23 (Value.slice a len cap).cells.toList = some (d, p) := ⟨fuel, by simpa [Value.cells] using h⟩
  obtain ⟨K, ⟨hr, _⟩, _⟩ := ints_open ⟨a, len, cap, rfl⟩ h'
  refine ⟨_, K, rfl, hr, ?_⟩
  obtain ⟨ao, c, hv, _⟩ := hr
  injection hv with _ e _
  omega
theorem sets_open {H : Type} {enc : TypeId × Value → H} {W : World} {b2 : Nat} {sp : Nat → Bool} {held : Bool} {v : Value} {d : DataW H} {p : List MemPlace} (hvs : ∃ a len cap, v = .slice a len cap) (h : ∃ fuel, DataW.trod enc Try.prog W b2 sp held fuel 22 v.cells.toList = some (d, p)) :
    ∃ P : List (List Int), SL W v P := by
  obtain ⟨ao, len0, cap0, rfl⟩ := hvs
  obtain ⟨fuel, hf⟩ := h
  have hce : Try.prog.cellsOf 23 = 1 := by kernel_rfl
  rcases DataW.trod_slice Try.underlying22 hf with ⟨hcs, hx⟩ | ⟨a, len, cap, elems, rest, n, _, hcs, hx, hb, hl, hm, hlen, hel, _, _⟩
  · simp [Value.cells] at hcs
    obtain ⟨rfl, rfl, rfl⟩ := hcs
    exact ⟨[], ⟨none, 0, rfl, Nat.le_refl _, fun _ => rfl, fun i hi => by simp at hi⟩⟩
  · simp [Value.cells] at hcs
    obtain ⟨rfl, rfl, rfl⟩ := hcs
    rw [hce] at hel
    have each : ∀ j : Fin len0, ∃ q : Value × List Int, W.cell? ((a.add (j.1 * 1)).add 0) = some q.1 ∧ RI W q.1 q.2 ∧ q.2.length ≤ 9223372036854775807 := by
      intro j
      have h1 := hel j.1 j.2
      rw [List.getElem?_eq_getElem (by have := j.2; omega)] at h1
      obtain ⟨cs, hc, ht⟩ := Option.bind_eq_some_iff.1 h1
      obtain ⟨u, K, rfl, hr, hk⟩ := ints_cells ht
      have h2 := World.cells?_some hc
      exact ⟨(u, K), by simpa using h2.2.2 0 (by omega), hr, hk⟩
    obtain ⟨fn, hfn⟩ := Classical.axiomOfChoice each
    have hpl : (List.ofFn fun j => (fn j).2).length = len0 := List.length_ofFn
    refine ⟨List.ofFn fun j => (fn j).2, ⟨some a, cap0, by rw [hpl], by rw [hpl]; exact hl, (fun h => by cases h), fun i hi => ?_⟩⟩
    rw [hpl] at hi
    obtain ⟨c00, _⟩ := hfn ⟨0, by omega⟩
    obtain ⟨b, off, spot⟩ := a
    have hspot : spot = none := by simpa [Addr.add] using World.cell?_spot c00
    subst hspot
    obtain ⟨k0, k1, k2⟩ := hfn ⟨i, hi⟩
    rw [Addr.add_lit, Addr.add_lit] at k0
    rw [List.getElem_ofFn]
    exact ⟨b, off, (fn ⟨i, hi⟩).1, rfl, by simpa using k0, k1, k2⟩
end Go.Proofs.Ytokpncfnkokmcaa
