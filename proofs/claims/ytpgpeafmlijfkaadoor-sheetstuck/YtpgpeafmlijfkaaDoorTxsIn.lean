/-
  A list of texts that came in.
-/
import Derived.Test.YtpgpeafmlijfkaaDoorScc
import Derived.OpenShut
import Derived.SizedLaws
namespace Go.Proofs.YtpgpeafmlijfkaaDoor
open Go.ChangeShapes Go.WideShapes Go.ChangeAt Go.RowKit
set_option maxRecDepth 100000

theorem txs_open {H : Type} {enc : TypeId × Value → H} {W : World} {b2 : Nat} {sp : Nat → Bool} {held : Bool} {v : Value} {d : DataW H} {p : List MemPlace} (hvs : ∃ a len cap, v = .slice a len cap) (h : ∃ fuel, DataW.trod enc Tryd.prog W b2 sp held fuel 22 v.cells.toList = some (d, p)) :
    ∃ T : List (List UInt8), Tx W v T := by
  obtain ⟨ao, len0, cap0, rfl⟩ := hvs
  obtain ⟨fuel, h⟩ := h
  have hce : Tryd.prog.cellsOf 9 = 1 := by kernel_rfl
  rcases DataW.trod_slice Tryd.underlying22 h with ⟨hcs, hx⟩ | ⟨a, len, cap, elems, rest, n, _, hcs, hx, hb, hl, hm, hlen, hel, _, _⟩
  · simp [Value.cells] at hcs
    obtain ⟨rfl, rfl, rfl⟩ := hcs
    exact ⟨[], none, 0, rfl, by simp, by omega, fun j hj => by simp at hj⟩
  · simp [Value.cells] at hcs
    obtain ⟨rfl, rfl, rfl⟩ := hcs
    rw [hce] at hel
    have each : ∀ j : Fin len0, ∃ q : ByteArray, W.cell? ((a.add (j.1 * 1)).add 0) = some (.string q) := by
      intro j
      have h1 := hel j.1 j.2
      rw [List.getElem?_eq_getElem (by have := j.2; omega)] at h1
      obtain ⟨cs', hc, ht⟩ := Option.bind_eq_some_iff.1 h1
      obtain ⟨z, e0, _, hw⟩ := DataW.trod_string Tryd.underlying9 ht
      have h2 := World.cells?_some hc
      subst e0
      exact ⟨z, by simpa using h2.2.2 0 (by omega)⟩
    obtain ⟨fn, hfn⟩ := Classical.axiomOfChoice each
    have hpl : (List.ofFn fun j => (fn j).data.toList).length = len0 := List.length_ofFn
    refine ⟨List.ofFn fun j => (fn j).data.toList, some a, cap0, by rw [hpl], by rw [hpl]; exact hl, hm, fun i hi => ?_⟩
    rw [hpl] at hi
    have c00 := hfn ⟨0, by omega⟩
    obtain ⟨b, off, spot⟩ := a
    have hspot : spot = none := by simpa [Addr.add] using World.cell?_spot c00
    subst hspot
    have k0 := hfn ⟨i, hi⟩
    rw [Addr.add_lit, Addr.add_lit] at k0
    rw [List.getElem_ofFn]
    refine ⟨b, off, rfl, ?_⟩
    have e : (⟨(fn ⟨i, hi⟩).data.toList.toArray⟩ : ByteArray) = fn ⟨i, hi⟩ := by simp
    rw [e]
    simpa using k0
end Go.Proofs.YtpgpeafmlijfkaaDoor
