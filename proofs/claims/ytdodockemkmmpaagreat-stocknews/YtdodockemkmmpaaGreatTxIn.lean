/-
  A list of texts that came in, with its size.
-/
import Derived.Test.YtdodockemkmmpaaGreatNw1
import Derived.SizedLaws
import Derived.OpenShut
import Derived.ChangeSlices
namespace Go.Proofs.YtdodockemkmmpaaGreat
open Go.ChangeShapes Go.WideShapes Go.ChangeAt Go.RowKit
set_option maxRecDepth 100000

theorem texts_open {H : Type} {enc : TypeId × Value → H} {W : World} {b2 : Nat} {sp : Nat → Bool} {held : Bool} {v : Value} {d : DataW H} {p : List MemPlace} (hvs : ∃ a len cap, v = .slice a len cap) (h : ∃ fuel, DataW.trod enc Tryz.prog W b2 sp held fuel 22 v.cells.toList = some (d, p)) :
    ∃ K : List ByteArray, (RT W v K ∧ ∀ z ∈ K, z.size ≤ maxLen) ∧ (K = [] ∨ ∃ es spare, d = .slice es spare ∧ es.length = K.length) := by
  obtain ⟨ao, len0, cap0, rfl⟩ := hvs
  obtain ⟨fuel, hf⟩ := h
  have hce : Tryz.prog.cellsOf 9 = 1 := by kernel_rfl
  rcases DataW.trod_slice Tryz.underlying22 hf with ⟨hcs, hx⟩ | ⟨a, len, cap, elems, rest, n, _, hcs, hx, hb, hl, hm, hlen, hel, _, _⟩
  · simp [Value.cells] at hcs
    obtain ⟨rfl, rfl, rfl⟩ := hcs
    exact ⟨[], ⟨.inl ⟨rfl, none, 0, rfl, fun _ => rfl⟩, by simp⟩, .inl rfl⟩
  · simp [Value.cells] at hcs
    obtain ⟨rfl, rfl, rfl⟩ := hcs
    rw [hce] at hel
    have each : ∀ j : Fin len0, ∃ q : ByteArray, q.size ≤ maxLen ∧ W.cell? ((a.add (j.1 * 1)).add 0) = some (.string q) := by
      intro j
      have h1 := hel j.1 j.2
      rw [List.getElem?_eq_getElem (by have := j.2; omega)] at h1
      obtain ⟨cs, hc, ht⟩ := Option.bind_eq_some_iff.1 h1
      obtain ⟨z, e0, _, hw⟩ := DataW.trod_string Tryz.underlying9 ht
      have h2 := World.cells?_some hc
      subst e0
      exact ⟨z, hw, by simpa using h2.2.2 0 (by omega)⟩
    obtain ⟨fn, hfn⟩ := Classical.axiomOfChoice each
    have hpl : (List.ofFn fn).length = len0 := List.length_ofFn
    by_cases h0 : len0 = 0
    · subst h0
      exact ⟨[], ⟨.inl ⟨rfl, some a, cap0, rfl, fun e => by cases e⟩, by simp⟩, .inl rfl⟩
    refine ⟨List.ofFn fn, ⟨.inr ?_, fun z hz => ?_⟩, .inr ?_⟩
    · have c00 := (hfn ⟨0, by omega⟩).2
      obtain ⟨b, off, spot⟩ := a
      have hspot : spot = none := by simpa [Addr.add] using World.cell?_spot c00
      subst hspot
      refine ⟨b, off, cap0, by rw [hpl], ⟨by rw [hpl]; exact hl, by have : cap0 ≤ 9223372036854775807 := hm; exact this⟩, fun i hi => ?_⟩
      rw [hpl] at hi
      have k1 := (hfn ⟨i, hi⟩).2
      rw [Addr.add_lit, Addr.add_lit] at k1
      rw [List.getElem_ofFn]
      simpa using k1
    · obtain ⟨j, rfl⟩ := List.mem_ofFn.1 hz
      exact (hfn j).1
    · have hd := congrArg Prod.fst hx
      simp only at hd
      refine ⟨_, _, hd, ?_⟩
      simp [hpl, hlen]
theorem texts_sized {H : Type} {ts : List TypeId} {ds : List (DataW H)} {d : DataW H} {K : List ByteArray} (hsz : (DataW.weightsEach Tryz.prog ts ds).all (· ≤ reachBytes) = true) {j : Nat} (ht : ts[j]? = some 22) (hd : ds[j]? = some d) (h : K = [] ∨ ∃ es spare, d = .slice es spare ∧ es.length = K.length) :
    K.length * 16 ≤ reachBytes := by
  rcases h with rfl | ⟨es, spare, rfl, hl⟩
  · simp
  · have hb : Tryz.prog.bytesOf 9 = 16 := by kernel_rfl
    have := sized_slice hsz ht hd Tryz.underlying22
    rw [hb, hl] at this
    omega
end Go.Proofs.YtdodockemkmmpaaGreat
