/-
  A list of ints that came in, with its size.
-/
import Derived.Test.YtaiccmbhdgecgaaSa
import Derived.SizedLaws
namespace Go.Proofs.Ytaiccmbhdgecgaa
open Go.ChangeShapes Go.WideShapes Go.ChangeAt Go.RowKit
set_option maxRecDepth 100000

theorem ints_open {H : Type} {enc : TypeId × Value → H} {W : World} {b2 : Nat} {sp : Nat → Bool} {held : Bool} {v : Value} {d : DataW H} {p : List MemPlace} (hvs : ∃ a len cap, v = .slice a len cap) (h : ∃ fuel, DataW.trod enc Try.prog W b2 sp held fuel 22 v.cells.toList = some (d, p)) :
    ∃ K : List Int, (RI W v K ∧ ∀ z ∈ K, -9223372036854775808 ≤ z ∧ z ≤ 9223372036854775807) ∧ (K = [] ∨ ∃ es spare, d = .slice es spare ∧ es.length = K.length) := by
  obtain ⟨ao, len0, cap0, rfl⟩ := hvs
  obtain ⟨fuel, hf⟩ := h
  have hce : Try.prog.cellsOf 3 = 1 := by kernel_rfl
  rcases DataW.trod_slice Try.underlying22 hf with ⟨hcs, hx⟩ | ⟨a, len, cap, elems, rest, n, _, hcs, hx, hb, hl, hm, hlen, hel, _, _⟩
  · simp [Value.cells] at hcs
    obtain ⟨rfl, rfl, rfl⟩ := hcs
    exact ⟨[], ⟨RI.nil _, by simp⟩, .inl rfl⟩
  · simp [Value.cells] at hcs
    obtain ⟨rfl, rfl, rfl⟩ := hcs
    rw [hce] at hel
    have each : ∀ j : Fin len0, ∃ q : Int, (-9223372036854775808 ≤ q ∧ q ≤ 9223372036854775807) ∧ W.cell? ((a.add (j.1 * 1)).add 0) = some (.int .i64 q) := by
      intro j
      have h1 := hel j.1 j.2
      rw [List.getElem?_eq_getElem (by have := j.2; omega)] at h1
      obtain ⟨cs, hc, ht⟩ := Option.bind_eq_some_iff.1 h1
      obtain ⟨z, e0, _, hw⟩ := DataW.trod_int Try.underlying3 ht
      have h2 := World.cells?_some hc
      subst e0
      have hz := bounds_i64 hw
      exact ⟨z, ⟨hz.1, by omega⟩, by simpa using h2.2.2 0 (by omega)⟩
    obtain ⟨fn, hfn⟩ := Classical.axiomOfChoice each
    have hpl : (List.ofFn fn).length = len0 := List.length_ofFn
    refine ⟨List.ofFn fn, ⟨⟨some a, cap0, by rw [hpl], by rw [hpl]; exact hl, fun e => (by cases e), fun i hi => ?_⟩, fun z hz => ?_⟩, .inr ?_⟩
    · rw [hpl] at hi
      have c00 := (hfn ⟨0, by omega⟩).2
      obtain ⟨b, off, spot⟩ := a
      have hspot : spot = none := by simpa [Addr.add] using World.cell?_spot c00
      subst hspot
      have k1 := (hfn ⟨i, hi⟩).2
      rw [Addr.add_lit, Addr.add_lit] at k1
      rw [List.getElem_ofFn]
      refine ⟨b, off, rfl, ?_⟩
      simpa using k1
    · obtain ⟨j, rfl⟩ := List.mem_ofFn.1 hz
      exact (hfn j).1
    · have hd := congrArg Prod.fst hx
      simp only at hd
      refine ⟨_, _, hd, ?_⟩
      simp [hpl, hlen]
theorem ints_sized {H : Type} {ts : List TypeId} {ds : List (DataW H)} {d : DataW H} {K : List Int} (hsz : (DataW.weightsEach Try.prog ts ds).all (· ≤ reachBytes) = true) {j : Nat} (ht : ts[j]? = some 22) (hd : ds[j]? = some d) (h : K = [] ∨ ∃ es spare, d = .slice es spare ∧ es.length = K.length) :
    K.length * 8 ≤ reachBytes := by
  rcases h with rfl | ⟨es, spare, rfl, hl⟩
  · simp
  · have hb : Try.prog.bytesOf 3 = 8 := by kernel_rfl
    have := sized_slice hsz ht hd Try.underlying22
    rw [hb, hl] at this
    omega
end Go.Proofs.Ytaiccmbhdgecgaa
