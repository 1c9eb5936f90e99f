/-
  A list of pairs that came in.
-/
import Derived.Test.YtaiccmbhdgecgaaSa
import Derived.SizedLaws
namespace Go.Proofs.Ytaiccmbhdgecgaa
open Go.ChangeShapes Go.WideShapes Go.ChangeAt Go.RowKit
set_option maxRecDepth 100000

/-- a pair -/
abbrev Pr := Int × Int
def PL (w : World) (v : Value) (P : List Pr) : Prop := ∃ ao c, v = .slice ao P.length c ∧ P.length ≤ c ∧ (ao = none → c = 0) ∧ ∀ i (hi : i < P.length), ((-9223372036854775808 ≤ P[i].1 ∧ P[i].1 ≤ 9223372036854775807) ∧ (-9223372036854775808 ≤ P[i].2 ∧ P[i].2 ≤ 9223372036854775807)) ∧ ∃ g off, ao = some ⟨g, off, none⟩ ∧ w.cell? ⟨g, off + i * 2, none⟩ = some (.int .i64 P[i].1) ∧ w.cell? ⟨g, off + i * 2 + 1, none⟩ = some (.int .i64 P[i].2)
theorem pl_struct : ∃ f0 f1 : Field, Try.prog.underlying 70 = some (.struct #[f0, f1]) ∧ (f0.type = 3 ∧ f0.offset = 0) ∧ (f1.type = 3 ∧ f1.offset = 1) :=
  ⟨_, _, Try.underlying70, ⟨rfl, rfl⟩, ⟨rfl, rfl⟩⟩
theorem pair_cells {H : Type} {enc : TypeId × Value → H} {W : World} {b2 : Nat} {sp : Nat → Bool} {held : Bool} {fuel : Nat} {cs : List Value} {x : DataW H × List MemPlace} (h : DataW.trod enc Try.prog W b2 sp held fuel 70 cs = some x) :
    ∃ (s t : Int), cs = [.int .i64 s, .int .i64 t] ∧ (-9223372036854775808 ≤ s ∧ s ≤ 9223372036854775807) ∧ (-9223372036854775808 ≤ t ∧ t ≤ 9223372036854775807) := by
  obtain ⟨f0, f1, hst, h0, h1⟩ := pl_struct
  obtain ⟨xs, n, _, rfl, hl, hlen, hf⟩ := DataW.trod_struct hst h
  have hc : Try.prog.cellsOf 3 = 1 := by kernel_rfl
  have hc2 : Try.prog.cellsOf 70 = 2 := by kernel_rfl
  match xs, hlen with
  | [y0, y1], _ =>
    have g0 := hf 0 f0 rfl
    have g1 := hf 1 f1 rfl
    simp only [List.getElem?_cons_zero, List.getElem?_cons_succ] at g0 g1
    rw [h0.1, h0.2, hc] at g0
    rw [h1.1, h1.2, hc] at g1
    obtain ⟨s, e0, _, hws⟩ := DataW.trod_int Try.underlying3 g0
    obtain ⟨t, e1, _, hwt⟩ := DataW.trod_int Try.underlying3 g1
    rw [hc2] at hl
    match cs, hl with
    | [u0, u1], _ =>
      simp at e0 e1
      subst e0 e1
      have hs := bounds_i64 hws
      have ht := bounds_i64 hwt
      exact ⟨s, t, rfl, ⟨hs.1, by omega⟩, ht.1, by omega⟩
theorem pairs_open {H : Type} {enc : TypeId × Value → H} {W : World} {b2 : Nat} {sp : Nat → Bool} {held : Bool} {v : Value} {d : DataW H} {p : List MemPlace} (hvs : ∃ a len cap, v = .slice a len cap) (h : ∃ fuel, DataW.trod enc Try.prog W b2 sp held fuel 38 v.cells.toList = some (d, p)) :
    ∃ P : List Pr, PL W v P ∧ (P = [] ∨ ∃ es spare, d = .slice es spare ∧ es.length = P.length) := by
  obtain ⟨ao, len0, cap0, rfl⟩ := hvs
  obtain ⟨fuel, hf⟩ := h
  have hce : Try.prog.cellsOf 70 = 2 := by kernel_rfl
  rcases DataW.trod_slice Try.underlying38 hf with ⟨hcs, hx⟩ | ⟨a, len, cap, elems, rest, n, _, hcs, hx, hb, hl, hm, hlen, hel, _, _⟩
  · simp [Value.cells] at hcs
    obtain ⟨rfl, rfl, rfl⟩ := hcs
    exact ⟨[], ⟨none, 0, rfl, Nat.le_refl _, fun _ => rfl, fun i hi => by simp at hi⟩, .inl rfl⟩
  · simp [Value.cells] at hcs
    obtain ⟨rfl, rfl, rfl⟩ := hcs
    rw [hce] at hel
    have each : ∀ j : Fin len0, ∃ q : Pr, ((-9223372036854775808 ≤ q.1 ∧ q.1 ≤ 9223372036854775807) ∧ (-9223372036854775808 ≤ q.2 ∧ q.2 ≤ 9223372036854775807)) ∧ W.cell? ((a.add (j.1 * 2)).add 0) = some (.int .i64 q.1) ∧ W.cell? ((a.add (j.1 * 2)).add 1) = some (.int .i64 q.2) := by
      intro j
      have h1 := hel j.1 j.2
      rw [List.getElem?_eq_getElem (by have := j.2; omega)] at h1
      obtain ⟨cs, hc, ht⟩ := Option.bind_eq_some_iff.1 h1
      obtain ⟨s, t, rfl, hs, ht'⟩ := pair_cells ht
      have h2 := World.cells?_some hc
      exact ⟨(s, t), ⟨hs, ht'⟩, by simpa using h2.2.2 0 (by omega), by simpa using h2.2.2 1 (by omega)⟩
    obtain ⟨fn, hfn⟩ := Classical.axiomOfChoice each
    have hpl : (List.ofFn fn).length = len0 := List.length_ofFn
    refine ⟨List.ofFn fn, ⟨some a, cap0, by rw [hpl], by rw [hpl]; exact hl, (fun h => by cases h), fun i hi => ?_⟩, .inr ?_⟩
    rotate_left
    · have hd := congrArg Prod.fst hx
      simp only at hd
      refine ⟨_, _, hd, ?_⟩
      simp [hpl, hlen]
    rw [hpl] at hi
    obtain ⟨_, c00, _⟩ := hfn ⟨0, by omega⟩
    obtain ⟨b, off, spot⟩ := a
    have hspot : spot = none := by simpa [Addr.add] using World.cell?_spot c00
    subst hspot
    obtain ⟨k0, k1, k2⟩ := hfn ⟨i, hi⟩
    rw [Addr.add_lit, Addr.add_lit] at k1 k2
    rw [List.getElem_ofFn]
    exact ⟨k0, b, off, rfl, k1, k2⟩
theorem pairs_sized {H : Type} {ts : List TypeId} {ds : List (DataW H)} {d : DataW H} {K : List Pr} (hsz : (DataW.weightsEach Try.prog ts ds).all (· ≤ reachBytes) = true) {j : Nat} (ht : ts[j]? = some 38) (hd : ds[j]? = some d) (h : K = [] ∨ ∃ es spare, d = .slice es spare ∧ es.length = K.length) :
    K.length * 16 ≤ reachBytes := by
  rcases h with rfl | ⟨es, spare, rfl, hl⟩
  · simp
  · have hb : Try.prog.bytesOf 70 = 16 := by kernel_rfl
    have := sized_slice hsz ht hd Try.underlying38
    rw [hb, hl] at this
    omega
end Go.Proofs.Ytaiccmbhdgecgaa
