/-
  A script of operations that came in.
-/
import Derived.Test.YtecjpjjcahanoabSa
import Derived.SizedLaws
namespace Go.Proofs.Ytecjpjjcahanoab
open Go.ChangeShapes Go.WideShapes Go.ChangeAt Go.RowKit
set_option maxRecDepth 100000

/-- an operation: its kind, handler, thing -/
abbrev Opr := Int × Int × Int
def OL (w : World) (v : Value) (P : List Opr) : Prop := ∃ ao c, v = .slice ao P.length c ∧ P.length ≤ c ∧ (ao = none → c = 0) ∧ ∀ i (hi : i < P.length), ((-9223372036854775808 ≤ P[i].2.1 ∧ P[i].2.1 ≤ 9223372036854775807) ∧ (-9223372036854775808 ≤ P[i].2.2 ∧ P[i].2.2 ≤ 9223372036854775807)) ∧ ∃ g off, ao = some ⟨g, off, none⟩ ∧ w.cell? ⟨g, off + i * 3, none⟩ = some (.int .i64 P[i].1) ∧ w.cell? ⟨g, off + i * 3 + 1, none⟩ = some (.int .i64 P[i].2.1) ∧ w.cell? ⟨g, off + i * 3 + 2, none⟩ = some (.int .i64 P[i].2.2)
theorem ol_struct : ∃ f0 f1 f2 : Field, Try.prog.underlying 48 = some (.struct #[f0, f1, f2]) ∧ (f0.type = 3 ∧ f0.offset = 0) ∧ (f1.type = 3 ∧ f1.offset = 1) ∧ (f2.type = 3 ∧ f2.offset = 2) :=
  ⟨_, _, _, Try.underlying48, ⟨rfl, rfl⟩, ⟨rfl, rfl⟩, ⟨rfl, rfl⟩⟩
theorem opr_cells {H : Type} {enc : TypeId × Value → H} {W : World} {b2 : Nat} {sp : Nat → Bool} {held : Bool} {fuel : Nat} {cs : List Value} {x : DataW H × List MemPlace} (h : DataW.trod enc Try.prog W b2 sp held fuel 48 cs = some x) :
    ∃ (z s t : Int), cs = [.int .i64 z, .int .i64 s, .int .i64 t] ∧ (-9223372036854775808 ≤ s ∧ s ≤ 9223372036854775807) ∧ (-9223372036854775808 ≤ t ∧ t ≤ 9223372036854775807) := by
  obtain ⟨f0, f1, f2, hst, h0, h1, h2⟩ := ol_struct
  obtain ⟨xs, n, _, rfl, hl, hlen, hf⟩ := DataW.trod_struct hst h
  have hc : Try.prog.cellsOf 3 = 1 := by kernel_rfl
  have hc3 : Try.prog.cellsOf 48 = 3 := by kernel_rfl
  match xs, hlen with
  | [y0, y1, y2], _ =>
    have g0 := hf 0 f0 rfl
    have g1 := hf 1 f1 rfl
    have g2 := hf 2 f2 rfl
    simp only [List.getElem?_cons_zero, List.getElem?_cons_succ] at g0 g1 g2
    rw [h0.1, h0.2, hc] at g0
    rw [h1.1, h1.2, hc] at g1
    rw [h2.1, h2.2, hc] at g2
    obtain ⟨z, e0, _, _⟩ := DataW.trod_int Try.underlying3 g0
    obtain ⟨s, e1, _, hws⟩ := DataW.trod_int Try.underlying3 g1
    obtain ⟨t, e2, _, hwt⟩ := DataW.trod_int Try.underlying3 g2
    rw [hc3] at hl
    match cs, hl with
    | [u0, u1, u2], _ =>
      simp at e0 e1 e2
      subst e0 e1 e2
      have hs := bounds_i64 hws
      have ht := bounds_i64 hwt
      exact ⟨z, s, t, rfl, ⟨hs.1, by omega⟩, ht.1, by omega⟩
theorem ops_open {H : Type} {enc : TypeId × Value → H} {W : World} {b2 : Nat} {sp : Nat → Bool} {held : Bool} {v : Value} {d : DataW H} {p : List MemPlace} (hvs : ∃ a len cap, v = .slice a len cap) (h : ∃ fuel, DataW.trod enc Try.prog W b2 sp held fuel 42 v.cells.toList = some (d, p)) :
    ∃ P : List Opr, OL W v P ∧ (P = [] ∨ ∃ es spare, d = .slice es spare ∧ es.length = P.length) := by
  obtain ⟨ao, len0, cap0, rfl⟩ := hvs
  obtain ⟨fuel, hf⟩ := h
  have hce : Try.prog.cellsOf 48 = 3 := by kernel_rfl
  rcases DataW.trod_slice Try.underlying42 hf with ⟨hcs, hx⟩ | ⟨a, len, cap, elems, rest, n, _, hcs, hx, hb, hl, hm, hlen, hel, _, _⟩
  · simp [Value.cells] at hcs
    obtain ⟨rfl, rfl, rfl⟩ := hcs
    exact ⟨[], ⟨none, 0, rfl, Nat.le_refl _, fun _ => rfl, fun i hi => by simp at hi⟩, .inl rfl⟩
  · simp [Value.cells] at hcs
    obtain ⟨rfl, rfl, rfl⟩ := hcs
    rw [hce] at hel
    have each : ∀ j : Fin len0, ∃ q : Opr, ((-9223372036854775808 ≤ q.2.1 ∧ q.2.1 ≤ 9223372036854775807) ∧ (-9223372036854775808 ≤ q.2.2 ∧ q.2.2 ≤ 9223372036854775807)) ∧ W.cell? ((a.add (j.1 * 3)).add 0) = some (.int .i64 q.1) ∧ W.cell? ((a.add (j.1 * 3)).add 1) = some (.int .i64 q.2.1) ∧ W.cell? ((a.add (j.1 * 3)).add 2) = some (.int .i64 q.2.2) := by
      intro j
      have h1 := hel j.1 j.2
      rw [List.getElem?_eq_getElem (by have := j.2; omega)] at h1
      obtain ⟨cs, hc, ht⟩ := Option.bind_eq_some_iff.1 h1
      obtain ⟨z, s, t, rfl, hs, ht'⟩ := opr_cells ht
      have h2 := World.cells?_some hc
      exact ⟨(z, s, t), ⟨hs, ht'⟩, by simpa using h2.2.2 0 (by omega), by simpa using h2.2.2 1 (by omega), by simpa using h2.2.2 2 (by omega)⟩
    obtain ⟨fn, hfn⟩ := Classical.axiomOfChoice each
    have hpl : (List.ofFn fn).length = len0 := List.length_ofFn
    refine ⟨List.ofFn fn, ⟨some a, cap0, by rw [hpl], by rw [hpl]; exact hl, (fun h => by cases h), fun i hi => ?_⟩, .inr ?_⟩
    rotate_left
    · have hd := congrArg Prod.fst hx
      simp only at hd
      refine ⟨_, _, hd, ?_⟩
      simp [hpl, hlen]
    rw [hpl] at hi
    obtain ⟨_, c00, _⟩ := hfn ⟨0, by omega⟩
    obtain ⟨b, off, spot⟩ := a
    have hspot : spot = none := by simpa [Addr.add] using World.cell?_spot c00
    subst hspot
    obtain ⟨k0, k1, k2, k3⟩ := hfn ⟨i, hi⟩
    rw [Addr.add_lit, Addr.add_lit] at k1 k2 k3
    rw [List.getElem_ofFn]
    exact ⟨k0, b, off, rfl, k1, k2, k3⟩
theorem ops_sized {H : Type} {ts : List TypeId} {ds : List (DataW H)} {d : DataW H} {K : List Opr} (hsz : (DataW.weightsEach Try.prog ts ds).all (· ≤ reachBytes) = true) {j : Nat} (ht : ts[j]? = some 42) (hd : ds[j]? = some d) (h : K = [] ∨ ∃ es spare, d = .slice es spare ∧ es.length = K.length) :
    K.length * 24 ≤ reachBytes := by
  rcases h with rfl | ⟨es, spare, rfl, hl⟩
  · simp
  · have hb : Try.prog.bytesOf 48 = 24 := by kernel_rfl
    have := sized_slice hsz ht hd Try.underlying42
    rw [hb, hl] at this
    omega
end Go.Proofs.Ytecjpjjcahanoab
