/-
  ColsIn: Columns that came in, with their size.
-/
import Derived.Test.YtmgfdnccmeahjaaGreatDoorZN
import Derived.SizedLaws
import Derived.OpenShut
import Derived.ProofKit
import Derived.ChangeOld
namespace Go.Proofs.YtmgfdnccmeahjaaGreatDoor
open Go.ChangeShapes Go.WideShapes Go.ChangeAt Go.RowKit
set_option maxRecDepth 100000

theorem col_struct : ∃ f0 f1 f2 : Field, Tryz.prog.underlying 31 = some (.struct #[f0, f1, f2]) ∧ (f0.type = 9 ∧ f0.offset = 0) ∧ (f1.type = 3 ∧ f1.offset = 1) ∧ (f2.type = 4 ∧ f2.offset = 2) :=
  ⟨_, _, _, Tryz.underlying31, ⟨rfl, rfl⟩, ⟨rfl, rfl⟩, ⟨rfl, rfl⟩⟩
theorem col_cells {H : Type} {enc : TypeId × Value → H} {W : World} {b2 : Nat} {sp : Nat → Bool} {held : Bool} {fuel : Nat} {cs : List Value} {x : DataW H × List MemPlace} (h : DataW.trod enc Tryz.prog W b2 sp held fuel 31 cs = some x) :
    ∃ y : Col, cs = [.string y.nm, .int .i64 y.kd, .bool y.mu] := by
  obtain ⟨f0, f1, f2, hst, h0, h1, h2⟩ := col_struct
  obtain ⟨xs, n, _, rfl, hl, hlen, hf⟩ := DataW.trod_struct hst h
  have hcs : Tryz.prog.cellsOf 9 = 1 := by kernel_rfl
  have hc : Tryz.prog.cellsOf 3 = 1 := by kernel_rfl
  have hcb : Tryz.prog.cellsOf 4 = 1 := by kernel_rfl
  have hc2 : Tryz.prog.cellsOf 31 = 3 := by kernel_rfl
  match xs, hlen with
  | [y0, y1, y2], _ =>
    have g0 := hf 0 f0 rfl
    have g1 := hf 1 f1 rfl
    have g2 := hf 2 f2 rfl
    simp only [List.getElem?_cons_zero, List.getElem?_cons_succ] at g0 g1 g2
    rw [h0.1, h0.2, hcs] at g0
    rw [h1.1, h1.2, hc] at g1
    rw [h2.1, h2.2, hcb] at g2
    obtain ⟨a, e0, _, ha⟩ := DataW.trod_string Tryz.underlying9 g0
    obtain ⟨t1, e1, _, w1⟩ := DataW.trod_int Tryz.underlying3 g1
    obtain ⟨t2, e2, _⟩ := DataW.trod_bool Tryz.underlying4 g2
    rw [hc2] at hl
    match cs, hl with
    | [u0, u1, u2], _ =>
      simp at e0 e1 e2
      subst e0 e1 e2
      exact ⟨⟨a, t1, t2⟩, rfl⟩
theorem cols_open {H : Type} {enc : TypeId × Value → H} {W : World} {b2 : Nat} {sp : Nat → Bool} {held : Bool} {v : Value} {d : DataW H} {p : List MemPlace} (hvs : ∃ a len cap, v = .slice a len cap) (h : ∃ fuel, DataW.trod enc Tryz.prog W b2 sp held fuel 23 v.cells.toList = some (d, p)) :
    ∃ L : List Col, RC W v L ∧ (L = [] ∨ ∃ es spare, d = .slice es spare ∧ es.length = L.length) := by
  obtain ⟨ao, len0, cap0, rfl⟩ := hvs
  obtain ⟨fuel, hf⟩ := h
  have hce : Tryz.prog.cellsOf 31 = 3 := by kernel_rfl
  rcases DataW.trod_slice Tryz.underlying23 hf with ⟨hcs, hx⟩ | ⟨a, len, cap, elems, rest, n, _, hcs, hx, hb, hl, hm, hlen, hel, _, _⟩
  · simp [Value.cells] at hcs
    obtain ⟨rfl, rfl, rfl⟩ := hcs
    exact ⟨[], .inl ⟨rfl, none, 0, rfl, fun _ => rfl⟩, .inl rfl⟩
  · simp [Value.cells] at hcs
    obtain ⟨rfl, rfl, rfl⟩ := hcs
    rw [hce] at hel
    have each : ∀ j : Fin len0, ∃ y : Col, W.cell? ((a.add (j.1 * 3)).add 0) = some (.string y.nm) ∧ W.cell? ((a.add (j.1 * 3)).add 1) = some (.int .i64 y.kd) ∧ W.cell? ((a.add (j.1 * 3)).add 2) = some (.bool y.mu) := by
      intro j
      have h1 := hel j.1 j.2
      rw [List.getElem?_eq_getElem (by have := j.2; omega)] at h1
      obtain ⟨cs, hc, ht⟩ := Option.bind_eq_some_iff.1 h1
      obtain ⟨y, rfl⟩ := col_cells ht
      have h2 := World.cells?_some hc
      exact ⟨y, by simpa using h2.2.2 0 (by omega), by simpa using h2.2.2 1 (by omega), by simpa using h2.2.2 2 (by omega)⟩
    obtain ⟨fn, hfn⟩ := Classical.axiomOfChoice each
    have hpl : (List.ofFn fn).length = len0 := List.length_ofFn
    by_cases h0 : len0 = 0
    · subst h0
      exact ⟨[], .inl ⟨rfl, some a, cap0, rfl, fun e => by cases e⟩, .inl rfl⟩
    obtain ⟨c00, _⟩ := hfn ⟨0, by omega⟩
    obtain ⟨b, off, spot⟩ := a
    have hspot : spot = none := by simpa [Addr.add] using World.cell?_spot c00
    subst hspot
    have hd := congrArg Prod.fst hx
    simp only at hd
    refine ⟨List.ofFn fn, .inr ⟨b, off, cap0, by rw [hpl], ⟨by rw [hpl]; exact hl, hm⟩, fun j hj => ?_⟩, .inr ⟨_, _, hd, by simp [hpl, hlen]⟩⟩
    rw [hpl] at hj
    obtain ⟨k0, k1, k2⟩ := hfn ⟨j, hj⟩
    rw [Addr.add_lit, Addr.add_lit] at k0 k1 k2
    rw [List.getElem_ofFn]
    exact ⟨k0, k1, k2⟩
theorem cols_sized {H : Type} {ts : List TypeId} {ds : List (DataW H)} {d : DataW H} {L : List Col} (hsz : (DataW.weightsEach Tryz.prog ts ds).all (· ≤ reachBytes) = true) {j : Nat} (ht : ts[j]? = some 23) (hd : ds[j]? = some d)
    (h : L = [] ∨ ∃ es spare, d = .slice es spare ∧ es.length = L.length) : L.length ≤ 4398046511102 := by
  have hrb : reachBytes = 140737488351232 := by decide
  rcases h with rfl | ⟨es, spare, rfl, hl⟩
  · simp
  · have hb : Tryz.prog.bytesOf 31 = 32 := by kernel_rfl
    have h1 := sized_slice hsz ht hd Tryz.underlying23
    rw [hb, hl, hrb] at h1
    omega
end Go.Proofs.YtmgfdnccmeahjaaGreatDoor
