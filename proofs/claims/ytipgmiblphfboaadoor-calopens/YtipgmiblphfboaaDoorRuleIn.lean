/-
  A rule that came in, with the sizes of its lists.
-/
import Derived.Test.YtipgmiblphfboaaDoorSh7
import Derived.Test.YtipgmiblphfboaaDoorFlat
import Derived.SizedLaws
namespace Go.Proofs.YtipgmiblphfboaaDoor
open Go.ChangeShapes Go.WideShapes Go.ChangeAt Go.RowKit
set_option maxRecDepth 100000

theorem days_in {H : Type} {enc : TypeId × Value → H} {W : World} {b2 : Nat} {sp : Nat → Bool} {held : Bool} {fuel : Nat} {cs : List Value} {d : DataW H} {p : List MemPlace} (hf : DataW.trod enc Tryd.prog W b2 sp held fuel 24 cs = some (d, p)) :
    ∃ (L : List (Int × Int × Int)) (v : Value), cs = [v] ∧ RL eD 3 W v L ∧ (L = [] ∨ ∃ es sp, d = .slice es sp ∧ es.length = L.length) := by
  have hce : Tryd.prog.cellsOf 33 = 3 := by kernel_rfl
  rcases DataW.trod_slice Tryd.underlying24 hf with ⟨hcs, hx⟩ | ⟨a, len0, cap0, elems, rest, n, _, hcs, hx, hb, hl, hm, hlen, hel, _, _⟩
  · subst hcs
    exact ⟨[], _, rfl, RL.nil _, .inl rfl⟩
  · rw [hce] at hel
    have each : ∀ j : Fin len0, ∃ q : Int × Int × Int, W.cell? ((a.add (j.1 * 3)).add 0) = some (.int .i64 q.1) ∧ W.cell? ((a.add (j.1 * 3)).add 1) = some (.int .i64 q.2.1) ∧ W.cell? ((a.add (j.1 * 3)).add 2) = some (.int .i64 q.2.2) := by
      intro j
      have h1 := hel j.1 j.2
      rw [List.getElem?_eq_getElem (by have := j.2; omega)] at h1
      obtain ⟨cs, hc, ht⟩ := Option.bind_eq_some_iff.1 h1
      obtain ⟨zs, hzl, rfl, _⟩ := flat_cells Tryd.underlying33 Tryd.underlying3 (by kernel_rfl) (by kernel_rfl) (by kernel_rfl) ht
      obtain ⟨y, m, q, rfl⟩ := flat3 hzl
      have h2 := World.cells?_some hc
      exact ⟨(y, m, q), by simpa using h2.2.2 0 (by omega), by simpa using h2.2.2 1 (by omega), by simpa using h2.2.2 2 (by omega)⟩
    obtain ⟨fn, hfn⟩ := Classical.axiomOfChoice each
    have hpl : (List.ofFn fn).length = len0 := List.length_ofFn
    refine ⟨List.ofFn fn, _, hcs, ⟨some a, cap0, by rw [hpl], by rw [hpl]; exact hl, fun e => (by cases e), fun i hi => ?_⟩, .inr ⟨_, _, congrArg Prod.fst hx, by simp [hpl, hlen]⟩⟩
    rw [hpl] at hi
    have c00 := (hfn ⟨0, by omega⟩).1
    obtain ⟨b, off, spot⟩ := a
    have hspot : spot = none := by simpa [Addr.add] using World.cell?_spot c00
    subst hspot
    obtain ⟨k0, k1, k2⟩ := hfn ⟨i, hi⟩
    rw [Addr.add_lit, Addr.add_lit] at k0 k1 k2
    rw [List.getElem_ofFn]
    refine ⟨b, off, rfl, fun j u hj => ?_⟩
    match j, hj with
    | 0, hj =>
      simp only [eD, List.getElem?_cons_zero, Option.some.injEq] at hj
      subst hj
      exact k0
    | 1, hj =>
      simp only [eD, List.getElem?_cons_zero, List.getElem?_cons_succ, Option.some.injEq] at hj
      subst hj
      exact k1
    | 2, hj =>
      simp only [eD, List.getElem?_cons_zero, List.getElem?_cons_succ, Option.some.injEq] at hj
      subst hj
      exact k2
    | j + 3, hj => simp [eD] at hj
theorem rule_open {H : Type} {enc : TypeId × Value → H} {W : World} {base b2 : Nat} {sp : Nat → Bool} {held : Bool} {v : Value} {d : DataW H} {p : List MemPlace} (hv : Value.okWide Tryd.prog W .any base 26 v) (h : ∃ fuel, DataW.trod enc Tryd.prog W b2 sp held fuel 26 v.cells.toList = some (d, p)) :
    ∃ (wk : Nat → Bool) (v1 v2 : Value) (D E : List (Int × Int × Int)), v = rlV wk v1 v2 ∧ RL eD 3 W v1 D ∧ RL eD 3 W v2 E ∧ ((∀ n ∈ d.weights Tryd.prog 26, n ≤ reachBytes) → D.length * 24 ≤ reachBytes ∧ E.length * 24 ≤ reachBytes) := by
  obtain ⟨cs, rfl, hsz⟩ := okWide_struct Tryd.underlying26 hv
  obtain ⟨fuel, hf⟩ := h
  obtain ⟨f0, f1, f2, hst, h0, h1, h2⟩ : ∃ f0 f1 f2 : Field, Tryd.prog.underlying 26 = some (.struct #[f0, f1, f2]) ∧ (f0.type = 23 ∧ f0.offset = 0) ∧ (f1.type = 24 ∧ f1.offset = 7) ∧ (f2.type = 24 ∧ f2.offset = 8) := ⟨_, _, _, Tryd.underlying26, ⟨rfl, rfl⟩, ⟨rfl, rfl⟩, ⟨rfl, rfl⟩⟩
  obtain ⟨xs, n, _, hx, hl, hlen, hfl⟩ := DataW.trod_struct hst hf
  have hca : Tryd.prog.cellsOf 23 = 7 := by kernel_rfl
  have hcb : Tryd.prog.cellsOf 4 = 1 := by kernel_rfl
  have hcl : Tryd.prog.cellsOf 24 = 1 := by kernel_rfl
  have hc9 : Tryd.prog.cellsOf 26 = 9 := by kernel_rfl
  have ecs : (Value.agg cs).cells.toList = cs.toList := by simp [Value.cells]
  rw [ecs] at hl hfl
  rw [hc9] at hl
  match xs, hlen with
  | [y0, y1, y2], _ =>
    have g0 := hfl 0 f0 rfl
    have g1 := hfl 1 f1 rfl
    have g2 := hfl 2 f2 rfl
    simp only [List.getElem?_cons_zero, List.getElem?_cons_succ] at g0 g1 g2
    rw [h0.1, h0.2, hca] at g0
    rw [h1.1, h1.2, hcl] at g1
    rw [h2.1, h2.2, hcl] at g2
    obtain ⟨z1, q1⟩ := y1
    obtain ⟨z2, q2⟩ := y2
    obtain ⟨D, u1, e1, hD, hDz⟩ := days_in g1
    obtain ⟨E, u2, e2, hE, hEz⟩ := days_in g2
    obtain ⟨bs, k, _, _, hbl, hbn, hbf⟩ := DataW.trod_array Tryd.underlying23 g0
    rw [hcb] at hbf
    have key : ∀ i, i < 7 → ∃ b, ((List.take 7 (List.drop 0 cs.toList)).drop (i * 1)).take 1 = [.bool b] := by
      intro i hi
      have := hbf i hi
      rw [List.getElem?_eq_getElem (by omega)] at this
      obtain ⟨b, hb, _⟩ := DataW.trod_bool Tryd.underlying4 this
      exact ⟨b, hb⟩
    obtain ⟨cl⟩ := cs
    match cl, hl with
    | [c0, c1, c2, c3, c4, c5, c6, c7, c8], _ =>
      obtain ⟨b0, r0⟩ := key 0 (by omega)
      obtain ⟨b1, r1⟩ := key 1 (by omega)
      obtain ⟨b2, r2⟩ := key 2 (by omega)
      obtain ⟨b3, r3⟩ := key 3 (by omega)
      obtain ⟨b4, r4⟩ := key 4 (by omega)
      obtain ⟨b5, r5⟩ := key 5 (by omega)
      obtain ⟨b6, r6⟩ := key 6 (by omega)
      simp at r0 r1 r2 r3 r4 r5 r6 e1 e2
      subst r0 r1 r2 r3 r4 r5 r6 e1 e2
      refine ⟨fun i => match i with | 0 => b0 | 1 => b1 | 2 => b2 | 3 => b3 | 4 => b4 | 5 => b5 | _ => b6, c7, c8, D, E, rfl, hD, hE, fun hw => ?_⟩
      have hd := congrArg Prod.fst hx
      simp only [List.map_cons, List.map_nil] at hd
      have hby : Tryd.prog.bytesOf 33 = 24 := by kernel_rfl
      constructor
      · rcases hDz with rfl | ⟨es, sp, hz, he⟩
        · simp
        · have hin : (es.length + sp.length) * 24 ∈ d.weights Tryd.prog 26 := by
            rw [hd, hz]
            simp [DataW.weights, hst, DataW.weightsEach, h1.1, Tryd.underlying24, hby]
          have := hw _ hin
          rw [← he]
          omega
      · rcases hEz with rfl | ⟨es, sp, hz, he⟩
        · simp
        · have hin : (es.length + sp.length) * 24 ∈ d.weights Tryd.prog 26 := by
            rw [hd, hz]
            simp [DataW.weights, hst, DataW.weightsEach, h2.1, Tryd.underlying24, hby]
          have := hw _ hin
          rw [← he]
          omega
end Go.Proofs.YtipgmiblphfboaaDoor
