/-
  lin: lists of ops that came in, with the reach. Laid by mklinin.py.
-/
import Derived.Test.YtgjalfmnnoaemaaLh9
import Derived.ChangeSame
import Derived.ChangeArms
import Derived.SizedLaws
import Derived.Deep.Strs
namespace Go.Proofs.Ytgjalfmnnoaemaa
open Go.ChangeShapes Go.WideShapes Go.ChangeAt Go.RowKit
set_option maxRecDepth 100000

theorem line_wide {H : Type} {enc : TypeId × Value → H} {W : World} {b2 : Nat} {sp : Nat → Bool} {held : Bool} {fuel : Nat} {cs : List Value} {x : DataW H × List MemPlace} (h : DataW.trod enc Try.prog W b2 sp held fuel 40 cs = some x) :
    ∃ (s : ByteArray) (t : Int), cs = [.string s, .int .i64 t] ∧ (-9223372036854775808 ≤ t ∧ t ≤ 9223372036854775807) ∧ s.size ≤ maxLen := by
  obtain ⟨f0, f1, hst, h0, h1⟩ : ∃ f0 f1 : Field, Try.prog.underlying 40 = some (.struct #[f0, f1]) ∧ (f0.type = 9 ∧ f0.offset = 0) ∧ (f1.type = 3 ∧ f1.offset = 1) := ⟨_, _, Try.underlying40, ⟨rfl, rfl⟩, ⟨rfl, rfl⟩⟩
  obtain ⟨y0, y1, n, rfl, hlen, g0, g1⟩ := trod_struct2 hst h
  have hc : Try.prog.cellsOf 9 = 1 := by kernel_rfl
  have hci : Try.prog.cellsOf 3 = 1 := by kernel_rfl
  have hc2 : Try.prog.cellsOf 40 = 2 := by kernel_rfl
  rw [h0.1, h0.2, hc] at g0
  rw [h1.1, h1.2, hci] at g1
  obtain ⟨a, e0, rfl, ha⟩ := DataW.trod_string Try.underlying9 g0
  obtain ⟨t, e1, rfl, ht⟩ := DataW.trod_int Try.underlying3 g1
  have hb := bounds_i64 ht
  rw [hc2] at hlen
  match cs, hlen with
  | [u0, u1], _ =>
    simp at e0 e1
    subst e0 e1
    exact ⟨a, t, rfl, ⟨hb.1, by omega⟩, ha⟩
theorem lines_wide {H : Type} {enc : TypeId × Value → H} {W : World} {b2 : Nat} {sp : Nat → Bool} {held : Bool} {fuel : Nat} {cs : List Value} {d : DataW H} {p : List MemPlace} (hf : DataW.trod enc Try.prog W b2 sp held fuel 28 cs = some (d, p)) :
    ∃ (L : List Ln) (ao : Option Addr) (cap : Nat), cs = [.slice ao L.length cap] ∧ RLn W (.slice ao L.length cap) L ∧ (∀ i (h : i < L.length), -9223372036854775808 ≤ L[i].2 ∧ L[i].2 ≤ 9223372036854775807) ∧ (∀ y ∈ L, y.1.size ≤ maxLen) ∧ (L = [] ∨ ∃ es sp, d = .slice es sp ∧ es.length = L.length) := by
  have hce : Try.prog.cellsOf 40 = 2 := by kernel_rfl
  rcases DataW.trod_slice Try.underlying28 hf with ⟨hcs, hx⟩ | ⟨a, len0, cap0, elems, rest, n, _, hcs, hx, hb, hl, hm, hlen, hel, _, _⟩
  · subst hcs
    exact ⟨[], none, 0, rfl, .inl ⟨rfl, none, 0, rfl, fun _ => rfl⟩, fun i hi => by simp at hi, by simp, .inl rfl⟩
  · rw [hce] at hel
    have each : ∀ j : Fin len0, ∃ q : Ln, (-9223372036854775808 ≤ q.2 ∧ q.2 ≤ 9223372036854775807) ∧ W.cell? ((a.add (j.1 * 2)).add 0) = some (.string q.1) ∧ W.cell? ((a.add (j.1 * 2)).add 1) = some (.int .i64 q.2) ∧ q.1.size ≤ maxLen := by
      intro j
      have h1 := hel j.1 j.2
      rw [List.getElem?_eq_getElem (by have := j.2; omega)] at h1
      obtain ⟨cs, hc, ht⟩ := Option.bind_eq_some_iff.1 h1
      obtain ⟨s, t, rfl, ht', hbk⟩ := line_wide ht
      have h2 := World.cells?_some hc
      exact ⟨(s, t), ht', by simpa using h2.2.2 0 (by omega), by simpa using h2.2.2 1 (by omega), hbk⟩
    obtain ⟨fn, hfn⟩ := Classical.axiomOfChoice each
    have hpl : (List.ofFn fn).length = len0 := List.length_ofFn
    refine ⟨List.ofFn fn, some a, cap0, by rw [hcs, hpl], ?_, fun i hi => ?_, fun y hy => ?_, .inr ⟨_, _, congrArg Prod.fst hx, by rw [hpl, List.length_map, hlen]⟩⟩
    · by_cases h0 : len0 = 0
      · subst h0
        exact .inl ⟨by simp, some a, cap0, by rw [hpl], fun e => by cases e⟩
      · have c00 := (hfn ⟨0, by omega⟩).2.1
        obtain ⟨b, off, spot⟩ := a
        have hspot : spot = none := by simpa [Addr.add] using World.cell?_spot c00
        subst hspot
        refine .inr ⟨b, off, cap0, rfl, ⟨by rw [hpl]; exact hl, hm⟩, fun j hj => ?_⟩
        rw [hpl] at hj
        obtain ⟨_, k1, k2, _⟩ := hfn ⟨j, hj⟩
        rw [Addr.add_lit, Addr.add_lit] at k1 k2
        rw [List.getElem_ofFn]
        exact ⟨k1, k2⟩
    · rw [hpl] at hi
      rw [List.getElem_ofFn]
      exact (hfn ⟨i, hi⟩).1
    · obtain ⟨j, rfl⟩ := List.mem_ofFn.1 hy
      exact (hfn j).2.2.2
theorem level_wide {H : Type} {enc : TypeId × Value → H} {W : World} {b2 : Nat} {sp : Nat → Bool} {held : Bool} {fuel : Nat} {cs : List Value} {d : DataW H} {p : List MemPlace} (hf : DataW.trod enc Try.prog W b2 sp held fuel 42 cs = some (d, p)) :
    ∃ (s : ByteArray) (t m : Int), cs = [.string s, .int .i64 t, .int .i64 m] := by
  obtain ⟨f0, f1, f2, hst, h0, h1, h2⟩ : ∃ f0 f1 f2 : Field, Try.prog.underlying 42 = some (.struct #[f0, f1, f2]) ∧ (f0.type = 9 ∧ f0.offset = 0) ∧ (f1.type = 3 ∧ f1.offset = 1) ∧ (f2.type = 3 ∧ f2.offset = 2) := ⟨_, _, _, Try.underlying42, ⟨rfl, rfl⟩, ⟨rfl, rfl⟩, ⟨rfl, rfl⟩⟩
  obtain ⟨xs, n, _, hx, hl, hlen, hfl⟩ := DataW.trod_struct hst hf
  have hc : Try.prog.cellsOf 9 = 1 := by kernel_rfl
  have hci : Try.prog.cellsOf 3 = 1 := by kernel_rfl
  have hc3 : Try.prog.cellsOf 42 = 3 := by kernel_rfl
  rw [hc3] at hl
  match xs, hlen with
  | [y0, y1, y2], _ =>
    have g0 := hfl 0 f0 rfl
    have g1 := hfl 1 f1 rfl
    have g2 := hfl 2 f2 rfl
    simp only [List.getElem?_cons_zero, List.getElem?_cons_succ] at g0 g1 g2
    rw [h0.1, h0.2, hc] at g0
    rw [h1.1, h1.2, hci] at g1
    rw [h2.1, h2.2, hci] at g2
    obtain ⟨a, e0, rfl, ha⟩ := DataW.trod_string Try.underlying9 g0
    obtain ⟨t, e1, rfl, ht⟩ := DataW.trod_int Try.underlying3 g1
    obtain ⟨m, e2, rfl, hm⟩ := DataW.trod_int Try.underlying3 g2
    match cs, hl with
    | [u0, u1, u2], _ =>
      simp at e0 e1 e2
      subst e0 e1 e2
      exact ⟨a, t, m, rfl⟩
theorem levels_wide {H : Type} {enc : TypeId × Value → H} {W : World} {b2 : Nat} {sp : Nat → Bool} {held : Bool} {fuel : Nat} {cs : List Value} {d : DataW H} {p : List MemPlace} (hf : DataW.trod enc Try.prog W b2 sp held fuel 31 cs = some (d, p)) :
    ∃ (L : List Lv) (ao : Option Addr) (cap : Nat), cs = [.slice ao L.length cap] ∧ RLv W (.slice ao L.length cap) L ∧ (L = [] ∨ ∃ es sp, d = .slice es sp ∧ es.length = L.length) := by
  have hce : Try.prog.cellsOf 42 = 3 := by kernel_rfl
  rcases DataW.trod_slice Try.underlying31 hf with ⟨hcs, hx⟩ | ⟨a, len0, cap0, elems, rest, n, _, hcs, hx, hb, hl, hm, hlen, hel, _, _⟩
  · subst hcs
    exact ⟨[], none, 0, rfl, .inl ⟨rfl, none, 0, rfl, fun _ => rfl⟩, .inl rfl⟩
  · rw [hce] at hel
    have each : ∀ j : Fin len0, ∃ q : Lv, W.cell? ((a.add (j.1 * 3)).add 0) = some (.string q.1) ∧ W.cell? ((a.add (j.1 * 3)).add 1) = some (.int .i64 q.2.1) ∧ W.cell? ((a.add (j.1 * 3)).add 2) = some (.int .i64 q.2.2) := by
      intro j
      have h1 := hel j.1 j.2
      rw [List.getElem?_eq_getElem (by have := j.2; omega)] at h1
      obtain ⟨cs, hc, ht⟩ := Option.bind_eq_some_iff.1 h1
      obtain ⟨s, t, m, rfl⟩ := level_wide (d := elems[j.1].1) (p := elems[j.1].2) ht
      have h2 := World.cells?_some hc
      exact ⟨(s, t, m), by simpa using h2.2.2 0 (by omega), by simpa using h2.2.2 1 (by omega), by simpa using h2.2.2 2 (by omega)⟩
    obtain ⟨fn, hfn⟩ := Classical.axiomOfChoice each
    have hpl : (List.ofFn fn).length = len0 := List.length_ofFn
    refine ⟨List.ofFn fn, some a, cap0, by rw [hcs, hpl], ?_, .inr ⟨_, _, congrArg Prod.fst hx, by rw [hpl, List.length_map, hlen]⟩⟩
    by_cases h0 : len0 = 0
    · subst h0
      exact .inl ⟨by simp, some a, cap0, by rw [hpl], fun e => by cases e⟩
    · have c00 := (hfn ⟨0, by omega⟩).1
      obtain ⟨b, off, spot⟩ := a
      have hspot : spot = none := by simpa [Addr.add] using World.cell?_spot c00
      subst hspot
      refine .inr ⟨b, off, cap0, rfl, ⟨by rw [hpl]; exact hl, hm⟩, fun j hj => ?_⟩
      rw [hpl] at hj
      obtain ⟨k1, k2, k3⟩ := hfn ⟨j, hj⟩
      rw [Addr.add_lit, Addr.add_lit] at k1 k2 k3
      rw [List.getElem_ofFn]
      exact ⟨k1, k2, k3⟩
theorem reqs_wide {H : Type} {enc : TypeId × Value → H} {W : World} {b2 : Nat} {sp : Nat → Bool} {held : Bool} {fuel : Nat} {cs : List Value} {d : DataW H} {p : List MemPlace} (hf : DataW.trod enc Try.prog W b2 sp held fuel 30 cs = some (d, p)) :
    ∃ (r : Rq) (v : Value), cs = [.string r.id, .int .i64 r.kind, v, .string r.hold, .int .i64 r.ttl, .int .i64 r.now] ∧ RLn W v r.lines ∧ ((∀ n ∈ d.weights Try.prog 30, n ≤ reachBytes) → r.lines.length * 24 ≤ reachBytes) := by
  obtain ⟨f0, f1, f2, f3, f4, f5, hst, h0, h1, h2, h3, h4, h5⟩ : ∃ f0 f1 f2 f3 f4 f5 : Field, Try.prog.underlying 30 = some (.struct #[f0, f1, f2, f3, f4, f5]) ∧ (f0.type = 9 ∧ f0.offset = 0) ∧ (f1.type = 3 ∧ f1.offset = 1) ∧ (f2.type = 28 ∧ f2.offset = 2) ∧ (f3.type = 9 ∧ f3.offset = 3) ∧ (f4.type = 3 ∧ f4.offset = 4) ∧ (f5.type = 3 ∧ f5.offset = 5) := ⟨_, _, _, _, _, _, Try.underlying30, ⟨rfl, rfl⟩, ⟨rfl, rfl⟩, ⟨rfl, rfl⟩, ⟨rfl, rfl⟩, ⟨rfl, rfl⟩, ⟨rfl, rfl⟩⟩
  obtain ⟨xs, n, _, hx, hl, hlen, hfl⟩ := DataW.trod_struct hst hf
  have hc0 : Try.prog.cellsOf 9 = 1 := by kernel_rfl
  have hc1 : Try.prog.cellsOf 3 = 1 := by kernel_rfl
  have hc2 : Try.prog.cellsOf 28 = 1 := by kernel_rfl
  have hcA : Try.prog.cellsOf 30 = 6 := by kernel_rfl
  rw [hcA] at hl
  match xs, hlen with
  | [y0, y1, y2, y3, y4, y5], _ =>
    have g0 := hfl 0 f0 rfl
    have g1 := hfl 1 f1 rfl
    have g2 := hfl 2 f2 rfl
    have g3 := hfl 3 f3 rfl
    have g4 := hfl 4 f4 rfl
    have g5 := hfl 5 f5 rfl
    simp only [List.getElem?_cons_zero, List.getElem?_cons_succ] at g0 g1 g2 g3 g4 g5
    rw [h0.1, h0.2, hc0] at g0
    rw [h1.1, h1.2, hc1] at g1
    rw [h2.1, h2.2, hc2] at g2
    rw [h3.1, h3.2, hc0] at g3
    rw [h4.1, h4.2, hc1] at g4
    rw [h5.1, h5.2, hc1] at g5
    obtain ⟨a0, e0, rfl, _⟩ := DataW.trod_string Try.underlying9 g0
    obtain ⟨a1, e1, rfl, _⟩ := DataW.trod_int Try.underlying3 g1
    obtain ⟨z2, q2⟩ := y2
    obtain ⟨L2, ao2, cap2, e2, hL2, _, _, hD2⟩ := lines_wide g2
    obtain ⟨a3, e3, rfl, _⟩ := DataW.trod_string Try.underlying9 g3
    obtain ⟨a4, e4, rfl, _⟩ := DataW.trod_int Try.underlying3 g4
    obtain ⟨a5, e5, rfl, _⟩ := DataW.trod_int Try.underlying3 g5
    match cs, hl with
    | [u0, u1, u2, u3, u4, u5], _ =>
      simp at e0 e1 e2 e3 e4 e5
      subst e0 e1 e2 e3 e4 e5
      refine ⟨⟨a0, a1, L2, a3, a4, a5⟩, _, rfl, hL2, fun hw => ?_⟩
      have hd := congrArg Prod.fst hx
      simp only [List.map_cons, List.map_nil] at hd
      show L2.length * 24 ≤ reachBytes
      rcases hD2 with rfl | ⟨es, sp, hz, he⟩
      · simp
      · have hby : Try.prog.bytesOf 40 = 24 := by kernel_rfl
        have hin : (es.length + sp.length) * 24 ∈ d.weights Try.prog 30 := by
          rw [hd, hz]
          simp [DataW.weights, hst, DataW.weightsEach, h2.1, Try.underlying28, hby]
        have := hw _ hin
        rw [← he]
        omega
theorem reps_wide {H : Type} {enc : TypeId × Value → H} {W : World} {b2 : Nat} {sp : Nat → Bool} {held : Bool} {fuel : Nat} {cs : List Value} {d : DataW H} {p : List MemPlace} (hf : DataW.trod enc Try.prog W b2 sp held fuel 33 cs = some (d, p)) :
    ∃ (r : Ry) (v : Value), cs = [.string r.id, .int .i64 r.err, .int .i64 r.line, v, .int .i64 r.now] ∧ RLv W v r.levels ∧ ((∀ n ∈ d.weights Try.prog 33, n ≤ reachBytes) → r.levels.length * 32 ≤ reachBytes) := by
  obtain ⟨f0, f1, f2, f3, f4, hst, h0, h1, h2, h3, h4⟩ : ∃ f0 f1 f2 f3 f4 : Field, Try.prog.underlying 33 = some (.struct #[f0, f1, f2, f3, f4]) ∧ (f0.type = 9 ∧ f0.offset = 0) ∧ (f1.type = 24 ∧ f1.offset = 1) ∧ (f2.type = 3 ∧ f2.offset = 2) ∧ (f3.type = 31 ∧ f3.offset = 3) ∧ (f4.type = 3 ∧ f4.offset = 4) := ⟨_, _, _, _, _, Try.underlying33, ⟨rfl, rfl⟩, ⟨rfl, rfl⟩, ⟨rfl, rfl⟩, ⟨rfl, rfl⟩, ⟨rfl, rfl⟩⟩
  obtain ⟨xs, n, _, hx, hl, hlen, hfl⟩ := DataW.trod_struct hst hf
  have hc0 : Try.prog.cellsOf 9 = 1 := by kernel_rfl
  have hc1 : Try.prog.cellsOf 24 = 1 := by kernel_rfl
  have hc2 : Try.prog.cellsOf 3 = 1 := by kernel_rfl
  have hc3 : Try.prog.cellsOf 31 = 1 := by kernel_rfl
  have hcA : Try.prog.cellsOf 33 = 5 := by kernel_rfl
  rw [hcA] at hl
  match xs, hlen with
  | [y0, y1, y2, y3, y4], _ =>
    have g0 := hfl 0 f0 rfl
    have g1 := hfl 1 f1 rfl
    have g2 := hfl 2 f2 rfl
    have g3 := hfl 3 f3 rfl
    have g4 := hfl 4 f4 rfl
    simp only [List.getElem?_cons_zero, List.getElem?_cons_succ] at g0 g1 g2 g3 g4
    rw [h0.1, h0.2, hc0] at g0
    rw [h1.1, h1.2, hc1] at g1
    rw [h2.1, h2.2, hc2] at g2
    rw [h3.1, h3.2, hc3] at g3
    rw [h4.1, h4.2, hc2] at g4
    obtain ⟨a0, e0, rfl, _⟩ := DataW.trod_string Try.underlying9 g0
    obtain ⟨a1, e1, rfl, _⟩ := DataW.trod_int Try.underlying24 g1
    obtain ⟨a2, e2, rfl, _⟩ := DataW.trod_int Try.underlying3 g2
    obtain ⟨z3, q3⟩ := y3
    obtain ⟨L3, ao3, cap3, e3, hL3, hD3⟩ := levels_wide g3
    obtain ⟨a4, e4, rfl, _⟩ := DataW.trod_int Try.underlying3 g4
    match cs, hl with
    | [u0, u1, u2, u3, u4], _ =>
      simp at e0 e1 e2 e3 e4
      subst e0 e1 e2 e3 e4
      refine ⟨⟨a0, a1, a2, L3, a4⟩, _, rfl, hL3, fun hw => ?_⟩
      have hd := congrArg Prod.fst hx
      simp only [List.map_cons, List.map_nil] at hd
      show L3.length * 32 ≤ reachBytes
      rcases hD3 with rfl | ⟨es, sp, hz, he⟩
      · simp
      · have hby : Try.prog.bytesOf 42 = 32 := by kernel_rfl
        have hin : (es.length + sp.length) * 32 ∈ d.weights Try.prog 33 := by
          rw [hd, hz]
          simp [DataW.weights, hst, DataW.weightsEach, h3.1, Try.underlying31, hby]
        have := hw _ hin
        rw [← he]
        omega
theorem op_wide {H : Type} {enc : TypeId × Value → H} {W : World} {b2 : Nat} {sp : Nat → Bool} {held : Bool} {fuel : Nat} {cs : List Value} {d : DataW H} {p : List MemPlace} (hf : DataW.trod enc Try.prog W b2 sp held fuel 35 cs = some (d, p)) :
    ∃ (x : Opx) (v1 v2 : Value), cs = opC x v1 v2 ∧ RLn W v1 x.req.lines ∧ RLv W v2 x.rep.levels ∧ ((∀ n ∈ d.weights Try.prog 35, n ≤ reachBytes) → x.req.lines.length * 24 ≤ reachBytes ∧ x.rep.levels.length * 32 ≤ reachBytes) := by
  obtain ⟨f0, f1, f2, f3, f4, hst, h0, h1, h2, h3, h4⟩ : ∃ f0 f1 f2 f3 f4 : Field, Try.prog.underlying 35 = some (.struct #[f0, f1, f2, f3, f4]) ∧ (f0.type = 30 ∧ f0.offset = 0) ∧ (f1.type = 33 ∧ f1.offset = 6) ∧ (f2.type = 3 ∧ f2.offset = 11) ∧ (f3.type = 3 ∧ f3.offset = 12) ∧ (f4.type = 4 ∧ f4.offset = 13) := ⟨_, _, _, _, _, Try.underlying35, ⟨rfl, rfl⟩, ⟨rfl, rfl⟩, ⟨rfl, rfl⟩, ⟨rfl, rfl⟩, ⟨rfl, rfl⟩⟩
  obtain ⟨xs, n, _, hx, hl, hlen, hfl⟩ := DataW.trod_struct hst hf
  have hc0 : Try.prog.cellsOf 30 = 6 := by kernel_rfl
  have hc1 : Try.prog.cellsOf 33 = 5 := by kernel_rfl
  have hc2 : Try.prog.cellsOf 3 = 1 := by kernel_rfl
  have hc3 : Try.prog.cellsOf 4 = 1 := by kernel_rfl
  have hcA : Try.prog.cellsOf 35 = 14 := by kernel_rfl
  rw [hcA] at hl
  match xs, hlen with
  | [y0, y1, y2, y3, y4], _ =>
    have g0 := hfl 0 f0 rfl
    have g1 := hfl 1 f1 rfl
    have g2 := hfl 2 f2 rfl
    have g3 := hfl 3 f3 rfl
    have g4 := hfl 4 f4 rfl
    simp only [List.getElem?_cons_zero, List.getElem?_cons_succ] at g0 g1 g2 g3 g4
    rw [h0.1, h0.2, hc0] at g0
    rw [h1.1, h1.2, hc1] at g1
    rw [h2.1, h2.2, hc2] at g2
    rw [h3.1, h3.2, hc2] at g3
    rw [h4.1, h4.2, hc3] at g4
    obtain ⟨z0, q0⟩ := y0
    obtain ⟨r0, v0, e0, hL0, hD0⟩ := reqs_wide g0
    obtain ⟨z1, q1⟩ := y1
    obtain ⟨r1, v1, e1, hL1, hD1⟩ := reps_wide g1
    obtain ⟨a2, e2, rfl, _⟩ := DataW.trod_int Try.underlying3 g2
    obtain ⟨a3, e3, rfl, _⟩ := DataW.trod_int Try.underlying3 g3
    obtain ⟨a4, e4, rfl⟩ := DataW.trod_bool Try.underlying4 g4
    match cs, hl with
    | [u0, u1, u2, u3, u4, u5, u6, u7, u8, u9, u10, u11, u12, u13], _ =>
      simp at e0 e1 e2 e3 e4
      obtain ⟨rfl, rfl, rfl, rfl, rfl, rfl⟩ := e0
      obtain ⟨rfl, rfl, rfl, rfl, rfl⟩ := e1
      subst e2 e3 e4
      refine ⟨⟨r0, r1, a2, a3, a4⟩, _, _, rfl, hL0, hL1, fun hw => ⟨hD0 fun n hn => hw n ?_, hD1 fun n hn => hw n ?_⟩⟩
      · have hd := congrArg Prod.fst hx
        simp only [List.map_cons, List.map_nil] at hd
        rw [hd]
        simp only [DataW.weights, hst, DataW.weightsEach, List.map_cons, List.map_nil, h0.1, h1.1]
        exact List.mem_append_left _ hn
      · have hd := congrArg Prod.fst hx
        simp only [List.map_cons, List.map_nil] at hd
        rw [hd]
        simp only [DataW.weights, hst, DataW.weightsEach, List.map_cons, List.map_nil, h0.1, h1.1]
        exact List.mem_append_right _ (List.mem_append_left _ hn)
theorem weights_in {P : Program} {H : Type} {e : TypeId} (x : DataW H) (n : Nat) (hn : n ∈ x.weights P e) : ∀ l : List (DataW H), x ∈ l → n ∈ DataW.weightsAll P e l := by
  intro l hx
  induction l with
  | nil => cases hx
  | cons y t ih =>
    unfold DataW.weightsAll
    rcases List.mem_cons.1 hx with rfl | hx
    · exact List.mem_append_left _ hn
    · exact List.mem_append_right _ (ih hx)
theorem ops_wide {H : Type} {enc : TypeId × Value → H} {W : World} {b2 : Nat} {sp : Nat → Bool} {held : Bool} {v : Value} {d : DataW H} {p : List MemPlace} (hvs : ∃ a len cap, v = .slice a len cap) (h : ∃ fuel, DataW.trod enc Try.prog W b2 sp held fuel 22 v.cells.toList = some (d, p)) :
    ∃ L : List Opx, RO W v L ∧ ((∀ n ∈ d.weights Try.prog 22, n ≤ reachBytes) → LOk L) := by
  obtain ⟨ao, len0, cap0, rfl⟩ := hvs
  obtain ⟨fuel, hf⟩ := h
  have hce : Try.prog.cellsOf 35 = 14 := by kernel_rfl
  have hby : Try.prog.bytesOf 35 = 168 := by kernel_rfl
  have hrb : reachBytes = 140737488351232 := rfl
  rcases DataW.trod_slice Try.underlying22 hf with ⟨hcs, hx⟩ | ⟨a, len, cap, elems, rest, n, _, hcs, hx, hb, hl, hm, hlen, hel, _, _⟩
  · simp [Value.cells] at hcs
    obtain ⟨rfl, rfl, rfl⟩ := hcs
    exact ⟨[], .inl ⟨rfl, none, 0, rfl, fun _ => rfl⟩, fun _ => ⟨by simp, by simp⟩⟩
  · simp [Value.cells] at hcs
    obtain ⟨rfl, rfl, rfl⟩ := hcs
    rw [hce] at hel
    have each : ∀ j : Fin len0, ∃ q : Opv, (∀ i u, (encO q)[i]? = some u → W.cell? ((a.add (j.1 * 14)).add i) = some u) ∧ RLn W q.2.1 q.1.req.lines ∧ RLv W q.2.2 q.1.rep.levels ∧ ((∀ n ∈ d.weights Try.prog 22, n ≤ reachBytes) → q.1.req.lines.length * 24 ≤ reachBytes ∧ q.1.rep.levels.length * 32 ≤ reachBytes) := by
      intro j
      have h1 := hel j.1 j.2
      have hjl : j.1 < elems.length := by have := j.2; omega
      rw [List.getElem?_eq_getElem hjl] at h1
      obtain ⟨cs, hc, ht⟩ := Option.bind_eq_some_iff.1 h1
      obtain ⟨x, v1, v2, rfl, r1, r2, hw⟩ := op_wide (d := elems[j.1].1) (p := elems[j.1].2) ht
      have h2 := World.cells?_some hc
      refine ⟨(x, v1, v2), fun i u hu => ?_, r1, r2, fun hall => hw fun n hn => hall n ?_⟩
      · have hi : i < 14 := by have := (List.getElem?_eq_some_iff.1 hu).1; rwa [encO_len] at this
        have h3 := h2.2.2 i hi
        have h4 : (opC x v1 v2)[i]? = some u := hu
        rw [h3]
        exact h4
      · rw [show d = _ from congrArg Prod.fst hx]
        simp only [DataW.weights, Try.underlying22]
        exact List.mem_cons_of_mem _ (List.mem_append_left _ (weights_in _ n hn _ (List.mem_map.2 ⟨elems[j.1], List.getElem_mem hjl, rfl⟩)))
    obtain ⟨fn, hfn⟩ := Classical.axiomOfChoice each
    have hpl : (List.ofFn fun j => (fn j).1).length = len0 := List.length_ofFn
    refine ⟨List.ofFn fun j => (fn j).1, ?_, fun hall => ⟨?_, fun x hx2 => ?_⟩⟩
    · by_cases h0 : len0 = 0
      · subst h0
        exact .inl ⟨by simp, some a, cap0, rfl, fun e => by cases e⟩
      · have c00 := (hfn ⟨0, by omega⟩).1 0 _ rfl
        obtain ⟨b, off, spot⟩ := a
        have hspot : spot = none := by simpa [Addr.add] using World.cell?_spot c00
        subst hspot
        refine .inr ⟨b, off, cap0, by rw [hpl], ⟨by rw [hpl]; exact hl, hm⟩, fun j hj => ?_⟩
        rw [hpl] at hj
        obtain ⟨k1, k2, k3, _⟩ := hfn ⟨j, hj⟩
        rw [List.getElem_ofFn]
        refine ⟨_, _, fun i u hu => ?_, k2, k3⟩
        have := k1 i u hu
        rw [Addr.add_lit, Addr.add_lit] at this
        exact this
    · rw [hpl]
      have hin : (elems.length + rest.length) * 168 ∈ d.weights Try.prog 22 := by
        rw [show d = _ from congrArg Prod.fst hx]
        simp [DataW.weights, Try.underlying22, hby]
      have := hall _ hin
      omega
    · obtain ⟨j, rfl⟩ := List.mem_ofFn.1 hx2
      have := (hfn j).2.2.2 hall
      omega
end Go.Proofs.Ytgjalfmnnoaemaa
