/-
  Replies that came in, and how much they are. Laid by mkrepin.py.
-/
import Derived.Test.YtfhicemfhkhjaaaLawCRp
import Derived.Test.YtfhicemfhkhjaaaReqIn
import Derived.Deep.Strs
namespace Go.Proofs.Ytfhicemfhkhjaaa
open Go.ChangeShapes Go.WideShapes Go.ChangeAt Go.RowKit
set_option maxRecDepth 100000

theorem level_cells {H : Type} {enc : TypeId × Value → H} {W : World} {b2 : Nat} {sp : Nat → Bool} {held : Bool} {fuel : Nat} {cs : List Value} {x : DataW H × List MemPlace} (h : DataW.trod enc Try.prog W b2 sp held fuel 64 cs = some x) :
    ∃ (s : ByteArray) (t t2 : Int), cs = [.string s, .int .i64 t, .int .i64 t2] ∧ ((-9223372036854775808 ≤ t ∧ t ≤ 9223372036854775807) ∧ -9223372036854775808 ≤ t2 ∧ t2 ≤ 9223372036854775807) ∧ Rows.uptoBulk x.1 = s.size + 4 := by
  obtain ⟨f0, f1, f2, hst, h0, h1, h2⟩ : ∃ f0 f1 f2 : Field, Try.prog.underlying 64 = some (.struct #[f0, f1, f2]) ∧ (f0.type = 9 ∧ f0.offset = 0) ∧ (f1.type = 3 ∧ f1.offset = 1) ∧ (f2.type = 3 ∧ f2.offset = 2) := ⟨_, _, _, Try.underlying64, ⟨rfl, rfl⟩, ⟨rfl, rfl⟩, ⟨rfl, rfl⟩⟩
  obtain ⟨xs, n, _, hx, hl, hlen, hfl⟩ := DataW.trod_struct hst h
  have hc : Try.prog.cellsOf 9 = 1 := by kernel_rfl
  have hci : Try.prog.cellsOf 3 = 1 := by kernel_rfl
  have hc3 : Try.prog.cellsOf 64 = 3 := by kernel_rfl
  rw [hc3] at hl
  match xs, hlen with
  | [y0, y1, y2], _ =>
    have g0 := hfl 0 f0 rfl
    have g1 := hfl 1 f1 rfl
    have g2 := hfl 2 f2 rfl
    simp only [List.getElem?_cons_zero, List.getElem?_cons_succ] at g0 g1 g2
    rw [h0.1, h0.2, hc] at g0
    rw [h1.1, h1.2, hci] at g1
    rw [h2.1, h2.2, hci] at g2
    obtain ⟨a, e0, rfl, _⟩ := DataW.trod_string Try.underlying9 g0
    obtain ⟨t, e1, rfl, ht⟩ := DataW.trod_int Try.underlying3 g1
    obtain ⟨t2, e2, rfl, ht2⟩ := DataW.trod_int Try.underlying3 g2
    have bt := bounds_i64 ht
    have bt2 := bounds_i64 ht2
    match cs, hl with
    | [u0, u1, u2], _ =>
      simp at e0 e1 e2
      subst e0 e1 e2
      refine ⟨a, t, t2, rfl, ⟨⟨bt.1, by omega⟩, bt2.1, by omega⟩, ?_⟩
      have hd := congrArg Prod.fst hx
      simp only [List.map_cons, List.map_nil] at hd
      rw [hd]
      have e : a.data.toList.length = a.size := rfl
      simp only [Rows.uptoBulk, Rows.uptoBulkAll]
      omega
theorem wv_ofFn {n : Nat} (fn : Fin n → Lv) : wv (List.ofFn fn) + (List.ofFn fn).length = (List.ofFn fun j => (fn j).1.size + 4).sum := by
  unfold wv
  induction n with
  | zero => simp
  | succ m ih =>
    have := ih (fun j => fn j.succ)
    rw [List.ofFn_succ, List.map_cons, List.sum_cons, List.length_cons, List.ofFn_succ, List.sum_cons]
    omega
theorem levels_open {H : Type} {enc : TypeId × Value → H} {W : World} {b2 : Nat} {sp : Nat → Bool} {held : Bool} {fuel : Nat} {cs : List Value} {d : DataW H} {p : List MemPlace} (hf : DataW.trod enc Try.prog W b2 sp held fuel 30 cs = some (d, p)) :
    ∃ (L : List Lv) (ao : Option Addr) (cap : Nat), cs = [.slice ao L.length cap] ∧ RLv W (.slice ao L.length cap) L ∧ (∀ i (h : i < L.length), (-9223372036854775808 ≤ L[i].2.1 ∧ L[i].2.1 ≤ 9223372036854775807) ∧ -9223372036854775808 ≤ L[i].2.2 ∧ L[i].2.2 ≤ 9223372036854775807) ∧ wv L + L.length ≤ Rows.uptoBulk d := by
  have hce : Try.prog.cellsOf 64 = 3 := by kernel_rfl
  rcases DataW.trod_slice Try.underlying30 hf with ⟨hcs, hx⟩ | ⟨a, len0, cap0, elems, rest, n, _, hcs, hx, hb, hl, hm, hlen, hel, _, _⟩
  · subst hcs
    exact ⟨[], none, 0, rfl, .inl ⟨rfl, none, 0, rfl, fun _ => rfl⟩, fun i hi => by simp at hi, by simp [wv]⟩
  · rw [hce] at hel
    have each : ∀ j : Fin len0, ∃ q : Lv, ((-9223372036854775808 ≤ q.2.1 ∧ q.2.1 ≤ 9223372036854775807) ∧ -9223372036854775808 ≤ q.2.2 ∧ q.2.2 ≤ 9223372036854775807) ∧ W.cell? ((a.add (j.1 * 3)).add 0) = some (.string q.1) ∧ W.cell? ((a.add (j.1 * 3)).add 1) = some (.int .i64 q.2.1) ∧ W.cell? ((a.add (j.1 * 3)).add 2) = some (.int .i64 q.2.2) ∧ Rows.uptoBulk (elems[j.1]'(by have := j.2; omega)).1 = q.1.size + 4 := by
      intro j
      have h1 := hel j.1 j.2
      rw [List.getElem?_eq_getElem (by have := j.2; omega)] at h1
      obtain ⟨cs, hc, ht⟩ := Option.bind_eq_some_iff.1 h1
      obtain ⟨s, t, t2, rfl, ht', hbk⟩ := level_cells ht
      have h2 := World.cells?_some hc
      exact ⟨(s, t, t2), ht', by simpa using h2.2.2 0 (by omega), by simpa using h2.2.2 1 (by omega), by simpa using h2.2.2 2 (by omega), hbk⟩
    obtain ⟨fn, hfn⟩ := Classical.axiomOfChoice each
    have hpl : (List.ofFn fn).length = len0 := List.length_ofFn
    refine ⟨List.ofFn fn, some a, cap0, by rw [hcs, hpl], ?_, fun i hi => ?_, ?_⟩
    · by_cases h0 : len0 = 0
      · subst h0
        exact .inl ⟨by simp, some a, cap0, by rw [hpl], fun e => by cases e⟩
      · have c00 := (hfn ⟨0, by omega⟩).2.1
        obtain ⟨b, off, spot⟩ := a
        have hspot : spot = none := by simpa [Addr.add] using World.cell?_spot c00
        subst hspot
        refine .inr ⟨b, off, cap0, rfl, by rw [hpl]; exact hl, fun j hj => ?_⟩
        rw [hpl] at hj
        obtain ⟨_, k1, k2, k3, _⟩ := hfn ⟨j, hj⟩
        rw [Addr.add_lit, Addr.add_lit] at k1 k2 k3
        rw [List.getElem_ofFn]
        exact ⟨k1, k2, k3⟩
    · rw [hpl] at hi
      rw [List.getElem_ofFn]
      exact (hfn ⟨i, hi⟩).1
    · have hd := congrArg Prod.fst hx
      simp only at hd
      rw [hd]
      simp only [Rows.uptoBulk]
      rw [bulk_sum, List.map_map]
      have key := sum_ofFn elems hlen (fun j => (fn j).1.size + 4) (fun x => Rows.uptoBulk x.1) (fun j => by rw [(hfn j).2.2.2.2]; exact Nat.le_refl _)
      have e1 := wv_ofFn fn
      rw [e1]
      have e2 : (elems.map (Rows.uptoBulk ∘ fun x => x.1)).sum = (elems.map fun x => Rows.uptoBulk x.1).sum := rfl
      rw [e2]
      omega
theorem reply_open {H : Type} {enc : TypeId × Value → H} {W : World} {base b2 : Nat} {sp : Nat → Bool} {held : Bool} {v : Value} {d : DataW H} {p : List MemPlace} (hv : Value.okWide Try.prog W .any base 32 v) (h : ∃ fuel, DataW.trod enc Try.prog W b2 sp held fuel 32 v.cells.toList = some (d, p)) :
    ∃ (r : Ry) (ao : Option Addr) (cap : Nat), v = rpV r ao cap ∧ RLv W (.slice ao r.levels.length cap) r.levels ∧ (-9223372036854775808 ≤ r.err ∧ r.err ≤ 9223372036854775807) ∧ (-9223372036854775808 ≤ r.line ∧ r.line ≤ 9223372036854775807) ∧ (-9223372036854775808 ≤ r.now ∧ r.now ≤ 9223372036854775807) ∧ (∀ i (h : i < r.levels.length), (-9223372036854775808 ≤ r.levels[i].2.1 ∧ r.levels[i].2.1 ≤ 9223372036854775807) ∧ -9223372036854775808 ≤ r.levels[i].2.2 ∧ r.levels[i].2.2 ≤ 9223372036854775807) ∧ r.id.size + wv r.levels + r.levels.length ≤ Rows.uptoBulk d := by
  obtain ⟨cs, rfl, hsz⟩ := okWide_struct Try.underlying32 hv
  obtain ⟨fuel, hf⟩ := h
  obtain ⟨f0, f1, f2, f3, f4, hst, h0, h1, h2, h3, h4⟩ : ∃ f0 f1 f2 f3 f4 : Field, Try.prog.underlying 32 = some (.struct #[f0, f1, f2, f3, f4]) ∧ (f0.type = 9 ∧ f0.offset = 0) ∧ (f1.type = 29 ∧ f1.offset = 1) ∧ (f2.type = 3 ∧ f2.offset = 2) ∧ (f3.type = 30 ∧ f3.offset = 3) ∧ (f4.type = 3 ∧ f4.offset = 4) := ⟨_, _, _, _, _, Try.underlying32, ⟨rfl, rfl⟩, ⟨rfl, rfl⟩, ⟨rfl, rfl⟩, ⟨rfl, rfl⟩, ⟨rfl, rfl⟩⟩
  obtain ⟨xs, n, _, hx, hl, hlen, hfl⟩ := DataW.trod_struct hst hf
  have hc : Try.prog.cellsOf 9 = 1 := by kernel_rfl
  have hci : Try.prog.cellsOf 3 = 1 := by kernel_rfl
  have hce : Try.prog.cellsOf 29 = 1 := by kernel_rfl
  have hcl : Try.prog.cellsOf 30 = 1 := by kernel_rfl
  have hc5 : Try.prog.cellsOf 32 = 5 := by kernel_rfl
  have ecs : (Value.agg cs).cells.toList = cs.toList := by simp [Value.cells]
  rw [ecs] at hl hfl
  rw [hc5] at hl
  match xs, hlen with
  | [y0, y1, y2, y3, y4], _ =>
    have g0 := hfl 0 f0 rfl
    have g1 := hfl 1 f1 rfl
    have g2 := hfl 2 f2 rfl
    have g3 := hfl 3 f3 rfl
    have g4 := hfl 4 f4 rfl
    simp only [List.getElem?_cons_zero, List.getElem?_cons_succ] at g0 g1 g2 g3 g4
    rw [h0.1, h0.2, hc] at g0
    rw [h1.1, h1.2, hce] at g1
    rw [h2.1, h2.2, hci] at g2
    rw [h3.1, h3.2, hcl] at g3
    rw [h4.1, h4.2, hci] at g4
    obtain ⟨a, e0, rfl, _⟩ := DataW.trod_string Try.underlying9 g0
    obtain ⟨k, e1, rfl, hk⟩ := DataW.trod_int Try.underlying29 g1
    obtain ⟨t, e2, rfl, ht⟩ := DataW.trod_int Try.underlying3 g2
    obtain ⟨z3, q3⟩ := y3
    obtain ⟨L, ao, cap, e3, hL, hLb, hw⟩ := levels_open g3
    obtain ⟨m, e4, rfl, hm⟩ := DataW.trod_int Try.underlying3 g4
    have bk := bounds_i64 hk
    have bt := bounds_i64 ht
    have bm := bounds_i64 hm
    obtain ⟨cl⟩ := cs
    match cl, hl with
    | [u0, u1, u2, u3, u4], _ =>
      simp at e0 e1 e2 e3 e4
      subst e0 e1 e2 e3 e4
      refine ⟨⟨a, k, t, L, m⟩, ao, cap, rfl, hL, ⟨bk.1, by show k ≤ _; omega⟩, ⟨bt.1, by show t ≤ _; omega⟩, ⟨bm.1, by show m ≤ _; omega⟩, hLb, ?_⟩
      have hd := congrArg Prod.fst hx
      simp only [List.map_cons, List.map_nil] at hd
      rw [hd]
      have ea : a.data.toList.length = a.size := rfl
      simp only [Rows.uptoBulk, Rows.uptoBulkAll]
      show a.size + wv L + L.length ≤ _
      omega
end Go.Proofs.Ytfhicemfhkhjaaa
