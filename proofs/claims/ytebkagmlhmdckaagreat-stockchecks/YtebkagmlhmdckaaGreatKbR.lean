/-
  Requests that came in, and how much they are.
-/
import Derived.Test.YtebkagmlhmdckaaGreatKb1
import Derived.ChangeSame
import Derived.ChangeArms
import Derived.SizedLaws
import Derived.Deep.Strs
namespace Go.Proofs.YtebkagmlhmdckaaGreat
open Go.ChangeShapes Go.WideShapes Go.ChangeAt Go.RowKit
set_option maxRecDepth 100000

theorem bulk_one {H : Type} (d : DataW H) : 1 ≤ Rows.uptoBulk d := by
  cases d with
  | lit l => cases l <;> simp [Rows.uptoBulk]
  | nil => simp [Rows.uptoBulk]
  | ptr d => simp [Rows.uptoBulk]
  | slice elems spare => simp [Rows.uptoBulk]
  | agg parts => simp [Rows.uptoBulk]
  | iface t d => simp [Rows.uptoBulk]
  | map entries => simp [Rows.uptoBulk]
  | held h => simp [Rows.uptoBulk]
theorem bulk_len {H : Type} (l : List (DataW H)) : l.length ≤ Rows.uptoBulkAll l := by
  induction l with
  | nil => simp [Rows.uptoBulkAll]
  | cons x r ih => have := bulk_one x; simp only [Rows.uptoBulkAll, List.length_cons]; omega
theorem line_cells {H : Type} {enc : TypeId × Value → H} {W : World} {b2 : Nat} {sp : Nat → Bool} {held : Bool} {fuel : Nat} {cs : List Value} {x : DataW H × List MemPlace} (h : DataW.trod enc Tryz.prog W b2 sp held fuel 45 cs = some x) :
    ∃ (s : ByteArray) (t : Int), cs = [.string s, .int .i64 t] ∧ (-9223372036854775808 ≤ t ∧ t ≤ 9223372036854775807) ∧ Rows.uptoBulk x.1 = s.size + 3 := by
  obtain ⟨f0, f1, hst, h0, h1⟩ : ∃ f0 f1 : Field, Tryz.prog.underlying 45 = some (.struct #[f0, f1]) ∧ (f0.type = 9 ∧ f0.offset = 0) ∧ (f1.type = 3 ∧ f1.offset = 1) := ⟨_, _, Tryz.underlying45, ⟨rfl, rfl⟩, ⟨rfl, rfl⟩⟩
  obtain ⟨y0, y1, n, rfl, hlen, g0, g1⟩ := trod_struct2 hst h
  have hc : Tryz.prog.cellsOf 9 = 1 := by kernel_rfl
  have hci : Tryz.prog.cellsOf 3 = 1 := by kernel_rfl
  have hc2 : Tryz.prog.cellsOf 45 = 2 := by kernel_rfl
  rw [h0.1, h0.2, hc] at g0
  rw [h1.1, h1.2, hci] at g1
  obtain ⟨a, e0, rfl, ha⟩ := DataW.trod_string Tryz.underlying9 g0
  obtain ⟨t, e1, rfl, ht⟩ := DataW.trod_int Tryz.underlying3 g1
  have hb := bounds_i64 ht
  rw [hc2] at hlen
  match cs, hlen with
  | [u0, u1], _ =>
    simp at e0 e1
    subst e0 e1
    refine ⟨a, t, rfl, ⟨hb.1, by omega⟩, ?_⟩
    have e : a.data.toList.length = a.size := rfl
    simp only [Rows.uptoBulk, Rows.uptoBulkAll]
    omega
theorem sum_ofFn {n : Nat} {α : Type} (es : List α) (hn : es.length = n) (f : Fin n → Nat) (g : α → Nat) (h : ∀ j : Fin n, f j ≤ g (es[j.1]'(by rw [hn]; exact j.2))) : (List.ofFn f).sum ≤ (es.map g).sum := by
  induction es generalizing n with
  | nil => subst hn; simp
  | cons x t ih =>
    subst hn
    rw [List.ofFn_succ, List.sum_cons, List.map_cons, List.sum_cons]
    have h0 := h ⟨0, by simp⟩
    have := ih rfl (fun j => f j.succ) (fun j => by simpa using h j.succ)
    simp at h0
    omega
theorem wl_ofFn {n : Nat} (fn : Fin n → Ln) : wl (List.ofFn fn) + (List.ofFn fn).length = (List.ofFn fun j => (fn j).1.size + 3).sum := by
  unfold wl
  induction n with
  | zero => simp
  | succ m ih =>
    have := ih (fun j => fn j.succ)
    rw [List.ofFn_succ, List.map_cons, List.sum_cons, List.length_cons, List.ofFn_succ, List.sum_cons]
    omega
theorem bulk_sum {H : Type} (l : List (DataW H)) : Rows.uptoBulkAll l = (l.map Rows.uptoBulk).sum := by
  induction l with
  | nil => simp [Rows.uptoBulkAll]
  | cons x r ih => simp only [Rows.uptoBulkAll, List.map_cons, List.sum_cons, ih]
theorem lines_open {H : Type} {enc : TypeId × Value → H} {W : World} {b2 : Nat} {sp : Nat → Bool} {held : Bool} {fuel : Nat} {cs : List Value} {d : DataW H} {p : List MemPlace} (hf : DataW.trod enc Tryz.prog W b2 sp held fuel 22 cs = some (d, p)) :
    ∃ (L : List Ln) (ao : Option Addr) (cap : Nat), cs = [.slice ao L.length cap] ∧ RLn W (.slice ao L.length cap) L ∧ (∀ i (h : i < L.length), -9223372036854775808 ≤ L[i].2 ∧ L[i].2 ≤ 9223372036854775807) ∧ wl L + L.length ≤ Rows.uptoBulk d := by
  have hce : Tryz.prog.cellsOf 45 = 2 := by kernel_rfl
  rcases DataW.trod_slice Tryz.underlying22 hf with ⟨hcs, hx⟩ | ⟨a, len0, cap0, elems, rest, n, _, hcs, hx, hb, hl, hm, hlen, hel, _, _⟩
  · subst hcs
    exact ⟨[], none, 0, rfl, .inl ⟨rfl, none, 0, rfl, fun _ => rfl⟩, fun i hi => by simp at hi, by simp [wl]⟩
  · rw [hce] at hel
    have each : ∀ j : Fin len0, ∃ q : Ln, (-9223372036854775808 ≤ q.2 ∧ q.2 ≤ 9223372036854775807) ∧ W.cell? ((a.add (j.1 * 2)).add 0) = some (.string q.1) ∧ W.cell? ((a.add (j.1 * 2)).add 1) = some (.int .i64 q.2) ∧ Rows.uptoBulk (elems[j.1]'(by have := j.2; omega)).1 = q.1.size + 3 := by
      intro j
      have h1 := hel j.1 j.2
      rw [List.getElem?_eq_getElem (by have := j.2; omega)] at h1
      obtain ⟨cs, hc, ht⟩ := Option.bind_eq_some_iff.1 h1
      obtain ⟨s, t, rfl, ht', hbk⟩ := line_cells ht
      have h2 := World.cells?_some hc
      exact ⟨(s, t), ht', by simpa using h2.2.2 0 (by omega), by simpa using h2.2.2 1 (by omega), hbk⟩
    obtain ⟨fn, hfn⟩ := Classical.axiomOfChoice each
    have hpl : (List.ofFn fn).length = len0 := List.length_ofFn
    refine ⟨List.ofFn fn, some a, cap0, by rw [hcs, hpl], ?_, fun i hi => ?_, ?_⟩
    · by_cases h0 : len0 = 0
      · subst h0
        exact .inl ⟨by simp, some a, cap0, by rw [hpl], fun e => by cases e⟩
      · have c00 := (hfn ⟨0, by omega⟩).2.1
        obtain ⟨b, off, spot⟩ := a
        have hspot : spot = none := by simpa [Addr.add] using World.cell?_spot c00
        subst hspot
        refine .inr ⟨b, off, cap0, rfl, ⟨by rw [hpl]; exact hl, hm⟩, fun j hj => ?_⟩
        rw [hpl] at hj
        obtain ⟨_, k1, k2, _⟩ := hfn ⟨j, hj⟩
        rw [Addr.add_lit, Addr.add_lit] at k1 k2
        rw [List.getElem_ofFn]
        exact ⟨k1, k2⟩
    · rw [hpl] at hi
      rw [List.getElem_ofFn]
      exact (hfn ⟨i, hi⟩).1
    · have hd := congrArg Prod.fst hx
      simp only at hd
      rw [hd]
      simp only [Rows.uptoBulk]
      rw [bulk_sum, List.map_map]
      have key := sum_ofFn elems hlen (fun j => (fn j).1.size + 3) (fun x => Rows.uptoBulk x.1) (fun j => by rw [(hfn j).2.2.2]; exact Nat.le_refl _)
      have e1 := wl_ofFn fn
      rw [e1]
      have e2 : (elems.map (Rows.uptoBulk ∘ fun x => x.1)).sum = (elems.map fun x => Rows.uptoBulk x.1).sum := rfl
      rw [e2]
      omega
theorem request_open {H : Type} {enc : TypeId × Value → H} {W : World} {base b2 : Nat} {sp : Nat → Bool} {held : Bool} {v : Value} {d : DataW H} {p : List MemPlace} (hv : Value.okWide Tryz.prog W .any base 24 v) (h : ∃ fuel, DataW.trod enc Tryz.prog W b2 sp held fuel 24 v.cells.toList = some (d, p)) :
    ∃ (r : Rq) (ao : Option Addr) (cap : Nat), v = rqV r ao cap ∧ RLn W (.slice ao r.lines.length cap) r.lines ∧ (-9223372036854775808 ≤ r.kind ∧ r.kind ≤ 9223372036854775807) ∧ (-9223372036854775808 ≤ r.ttl ∧ r.ttl ≤ 9223372036854775807) ∧ (-9223372036854775808 ≤ r.now ∧ r.now ≤ 9223372036854775807) ∧ (∀ i (h : i < r.lines.length), -9223372036854775808 ≤ r.lines[i].2 ∧ r.lines[i].2 ≤ 9223372036854775807) ∧ r.id.size + r.hold.size + wl r.lines + r.lines.length ≤ Rows.uptoBulk d := by
  obtain ⟨cs, rfl, hsz⟩ := okWide_struct Tryz.underlying24 hv
  obtain ⟨fuel, hf⟩ := h
  obtain ⟨f0, f1, f2, f3, f4, f5, hst, h0, h1, h2, h3, h4, h5⟩ : ∃ f0 f1 f2 f3 f4 f5 : Field, Tryz.prog.underlying 24 = some (.struct #[f0, f1, f2, f3, f4, f5]) ∧ (f0.type = 9 ∧ f0.offset = 0) ∧ (f1.type = 3 ∧ f1.offset = 1) ∧ (f2.type = 22 ∧ f2.offset = 2) ∧ (f3.type = 9 ∧ f3.offset = 3) ∧ (f4.type = 3 ∧ f4.offset = 4) ∧ (f5.type = 3 ∧ f5.offset = 5) := ⟨_, _, _, _, _, _, Tryz.underlying24, ⟨rfl, rfl⟩, ⟨rfl, rfl⟩, ⟨rfl, rfl⟩, ⟨rfl, rfl⟩, ⟨rfl, rfl⟩, ⟨rfl, rfl⟩⟩
  obtain ⟨xs, n, _, hx, hl, hlen, hfl⟩ := DataW.trod_struct hst hf
  have hc : Tryz.prog.cellsOf 9 = 1 := by kernel_rfl
  have hci : Tryz.prog.cellsOf 3 = 1 := by kernel_rfl
  have hcl : Tryz.prog.cellsOf 22 = 1 := by kernel_rfl
  have hc6 : Tryz.prog.cellsOf 24 = 6 := by kernel_rfl
  have ecs : (Value.agg cs).cells.toList = cs.toList := by simp [Value.cells]
  rw [ecs] at hl hfl
  rw [hc6] at hl
  match xs, hlen with
  | [y0, y1, y2, y3, y4, y5], _ =>
    have g0 := hfl 0 f0 rfl
    have g1 := hfl 1 f1 rfl
    have g2 := hfl 2 f2 rfl
    have g3 := hfl 3 f3 rfl
    have g4 := hfl 4 f4 rfl
    have g5 := hfl 5 f5 rfl
    simp only [List.getElem?_cons_zero, List.getElem?_cons_succ] at g0 g1 g2 g3 g4 g5
    rw [h0.1, h0.2, hc] at g0
    rw [h1.1, h1.2, hci] at g1
    rw [h2.1, h2.2, hcl] at g2
    rw [h3.1, h3.2, hc] at g3
    rw [h4.1, h4.2, hci] at g4
    rw [h5.1, h5.2, hci] at g5
    obtain ⟨a, e0, rfl, _⟩ := DataW.trod_string Tryz.underlying9 g0
    obtain ⟨k, e1, rfl, hk⟩ := DataW.trod_int Tryz.underlying3 g1
    obtain ⟨z2, q2⟩ := y2
    obtain ⟨L, ao, cap, e2, hL, hLb, hw⟩ := lines_open g2
    obtain ⟨b, e3, rfl, _⟩ := DataW.trod_string Tryz.underlying9 g3
    obtain ⟨t, e4, rfl, ht⟩ := DataW.trod_int Tryz.underlying3 g4
    obtain ⟨m, e5, rfl, hm⟩ := DataW.trod_int Tryz.underlying3 g5
    have bk := bounds_i64 hk
    have bt := bounds_i64 ht
    have bm := bounds_i64 hm
    obtain ⟨cl⟩ := cs
    match cl, hl with
    | [u0, u1, u2, u3, u4, u5], _ =>
      simp at e0 e1 e2 e3 e4 e5
      subst e0 e1 e2 e3 e4 e5
      refine ⟨⟨a, k, L, b, t, m⟩, ao, cap, rfl, hL, ⟨bk.1, by show k ≤ _; omega⟩, ⟨bt.1, by show t ≤ _; omega⟩, ⟨bm.1, by show m ≤ _; omega⟩, hLb, ?_⟩
      have hd := congrArg Prod.fst hx
      simp only [List.map_cons, List.map_nil] at hd
      rw [hd]
      have ea : a.data.toList.length = a.size := rfl
      have eb : b.data.toList.length = b.size := rfl
      simp only [Rows.uptoBulk, Rows.uptoBulkAll]
      show a.size + b.size + wl L + L.length ≤ _
      omega
theorem wl_mem {L : List Ln} {y : Ln} (h : y ∈ L) : y.1.size ≤ wl L := by
  induction L with
  | nil => simp at h
  | cons x t ih =>
    have e : wl (x :: t) = 2 + x.1.size + wl t := by simp [wl]
    rcases List.mem_cons.1 h with rfl | h
    · omega
    · have := ih h; omega
end Go.Proofs.YtebkagmlhmdckaaGreat
