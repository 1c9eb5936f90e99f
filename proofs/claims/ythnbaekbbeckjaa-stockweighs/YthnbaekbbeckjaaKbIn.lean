/-
  Requests and states that came in, and how much they are. Laid by mkkb1.py.
-/
import Derived.Test.YthnbaekbbeckjaaKb1
import Derived.ChangeSame
import Derived.ChangeArms
import Derived.SizedLaws
import Derived.Deep.Strs
namespace Go.Proofs.Ythnbaekbbeckjaa
open Go.ChangeShapes Go.WideShapes Go.ChangeAt Go.RowKit
set_option maxRecDepth 100000

theorem bulk_one {H : Type} (d : DataW H) : 1 ≤ Rows.uptoBulk d := by
  cases d with
  | lit l => cases l <;> simp [Rows.uptoBulk]
  | nil => simp [Rows.uptoBulk]
  | ptr d => simp [Rows.uptoBulk]
  | slice elems spare => simp [Rows.uptoBulk]
  | agg parts => simp [Rows.uptoBulk]
  | iface t d => simp [Rows.uptoBulk]
  | map entries => simp [Rows.uptoBulk]
  | held h => simp [Rows.uptoBulk]
theorem bulk_len {H : Type} (l : List (DataW H)) : l.length ≤ Rows.uptoBulkAll l := by
  induction l with
  | nil => simp [Rows.uptoBulkAll]
  | cons x r ih => have := bulk_one x; simp only [Rows.uptoBulkAll, List.length_cons]; omega
theorem line_cells {H : Type} {enc : TypeId × Value → H} {W : World} {b2 : Nat} {sp : Nat → Bool} {held : Bool} {fuel : Nat} {cs : List Value} {x : DataW H × List MemPlace} (h : DataW.trod enc Try.prog W b2 sp held fuel 49 cs = some x) :
    ∃ (s : ByteArray) (t : Int), cs = [.string s, .int .i64 t] ∧ (-9223372036854775808 ≤ t ∧ t ≤ 9223372036854775807) ∧ Rows.uptoBulk x.1 = s.size + 3 := by
  obtain ⟨f0, f1, hst, h0, h1⟩ : ∃ f0 f1 : Field, Try.prog.underlying 49 = some (.struct #[f0, f1]) ∧ (f0.type = 9 ∧ f0.offset = 0) ∧ (f1.type = 3 ∧ f1.offset = 1) := ⟨_, _, Try.underlying49, ⟨rfl, rfl⟩, ⟨rfl, rfl⟩⟩
  obtain ⟨y0, y1, n, rfl, hlen, g0, g1⟩ := trod_struct2 hst h
  have hc : Try.prog.cellsOf 9 = 1 := by kernel_rfl
  have hci : Try.prog.cellsOf 3 = 1 := by kernel_rfl
  have hc2 : Try.prog.cellsOf 49 = 2 := by kernel_rfl
  rw [h0.1, h0.2, hc] at g0
  rw [h1.1, h1.2, hci] at g1
  obtain ⟨a, e0, rfl, ha⟩ := DataW.trod_string Try.underlying9 g0
  obtain ⟨t, e1, rfl, ht⟩ := DataW.trod_int Try.underlying3 g1
  have hb := bounds_i64 ht
  rw [hc2] at hlen
  match cs, hlen with
  | [u0, u1], _ =>
    simp at e0 e1
    subst e0 e1
    refine ⟨a, t, rfl, ⟨hb.1, by omega⟩, ?_⟩
    have e : a.data.toList.length = a.size := rfl
    simp only [Rows.uptoBulk, Rows.uptoBulkAll]
    omega
theorem sum_ofFn {n : Nat} {α : Type} (es : List α) (hn : es.length = n) (f : Fin n → Nat) (g : α → Nat) (h : ∀ j : Fin n, f j ≤ g (es[j.1]'(by rw [hn]; exact j.2))) : (List.ofFn f).sum ≤ (es.map g).sum := by
  induction es generalizing n with
  | nil => subst hn; simp
  | cons x t ih =>
    subst hn
    rw [List.ofFn_succ, List.sum_cons, List.map_cons, List.sum_cons]
    have h0 := h ⟨0, by simp⟩
    have := ih rfl (fun j => f j.succ) (fun j => by simpa using h j.succ)
    simp at h0
    omega
theorem wl_ofFn {n : Nat} (fn : Fin n → Ln) : wl (List.ofFn fn) + (List.ofFn fn).length = (List.ofFn fun j => (fn j).1.size + 3).sum := by
  unfold wl
  induction n with
  | zero => simp
  | succ m ih =>
    have := ih (fun j => fn j.succ)
    rw [List.ofFn_succ, List.map_cons, List.sum_cons, List.length_cons, List.ofFn_succ, List.sum_cons]
    omega
theorem bulk_sum {H : Type} (l : List (DataW H)) : Rows.uptoBulkAll l = (l.map Rows.uptoBulk).sum := by
  induction l with
  | nil => simp [Rows.uptoBulkAll]
  | cons x r ih => simp only [Rows.uptoBulkAll, List.map_cons, List.sum_cons, ih]
theorem lines_open {H : Type} {enc : TypeId × Value → H} {W : World} {b2 : Nat} {sp : Nat → Bool} {held : Bool} {fuel : Nat} {cs : List Value} {d : DataW H} {p : List MemPlace} (hf : DataW.trod enc Try.prog W b2 sp held fuel 27 cs = some (d, p)) :
    ∃ (L : List Ln) (ao : Option Addr) (cap : Nat), cs = [.slice ao L.length cap] ∧ RLn W (.slice ao L.length cap) L ∧ (∀ i (h : i < L.length), -9223372036854775808 ≤ L[i].2 ∧ L[i].2 ≤ 9223372036854775807) ∧ wl L + L.length ≤ Rows.uptoBulk d := by
  have hce : Try.prog.cellsOf 49 = 2 := by kernel_rfl
  rcases DataW.trod_slice Try.underlying27 hf with ⟨hcs, hx⟩ | ⟨a, len0, cap0, elems, rest, n, _, hcs, hx, hb, hl, hm, hlen, hel, _, _⟩
  · subst hcs
    exact ⟨[], none, 0, rfl, .inl ⟨rfl, none, 0, rfl, fun _ => rfl⟩, fun i hi => by simp at hi, by simp [wl]⟩
  · rw [hce] at hel
    have each : ∀ j : Fin len0, ∃ q : Ln, (-9223372036854775808 ≤ q.2 ∧ q.2 ≤ 9223372036854775807) ∧ W.cell? ((a.add (j.1 * 2)).add 0) = some (.string q.1) ∧ W.cell? ((a.add (j.1 * 2)).add 1) = some (.int .i64 q.2) ∧ Rows.uptoBulk (elems[j.1]'(by have := j.2; omega)).1 = q.1.size + 3 := by
      intro j
      have h1 := hel j.1 j.2
      rw [List.getElem?_eq_getElem (by have := j.2; omega)] at h1
      obtain ⟨cs, hc, ht⟩ := Option.bind_eq_some_iff.1 h1
      obtain ⟨s, t, rfl, ht', hbk⟩ := line_cells ht
      have h2 := World.cells?_some hc
      exact ⟨(s, t), ht', by simpa using h2.2.2 0 (by omega), by simpa using h2.2.2 1 (by omega), hbk⟩
    obtain ⟨fn, hfn⟩ := Classical.axiomOfChoice each
    have hpl : (List.ofFn fn).length = len0 := List.length_ofFn
    refine ⟨List.ofFn fn, some a, cap0, by rw [hcs, hpl], ?_, fun i hi => ?_, ?_⟩
    · by_cases h0 : len0 = 0
      · subst h0
        exact .inl ⟨by simp, some a, cap0, by rw [hpl], fun e => by cases e⟩
      · have c00 := (hfn ⟨0, by omega⟩).2.1
        obtain ⟨b, off, spot⟩ := a
        have hspot : spot = none := by simpa [Addr.add] using World.cell?_spot c00
        subst hspot
        refine .inr ⟨b, off, cap0, rfl, ⟨by rw [hpl]; exact hl, hm⟩, fun j hj => ?_⟩
        rw [hpl] at hj
        obtain ⟨_, k1, k2, _⟩ := hfn ⟨j, hj⟩
        rw [Addr.add_lit, Addr.add_lit] at k1 k2
        rw [List.getElem_ofFn]
        exact ⟨k1, k2⟩
    · rw [hpl] at hi
      rw [List.getElem_ofFn]
      exact (hfn ⟨i, hi⟩).1
    · have hd := congrArg Prod.fst hx
      simp only at hd
      rw [hd]
      simp only [Rows.uptoBulk]
      rw [bulk_sum, List.map_map]
      have key := sum_ofFn elems hlen (fun j => (fn j).1.size + 3) (fun x => Rows.uptoBulk x.1) (fun j => by rw [(hfn j).2.2.2]; exact Nat.le_refl _)
      have e1 := wl_ofFn fn
      rw [e1]
      have e2 : (elems.map (Rows.uptoBulk ∘ fun x => x.1)).sum = (elems.map fun x => Rows.uptoBulk x.1).sum := rfl
      rw [e2]
      omega
theorem request_open {H : Type} {enc : TypeId × Value → H} {W : World} {base b2 : Nat} {sp : Nat → Bool} {held : Bool} {v : Value} {d : DataW H} {p : List MemPlace} (hv : Value.okWide Try.prog W .any base 29 v) (h : ∃ fuel, DataW.trod enc Try.prog W b2 sp held fuel 29 v.cells.toList = some (d, p)) :
    ∃ (r : Rq) (ao : Option Addr) (cap : Nat), v = rqV r ao cap ∧ RLn W (.slice ao r.lines.length cap) r.lines ∧ (-9223372036854775808 ≤ r.kind ∧ r.kind ≤ 9223372036854775807) ∧ (-9223372036854775808 ≤ r.ttl ∧ r.ttl ≤ 9223372036854775807) ∧ (-9223372036854775808 ≤ r.now ∧ r.now ≤ 9223372036854775807) ∧ (∀ i (h : i < r.lines.length), -9223372036854775808 ≤ r.lines[i].2 ∧ r.lines[i].2 ≤ 9223372036854775807) ∧ r.id.size + r.hold.size + wl r.lines + r.lines.length ≤ Rows.uptoBulk d := by
  obtain ⟨cs, rfl, hsz⟩ := okWide_struct Try.underlying29 hv
  obtain ⟨fuel, hf⟩ := h
  obtain ⟨f0, f1, f2, f3, f4, f5, hst, h0, h1, h2, h3, h4, h5⟩ : ∃ f0 f1 f2 f3 f4 f5 : Field, Try.prog.underlying 29 = some (.struct #[f0, f1, f2, f3, f4, f5]) ∧ (f0.type = 9 ∧ f0.offset = 0) ∧ (f1.type = 3 ∧ f1.offset = 1) ∧ (f2.type = 27 ∧ f2.offset = 2) ∧ (f3.type = 9 ∧ f3.offset = 3) ∧ (f4.type = 3 ∧ f4.offset = 4) ∧ (f5.type = 3 ∧ f5.offset = 5) := ⟨_, _, _, _, _, _, Try.underlying29, ⟨rfl, rfl⟩, ⟨rfl, rfl⟩, ⟨rfl, rfl⟩, ⟨rfl, rfl⟩, ⟨rfl, rfl⟩, ⟨rfl, rfl⟩⟩
  obtain ⟨xs, n, _, hx, hl, hlen, hfl⟩ := DataW.trod_struct hst hf
  have hc : Try.prog.cellsOf 9 = 1 := by kernel_rfl
  have hci : Try.prog.cellsOf 3 = 1 := by kernel_rfl
  have hcl : Try.prog.cellsOf 27 = 1 := by kernel_rfl
  have hc6 : Try.prog.cellsOf 29 = 6 := by kernel_rfl
  have ecs : (Value.agg cs).cells.toList = cs.toList := by simp [Value.cells]
  rw [ecs] at hl hfl
  rw [hc6] at hl
  match xs, hlen with
  | [y0, y1, y2, y3, y4, y5], _ =>
    have g0 := hfl 0 f0 rfl
    have g1 := hfl 1 f1 rfl
    have g2 := hfl 2 f2 rfl
    have g3 := hfl 3 f3 rfl
    have g4 := hfl 4 f4 rfl
    have g5 := hfl 5 f5 rfl
    simp only [List.getElem?_cons_zero, List.getElem?_cons_succ] at g0 g1 g2 g3 g4 g5
    rw [h0.1, h0.2, hc] at g0
    rw [h1.1, h1.2, hci] at g1
    rw [h2.1, h2.2, hcl] at g2
    rw [h3.1, h3.2, hc] at g3
    rw [h4.1, h4.2, hci] at g4
    rw [h5.1, h5.2, hci] at g5
    obtain ⟨a, e0, rfl, _⟩ := DataW.trod_string Try.underlying9 g0
    obtain ⟨k, e1, rfl, hk⟩ := DataW.trod_int Try.underlying3 g1
    obtain ⟨z2, q2⟩ := y2
    obtain ⟨L, ao, cap, e2, hL, hLb, hw⟩ := lines_open g2
    obtain ⟨b, e3, rfl, _⟩ := DataW.trod_string Try.underlying9 g3
    obtain ⟨t, e4, rfl, ht⟩ := DataW.trod_int Try.underlying3 g4
    obtain ⟨m, e5, rfl, hm⟩ := DataW.trod_int Try.underlying3 g5
    have bk := bounds_i64 hk
    have bt := bounds_i64 ht
    have bm := bounds_i64 hm
    obtain ⟨cl⟩ := cs
    match cl, hl with
    | [u0, u1, u2, u3, u4, u5], _ =>
      simp at e0 e1 e2 e3 e4 e5
      subst e0 e1 e2 e3 e4 e5
      refine ⟨⟨a, k, L, b, t, m⟩, ao, cap, rfl, hL, ⟨bk.1, by show k ≤ _; omega⟩, ⟨bt.1, by show t ≤ _; omega⟩, ⟨bm.1, by show m ≤ _; omega⟩, hLb, ?_⟩
      have hd := congrArg Prod.fst hx
      simp only [List.map_cons, List.map_nil] at hd
      rw [hd]
      have ea : a.data.toList.length = a.size := rfl
      have eb : b.data.toList.length = b.size := rfl
      simp only [Rows.uptoBulk, Rows.uptoBulkAll]
      show a.size + b.size + wl L + L.length ≤ _
      omega
theorem level_cells {H : Type} {enc : TypeId × Value → H} {W : World} {b2 : Nat} {sp : Nat → Bool} {held : Bool} {fuel : Nat} {cs : List Value} {x : DataW H × List MemPlace} (h : DataW.trod enc Try.prog W b2 sp held fuel 40 cs = some x) :
    ∃ (s : ByteArray) (t t2 : Int), cs = [.string s, .int .i64 t, .int .i64 t2] ∧ ((-9223372036854775808 ≤ t ∧ t ≤ 9223372036854775807) ∧ -9223372036854775808 ≤ t2 ∧ t2 ≤ 9223372036854775807) ∧ Rows.uptoBulk x.1 = s.size + 4 := by
  obtain ⟨f0, f1, f2, hst, h0, h1, h2⟩ : ∃ f0 f1 f2 : Field, Try.prog.underlying 40 = some (.struct #[f0, f1, f2]) ∧ (f0.type = 9 ∧ f0.offset = 0) ∧ (f1.type = 3 ∧ f1.offset = 1) ∧ (f2.type = 3 ∧ f2.offset = 2) := ⟨_, _, _, Try.underlying40, ⟨rfl, rfl⟩, ⟨rfl, rfl⟩, ⟨rfl, rfl⟩⟩
  obtain ⟨xs, n, _, hx, hl, hlen, hfl⟩ := DataW.trod_struct hst h
  have hc : Try.prog.cellsOf 9 = 1 := by kernel_rfl
  have hci : Try.prog.cellsOf 3 = 1 := by kernel_rfl
  have hc3 : Try.prog.cellsOf 40 = 3 := by kernel_rfl
  rw [hc3] at hl
  match xs, hlen with
  | [y0, y1, y2], _ =>
    have g0 := hfl 0 f0 rfl
    have g1 := hfl 1 f1 rfl
    have g2 := hfl 2 f2 rfl
    simp only [List.getElem?_cons_zero, List.getElem?_cons_succ] at g0 g1 g2
    rw [h0.1, h0.2, hc] at g0
    rw [h1.1, h1.2, hci] at g1
    rw [h2.1, h2.2, hci] at g2
    obtain ⟨a, e0, rfl, _⟩ := DataW.trod_string Try.underlying9 g0
    obtain ⟨t, e1, rfl, ht⟩ := DataW.trod_int Try.underlying3 g1
    obtain ⟨t2, e2, rfl, ht2⟩ := DataW.trod_int Try.underlying3 g2
    have bt := bounds_i64 ht
    have bt2 := bounds_i64 ht2
    match cs, hl with
    | [u0, u1, u2], _ =>
      simp at e0 e1 e2
      subst e0 e1 e2
      refine ⟨a, t, t2, rfl, ⟨⟨bt.1, by omega⟩, bt2.1, by omega⟩, ?_⟩
      have hd := congrArg Prod.fst hx
      simp only [List.map_cons, List.map_nil] at hd
      rw [hd]
      have e : a.data.toList.length = a.size := rfl
      simp only [Rows.uptoBulk, Rows.uptoBulkAll]
      omega
theorem wv_ofFn {n : Nat} (fn : Fin n → Lv) : wv (List.ofFn fn) + (List.ofFn fn).length = (List.ofFn fun j => (fn j).1.size + 4).sum := by
  unfold wv
  induction n with
  | zero => simp
  | succ m ih =>
    have := ih (fun j => fn j.succ)
    rw [List.ofFn_succ, List.map_cons, List.sum_cons, List.length_cons, List.ofFn_succ, List.sum_cons]
    omega
theorem levels_open {H : Type} {enc : TypeId × Value → H} {W : World} {b2 : Nat} {sp : Nat → Bool} {held : Bool} {fuel : Nat} {cs : List Value} {d : DataW H} {p : List MemPlace} (hf : DataW.trod enc Try.prog W b2 sp held fuel 22 cs = some (d, p)) :
    ∃ (L : List Lv) (ao : Option Addr) (cap : Nat), cs = [.slice ao L.length cap] ∧ RLv W (.slice ao L.length cap) L ∧ (∀ i (h : i < L.length), (-9223372036854775808 ≤ L[i].2.1 ∧ L[i].2.1 ≤ 9223372036854775807) ∧ -9223372036854775808 ≤ L[i].2.2 ∧ L[i].2.2 ≤ 9223372036854775807) ∧ wv L + L.length ≤ Rows.uptoBulk d := by
  have hce : Try.prog.cellsOf 40 = 3 := by kernel_rfl
  rcases DataW.trod_slice Try.underlying22 hf with ⟨hcs, hx⟩ | ⟨a, len0, cap0, elems, rest, n, _, hcs, hx, hb, hl, hm, hlen, hel, _, _⟩
  · subst hcs
    exact ⟨[], none, 0, rfl, .inl ⟨rfl, none, 0, rfl, fun _ => rfl⟩, fun i hi => by simp at hi, by simp [wv]⟩
  · rw [hce] at hel
    have each : ∀ j : Fin len0, ∃ q : Lv, ((-9223372036854775808 ≤ q.2.1 ∧ q.2.1 ≤ 9223372036854775807) ∧ -9223372036854775808 ≤ q.2.2 ∧ q.2.2 ≤ 9223372036854775807) ∧ W.cell? ((a.add (j.1 * 3)).add 0) = some (.string q.1) ∧ W.cell? ((a.add (j.1 * 3)).add 1) = some (.int .i64 q.2.1) ∧ W.cell? ((a.add (j.1 * 3)).add 2) = some (.int .i64 q.2.2) ∧ Rows.uptoBulk (elems[j.1]'(by have := j.2; omega)).1 = q.1.size + 4 := by
      intro j
      have h1 := hel j.1 j.2
      rw [List.getElem?_eq_getElem (by have := j.2; omega)] at h1
      obtain ⟨cs, hc, ht⟩ := Option.bind_eq_some_iff.1 h1
      obtain ⟨s, t, t2, rfl, ht', hbk⟩ := level_cells ht
      have h2 := World.cells?_some hc
      exact ⟨(s, t, t2), ht', by simpa using h2.2.2 0 (by omega), by simpa using h2.2.2 1 (by omega), by simpa using h2.2.2 2 (by omega), hbk⟩
    obtain ⟨fn, hfn⟩ := Classical.axiomOfChoice each
    have hpl : (List.ofFn fn).length = len0 := List.length_ofFn
    refine ⟨List.ofFn fn, some a, cap0, by rw [hcs, hpl], ?_, fun i hi => ?_, ?_⟩
    · by_cases h0 : len0 = 0
      · subst h0
        exact .inl ⟨by simp, some a, cap0, by rw [hpl], fun e => by cases e⟩
      · have c00 := (hfn ⟨0, by omega⟩).2.1
        obtain ⟨b, off, spot⟩ := a
        have hspot : spot = none := by simpa [Addr.add] using World.cell?_spot c00
        subst hspot
        refine .inr ⟨b, off, cap0, rfl, ⟨by rw [hpl]; exact hl, hm⟩, fun j hj => ?_⟩
        rw [hpl] at hj
        obtain ⟨_, k1, k2, k3, _⟩ := hfn ⟨j, hj⟩
        rw [Addr.add_lit, Addr.add_lit] at k1 k2 k3
        rw [List.getElem_ofFn]
        exact ⟨k1, k2, k3⟩
    · rw [hpl] at hi
      rw [List.getElem_ofFn]
      exact (hfn ⟨i, hi⟩).1
    · have hd := congrArg Prod.fst hx
      simp only at hd
      rw [hd]
      simp only [Rows.uptoBulk]
      rw [bulk_sum, List.map_map]
      have key := sum_ofFn elems hlen (fun j => (fn j).1.size + 4) (fun x => Rows.uptoBulk x.1) (fun j => by rw [(hfn j).2.2.2.2]; exact Nat.le_refl _)
      have e1 := wv_ofFn fn
      rw [e1]
      have e2 : (elems.map (Rows.uptoBulk ∘ fun x => x.1)).sum = (elems.map fun x => Rows.uptoBulk x.1).sum := rfl
      rw [e2]
      omega
/-- a line's number may be -/
def LnI (L : List Ln) : Prop := ∀ i (h : i < L.length), -9223372036854775808 ≤ L[i].2 ∧ L[i].2 ≤ 9223372036854775807
/-- a request's numbers may be -/
def RqI (r : Rq) : Prop := I64 r.kind ∧ I64 r.ttl ∧ I64 r.now ∧ LnI r.lines
/-- a hold's, something done's -/
def HlI (x : Hl) : Prop := I64 x.dead ∧ LnI x.lines
def DnI (x : Dn) : Prop := I64 x.at' ∧ RqI x.req
theorem hold_cells {H : Type} {enc : TypeId × Value → H} {W : World} {b2 : Nat} {sp : Nat → Bool} {held : Bool} {fuel : Nat} {cs : List Value} {x : DataW H × List MemPlace} (h : DataW.trod enc Try.prog W b2 sp held fuel 42 cs = some x) :
    ∃ (q : Hl) (a : Option Addr) (p : Nat), cs = [.string q.id, .slice a q.lines.length p, .int .i64 q.dead] ∧ RLn W (.slice a q.lines.length p) q.lines ∧ HlI q ∧ 3 + q.id.size + wl q.lines ≤ Rows.uptoBulk x.1 := by
  obtain ⟨f0, f1, f2, hst, h0, h1, h2⟩ : ∃ f0 f1 f2 : Field, Try.prog.underlying 42 = some (.struct #[f0, f1, f2]) ∧ (f0.type = 9 ∧ f0.offset = 0) ∧ (f1.type = 27 ∧ f1.offset = 1) ∧ (f2.type = 3 ∧ f2.offset = 2) := ⟨_, _, _, Try.underlying42, ⟨rfl, rfl⟩, ⟨rfl, rfl⟩, ⟨rfl, rfl⟩⟩
  obtain ⟨xs, n, _, hx, hl, hlen, hfl⟩ := DataW.trod_struct hst h
  have kcs : Try.prog.cellsOf 9 = 1 := by kernel_rfl
  have kcl : Try.prog.cellsOf 27 = 1 := by kernel_rfl
  have kci : Try.prog.cellsOf 3 = 1 := by kernel_rfl
  have cT : Try.prog.cellsOf 42 = 3 := by kernel_rfl
  rw [cT] at hl
  match xs, hlen with
  | [y0, y1, y2], _ =>
    have g0 := hfl 0 f0 rfl
    have g1 := hfl 1 f1 rfl
    have g2 := hfl 2 f2 rfl
    simp only [List.getElem?_cons_zero, List.getElem?_cons_succ] at g0 g1 g2
    rw [h0.1, h0.2, kcs] at g0
    rw [h1.1, h1.2, kcl] at g1
    rw [h2.1, h2.2, kci] at g2
    obtain ⟨a, e0, rfl, _⟩ := DataW.trod_string Try.underlying9 g0
    obtain ⟨z1, q1⟩ := y1
    obtain ⟨L, ao, cap, e1, hL, hLb, hw⟩ := lines_open g1
    obtain ⟨t, e2, rfl, ht⟩ := DataW.trod_int Try.underlying3 g2
    have bt := bounds_i64 ht
    match cs, hl with
    | [u0, u1, u2], _ =>
      simp at e0 e1 e2
      subst e0 e1 e2
      refine ⟨⟨a, L, t⟩, ao, cap, rfl, hL, ⟨⟨bt.1, by show t ≤ _; omega⟩, hLb⟩, ?_⟩
      have hd := congrArg Prod.fst hx
      simp only [List.map_cons, List.map_nil] at hd
      rw [hd]
      have e : a.data.toList.length = a.size := rfl
      simp only [Rows.uptoBulk, Rows.uptoBulkAll]
      show 3 + a.size + wl L ≤ _
      omega
theorem request_cells {H : Type} {enc : TypeId × Value → H} {W : World} {b2 : Nat} {sp : Nat → Bool} {held : Bool} {fuel : Nat} {cs : List Value} {x : DataW H × List MemPlace} (h : DataW.trod enc Try.prog W b2 sp held fuel 29 cs = some x) :
    ∃ (r : Rq) (a : Option Addr) (p : Nat), cs = [.string r.id, .int .i64 r.kind, .slice a r.lines.length p, .string r.hold, .int .i64 r.ttl, .int .i64 r.now] ∧ RLn W (.slice a r.lines.length p) r.lines ∧ RqI r ∧ 6 + r.id.size + r.hold.size + wl r.lines ≤ Rows.uptoBulk x.1 := by
  obtain ⟨f0, f1, f2, f3, f4, f5, hst, h0, h1, h2, h3, h4, h5⟩ : ∃ f0 f1 f2 f3 f4 f5 : Field, Try.prog.underlying 29 = some (.struct #[f0, f1, f2, f3, f4, f5]) ∧ (f0.type = 9 ∧ f0.offset = 0) ∧ (f1.type = 3 ∧ f1.offset = 1) ∧ (f2.type = 27 ∧ f2.offset = 2) ∧ (f3.type = 9 ∧ f3.offset = 3) ∧ (f4.type = 3 ∧ f4.offset = 4) ∧ (f5.type = 3 ∧ f5.offset = 5) := ⟨_, _, _, _, _, _, Try.underlying29, ⟨rfl, rfl⟩, ⟨rfl, rfl⟩, ⟨rfl, rfl⟩, ⟨rfl, rfl⟩, ⟨rfl, rfl⟩, ⟨rfl, rfl⟩⟩
  obtain ⟨xs, n, _, hx, hl, hlen, hfl⟩ := DataW.trod_struct hst h
  have kcs : Try.prog.cellsOf 9 = 1 := by kernel_rfl
  have kci : Try.prog.cellsOf 3 = 1 := by kernel_rfl
  have kcl : Try.prog.cellsOf 27 = 1 := by kernel_rfl
  have cT : Try.prog.cellsOf 29 = 6 := by kernel_rfl
  rw [cT] at hl
  match xs, hlen with
  | [y0, y1, y2, y3, y4, y5], _ =>
    have g0 := hfl 0 f0 rfl
    have g1 := hfl 1 f1 rfl
    have g2 := hfl 2 f2 rfl
    have g3 := hfl 3 f3 rfl
    have g4 := hfl 4 f4 rfl
    have g5 := hfl 5 f5 rfl
    simp only [List.getElem?_cons_zero, List.getElem?_cons_succ] at g0 g1 g2 g3 g4 g5
    rw [h0.1, h0.2, kcs] at g0
    rw [h1.1, h1.2, kci] at g1
    rw [h2.1, h2.2, kcl] at g2
    rw [h3.1, h3.2, kcs] at g3
    rw [h4.1, h4.2, kci] at g4
    rw [h5.1, h5.2, kci] at g5
    obtain ⟨a, e0, rfl, _⟩ := DataW.trod_string Try.underlying9 g0
    obtain ⟨k, e1, rfl, hk⟩ := DataW.trod_int Try.underlying3 g1
    obtain ⟨z2, q2⟩ := y2
    obtain ⟨L, ao, cap, e2, hL, hLb, hw⟩ := lines_open g2
    obtain ⟨b, e3, rfl, _⟩ := DataW.trod_string Try.underlying9 g3
    obtain ⟨t, e4, rfl, ht⟩ := DataW.trod_int Try.underlying3 g4
    obtain ⟨m, e5, rfl, hm⟩ := DataW.trod_int Try.underlying3 g5
    have bk := bounds_i64 hk
    have bt := bounds_i64 ht
    have bm := bounds_i64 hm
    match cs, hl with
    | [u0, u1, u2, u3, u4, u5], _ =>
      simp at e0 e1 e2 e3 e4 e5
      subst e0 e1 e2 e3 e4 e5
      refine ⟨⟨a, k, L, b, t, m⟩, ao, cap, rfl, hL, ⟨⟨bk.1, by show k ≤ _; omega⟩, ⟨bt.1, by show t ≤ _; omega⟩, ⟨bm.1, by show m ≤ _; omega⟩, hLb⟩, ?_⟩
      have hd := congrArg Prod.fst hx
      simp only [List.map_cons, List.map_nil] at hd
      rw [hd]
      have ea : a.data.toList.length = a.size := rfl
      have eb : b.data.toList.length = b.size := rfl
      simp only [Rows.uptoBulk, Rows.uptoBulkAll]
      show 6 + a.size + b.size + wl L ≤ _
      omega
theorem done_cells {H : Type} {enc : TypeId × Value → H} {W : World} {b2 : Nat} {sp : Nat → Bool} {held : Bool} {fuel : Nat} {cs : List Value} {x : DataW H × List MemPlace} (h : DataW.trod enc Try.prog W b2 sp held fuel 31 cs = some x) :
    ∃ (q : Dn) (a : Option Addr) (p : Nat), cs = [.string q.req.id, .int .i64 q.req.kind, .slice a q.req.lines.length p, .string q.req.hold, .int .i64 q.req.ttl, .int .i64 q.req.now, .int .i64 q.at'] ∧ RLn W (.slice a q.req.lines.length p) q.req.lines ∧ DnI q ∧ 7 + (q.req.id.size + q.req.hold.size + wl q.req.lines) ≤ Rows.uptoBulk x.1 := by
  obtain ⟨f0, f1, hst, h0, h1⟩ : ∃ f0 f1 : Field, Try.prog.underlying 31 = some (.struct #[f0, f1]) ∧ (f0.type = 29 ∧ f0.offset = 0) ∧ (f1.type = 3 ∧ f1.offset = 6) := ⟨_, _, Try.underlying31, ⟨rfl, rfl⟩, ⟨rfl, rfl⟩⟩
  obtain ⟨xs, n, _, hx, hl, hlen, hfl⟩ := DataW.trod_struct hst h
  have kcq : Try.prog.cellsOf 29 = 6 := by kernel_rfl
  have kci : Try.prog.cellsOf 3 = 1 := by kernel_rfl
  have cT : Try.prog.cellsOf 31 = 7 := by kernel_rfl
  rw [cT] at hl
  match xs, hlen with
  | [y0, y1], _ =>
    have g0 := hfl 0 f0 rfl
    have g1 := hfl 1 f1 rfl
    simp only [List.getElem?_cons_zero, List.getElem?_cons_succ] at g0 g1
    rw [h0.1, h0.2, kcq] at g0
    rw [h1.1, h1.2, kci] at g1
    obtain ⟨r, ao, cap, e0, hL, hI, hw⟩ := request_cells g0
    obtain ⟨t, e1, rfl, ht⟩ := DataW.trod_int Try.underlying3 g1
    have bt := bounds_i64 ht
    match cs, hl with
    | [u0, u1, u2, u3, u4, u5, u6], _ =>
      simp at e0 e1
      obtain ⟨rfl, rfl, rfl, rfl, rfl, rfl⟩ := e0
      subst e1
      refine ⟨⟨r, t⟩, ao, cap, rfl, hL, ⟨⟨bt.1, by show t ≤ _; omega⟩, hI⟩, ?_⟩
      have hd := congrArg Prod.fst hx
      simp only [List.map_cons, List.map_nil] at hd
      rw [hd]
      obtain ⟨y01, y02⟩ := y0
      simp only [Rows.uptoBulk, Rows.uptoBulkAll] at hw ⊢
      show 7 + (r.id.size + r.hold.size + wl r.lines) ≤ _
      omega
theorem wh_ofFn {n : Nat} (fn : Fin n → Hl) : wh (List.ofFn fn) = (List.ofFn fun j => 3 + (fn j).id.size + wl (fn j).lines).sum := by
  unfold wh
  induction n with
  | zero => simp
  | succ m ih =>
    have := ih (fun j => fn j.succ)
    rw [List.ofFn_succ, List.map_cons, List.sum_cons, List.ofFn_succ, List.sum_cons]
    omega
theorem holds_open {H : Type} {enc : TypeId × Value → H} {W : World} {b2 : Nat} {sp : Nat → Bool} {held : Bool} {fuel : Nat} {cs : List Value} {d : DataW H} {p : List MemPlace} (hf : DataW.trod enc Try.prog W b2 sp held fuel 23 cs = some (d, p)) :
    ∃ (L : List Hl) (ao : Option Addr) (cap : Nat), cs = [.slice ao L.length cap] ∧ RHl W ao L ∧ ((∀ x ∈ L, HlI x) ∧ L.length ≤ 9223372036854775807) ∧ wh L ≤ Rows.uptoBulk d := by
  have hce : Try.prog.cellsOf 42 = 3 := by kernel_rfl
  rcases DataW.trod_slice Try.underlying23 hf with ⟨hcs, hx⟩ | ⟨ad, len0, cap0, elems, rest, n, _, hcs, hx, hb, hl, hm, hlen, hel, _, _⟩
  · subst hcs
    exact ⟨[], none, 0, rfl, fun j hj => by simp at hj, ⟨fun x hx => by simp at hx, by simp⟩, by simp [wh]⟩
  · rw [hce] at hel
    have each : ∀ j : Fin len0, ∃ (q : Hl), (HlI q ∧ 3 + q.id.size + wl q.lines ≤ Rows.uptoBulk (elems[j.1]'(by have := j.2; omega)).1) ∧ ∃ (a : Option Addr) (p : Nat), RLn W (.slice a q.lines.length p) q.lines ∧ W.cell? ((ad.add (j.1 * 3)).add 0) = some (.string q.id) ∧ W.cell? ((ad.add (j.1 * 3)).add 1) = some (.slice a q.lines.length p) ∧ W.cell? ((ad.add (j.1 * 3)).add 2) = some (.int .i64 q.dead) := by
      intro j
      have h1 := hel j.1 j.2
      rw [List.getElem?_eq_getElem (by have := j.2; omega)] at h1
      obtain ⟨cs, hc, ht⟩ := Option.bind_eq_some_iff.1 h1
      obtain ⟨q, a, p, rfl, hR, hI, hbk⟩ := hold_cells ht
      have h2 := World.cells?_some hc
      exact ⟨q, ⟨hI, hbk⟩, a, p, hR, by simpa using h2.2.2 0 (by omega), by simpa using h2.2.2 1 (by omega), by simpa using h2.2.2 2 (by omega)⟩
    obtain ⟨fn, hfn⟩ := Classical.axiomOfChoice each
    have hpl : (List.ofFn fn).length = len0 := List.length_ofFn
    refine ⟨List.ofFn fn, some ad, cap0, by rw [hcs, hpl], fun j hj => ?_, ⟨fun x hx => ?_, by rw [hpl]; exact Nat.le_trans hl hm⟩, ?_⟩
    · rw [hpl] at hj
      obtain ⟨_, a, p, hR, k0, k1, k2⟩ := hfn ⟨j, hj⟩
      obtain ⟨_, _, _, _, c00, _⟩ := hfn ⟨0, by omega⟩
      obtain ⟨b, off, spot⟩ := ad
      have hspot : spot = none := by simpa [Addr.add] using World.cell?_spot c00
      subst hspot
      rw [Addr.add_lit, Addr.add_lit] at k0 k1 k2
      refine ⟨b, off, a, p, rfl, ?_⟩
      rw [List.getElem_ofFn]
      exact ⟨k0, k1, hR, k2⟩
    · obtain ⟨i, rfl⟩ := (List.mem_ofFn).1 hx
      exact (hfn i).1.1
    · have hd := congrArg Prod.fst hx
      simp only at hd
      rw [hd]
      simp only [Rows.uptoBulk]
      rw [bulk_sum, List.map_map]
      have key := sum_ofFn elems hlen (fun j => 3 + (fn j).id.size + wl (fn j).lines) (fun x => Rows.uptoBulk x.1) (fun j => (hfn j).1.2)
      rw [wh_ofFn fn]
      have e2 : (elems.map (Rows.uptoBulk ∘ fun x => x.1)).sum = (elems.map fun x => Rows.uptoBulk x.1).sum := rfl
      rw [e2]
      omega
theorem wd_ofFn {n : Nat} (fn : Fin n → Dn) : wd (List.ofFn fn) = (List.ofFn fun j => 7 + ((fn j).req.id.size + (fn j).req.hold.size + wl (fn j).req.lines)).sum := by
  unfold wd
  induction n with
  | zero => simp
  | succ m ih =>
    have := ih (fun j => fn j.succ)
    rw [List.ofFn_succ, List.map_cons, List.sum_cons, List.ofFn_succ, List.sum_cons]
    omega
theorem dones_open {H : Type} {enc : TypeId × Value → H} {W : World} {b2 : Nat} {sp : Nat → Bool} {held : Bool} {fuel : Nat} {cs : List Value} {d : DataW H} {p : List MemPlace} (hf : DataW.trod enc Try.prog W b2 sp held fuel 24 cs = some (d, p)) :
    ∃ (L : List Dn) (ao : Option Addr) (cap : Nat), cs = [.slice ao L.length cap] ∧ RDn W ao L ∧ ((∀ x ∈ L, DnI x) ∧ L.length ≤ 9223372036854775807) ∧ wd L ≤ Rows.uptoBulk d := by
  have hce : Try.prog.cellsOf 31 = 7 := by kernel_rfl
  rcases DataW.trod_slice Try.underlying24 hf with ⟨hcs, hx⟩ | ⟨ad, len0, cap0, elems, rest, n, _, hcs, hx, hb, hl, hm, hlen, hel, _, _⟩
  · subst hcs
    exact ⟨[], none, 0, rfl, fun j hj => by simp at hj, ⟨fun x hx => by simp at hx, by simp⟩, by simp [wd]⟩
  · rw [hce] at hel
    have each : ∀ j : Fin len0, ∃ (q : Dn), (DnI q ∧ 7 + (q.req.id.size + q.req.hold.size + wl q.req.lines) ≤ Rows.uptoBulk (elems[j.1]'(by have := j.2; omega)).1) ∧ ∃ (a : Option Addr) (p : Nat), RLn W (.slice a q.req.lines.length p) q.req.lines ∧ W.cell? ((ad.add (j.1 * 7)).add 0) = some (.string q.req.id) ∧ W.cell? ((ad.add (j.1 * 7)).add 1) = some (.int .i64 q.req.kind) ∧ W.cell? ((ad.add (j.1 * 7)).add 2) = some (.slice a q.req.lines.length p) ∧ W.cell? ((ad.add (j.1 * 7)).add 3) = some (.string q.req.hold) ∧ W.cell? ((ad.add (j.1 * 7)).add 4) = some (.int .i64 q.req.ttl) ∧ W.cell? ((ad.add (j.1 * 7)).add 5) = some (.int .i64 q.req.now) ∧ W.cell? ((ad.add (j.1 * 7)).add 6) = some (.int .i64 q.at') := by
      intro j
      have h1 := hel j.1 j.2
      rw [List.getElem?_eq_getElem (by have := j.2; omega)] at h1
      obtain ⟨cs, hc, ht⟩ := Option.bind_eq_some_iff.1 h1
      obtain ⟨q, a, p, rfl, hR, hI, hbk⟩ := done_cells ht
      have h2 := World.cells?_some hc
      exact ⟨q, ⟨hI, hbk⟩, a, p, hR, by simpa using h2.2.2 0 (by omega), by simpa using h2.2.2 1 (by omega), by simpa using h2.2.2 2 (by omega), by simpa using h2.2.2 3 (by omega), by simpa using h2.2.2 4 (by omega), by simpa using h2.2.2 5 (by omega), by simpa using h2.2.2 6 (by omega)⟩
    obtain ⟨fn, hfn⟩ := Classical.axiomOfChoice each
    have hpl : (List.ofFn fn).length = len0 := List.length_ofFn
    refine ⟨List.ofFn fn, some ad, cap0, by rw [hcs, hpl], fun j hj => ?_, ⟨fun x hx => ?_, by rw [hpl]; exact Nat.le_trans hl hm⟩, ?_⟩
    · rw [hpl] at hj
      obtain ⟨_, a, p, hR, k0, k1, k2, k3, k4, k5, k6⟩ := hfn ⟨j, hj⟩
      obtain ⟨_, _, _, _, c00, _⟩ := hfn ⟨0, by omega⟩
      obtain ⟨b, off, spot⟩ := ad
      have hspot : spot = none := by simpa [Addr.add] using World.cell?_spot c00
      subst hspot
      rw [Addr.add_lit, Addr.add_lit] at k0 k1 k2 k3 k4 k5 k6
      refine ⟨b, off, a, p, rfl, ?_⟩
      rw [List.getElem_ofFn]
      exact ⟨k0, k1, k2, hR, k3, k4, k5, k6⟩
    · obtain ⟨i, rfl⟩ := (List.mem_ofFn).1 hx
      exact (hfn i).1.1
    · have hd := congrArg Prod.fst hx
      simp only at hd
      rw [hd]
      simp only [Rows.uptoBulk]
      rw [bulk_sum, List.map_map]
      have key := sum_ofFn elems hlen (fun j => 7 + ((fn j).req.id.size + (fn j).req.hold.size + wl (fn j).req.lines)) (fun x => Rows.uptoBulk x.1) (fun j => (hfn j).1.2)
      rw [wd_ofFn fn]
      have e2 : (elems.map (Rows.uptoBulk ∘ fun x => x.1)).sum = (elems.map fun x => Rows.uptoBulk x.1).sum := rfl
      rw [e2]
      omega
/-- a state's numbers may be -/
def SxI (s : Sx) : Prop := I64 s.room ∧ I64 s.lsn ∧ I64 s.now ∧ (∀ i (h : i < s.levels.length), I64 s.levels[i].2.1 ∧ I64 s.levels[i].2.2) ∧ (∀ x ∈ s.holds, HlI x) ∧ ∀ x ∈ s.done, DnI x
theorem state_open {H : Type} {enc : TypeId × Value → H} {W : World} {base b2 : Nat} {sp : Nat → Bool} {held : Bool} {v : Value} {d : DataW H} {p : List MemPlace} (hv : Value.okWide Try.prog W .any base 26 v) (h : ∃ fuel, DataW.trod enc Try.prog W b2 sp held fuel 26 v.cells.toList = some (d, p)) :
    ∃ (s : Sx) (a1 : Option Addr) (p1 : Nat) (a2 : Option Addr) (p2 : Nat) (a3 : Option Addr) (p3 : Nat), v = sxV s a1 p1 a2 p2 a3 p3 ∧ RLv W (.slice a1 s.levels.length p1) s.levels ∧ RHl W a2 s.holds ∧ RDn W a3 s.done ∧ SxI s ∧ (s.holds.length ≤ 9223372036854775807 ∧ s.done.length ≤ 9223372036854775807) ∧ wst s ≤ Rows.uptoBulk d := by
  obtain ⟨cs, rfl, hsz⟩ := okWide_struct Try.underlying26 hv
  obtain ⟨fuel, hf⟩ := h
  obtain ⟨f0, f1, f2, f3, f4, f5, hst, h0, h1, h2, h3, h4, h5⟩ : ∃ f0 f1 f2 f3 f4 f5 : Field, Try.prog.underlying 26 = some (.struct #[f0, f1, f2, f3, f4, f5]) ∧ (f0.type = 3 ∧ f0.offset = 0) ∧ (f1.type = 3 ∧ f1.offset = 1) ∧ (f2.type = 3 ∧ f2.offset = 2) ∧ (f3.type = 22 ∧ f3.offset = 3) ∧ (f4.type = 23 ∧ f4.offset = 4) ∧ (f5.type = 24 ∧ f5.offset = 5) := ⟨_, _, _, _, _, _, Try.underlying26, ⟨rfl, rfl⟩, ⟨rfl, rfl⟩, ⟨rfl, rfl⟩, ⟨rfl, rfl⟩, ⟨rfl, rfl⟩, ⟨rfl, rfl⟩⟩
  obtain ⟨xs, n, _, hx, hl, hlen, hfl⟩ := DataW.trod_struct hst hf
  have kci : Try.prog.cellsOf 3 = 1 := by kernel_rfl
  have kcv : Try.prog.cellsOf 22 = 1 := by kernel_rfl
  have kch : Try.prog.cellsOf 23 = 1 := by kernel_rfl
  have kcd : Try.prog.cellsOf 24 = 1 := by kernel_rfl
  have cT : Try.prog.cellsOf 26 = 6 := by kernel_rfl
  have ecs : (Value.agg cs).cells.toList = cs.toList := by simp [Value.cells]
  rw [ecs] at hl hfl
  rw [cT] at hl
  match xs, hlen with
  | [y0, y1, y2, y3, y4, y5], _ =>
    have g0 := hfl 0 f0 rfl
    have g1 := hfl 1 f1 rfl
    have g2 := hfl 2 f2 rfl
    have g3 := hfl 3 f3 rfl
    have g4 := hfl 4 f4 rfl
    have g5 := hfl 5 f5 rfl
    simp only [List.getElem?_cons_zero, List.getElem?_cons_succ] at g0 g1 g2 g3 g4 g5
    rw [h0.1, h0.2, kci] at g0
    rw [h1.1, h1.2, kci] at g1
    rw [h2.1, h2.2, kci] at g2
    rw [h3.1, h3.2, kcv] at g3
    rw [h4.1, h4.2, kch] at g4
    rw [h5.1, h5.2, kcd] at g5
    obtain ⟨a, e0, rfl, ha⟩ := DataW.trod_int Try.underlying3 g0
    obtain ⟨k, e1, rfl, hk⟩ := DataW.trod_int Try.underlying3 g1
    obtain ⟨t, e2, rfl, ht⟩ := DataW.trod_int Try.underlying3 g2
    obtain ⟨z3, q3⟩ := y3
    obtain ⟨z4, q4⟩ := y4
    obtain ⟨z5, q5⟩ := y5
    obtain ⟨L, a1, p1, e3, hL, hLb, hw1⟩ := levels_open g3
    obtain ⟨M, a2, p2, e4, hM, hMb, hw2⟩ := holds_open g4
    obtain ⟨D, a3, p3, e5, hD, hDb, hw3⟩ := dones_open g5
    have ba := bounds_i64 ha
    have bk := bounds_i64 hk
    have bt := bounds_i64 ht
    obtain ⟨cl⟩ := cs
    match cl, hl with
    | [u0, u1, u2, u3, u4, u5], _ =>
      simp at e0 e1 e2 e3 e4 e5
      subst e0 e1 e2 e3 e4 e5
      refine ⟨⟨a, k, t, L, M, D⟩, a1, p1, a2, p2, a3, p3, rfl, hL, hM, hD, ⟨⟨ba.1, by show a ≤ _; omega⟩, ⟨bk.1, by show k ≤ _; omega⟩, ⟨bt.1, by show t ≤ _; omega⟩, hLb, hMb.1, hDb.1⟩, ⟨hMb.2, hDb.2⟩, ?_⟩
      have hd := congrArg Prod.fst hx
      simp only [List.map_cons, List.map_nil] at hd
      rw [hd]
      simp only [Rows.uptoBulk, Rows.uptoBulkAll]
      show wv L + wh M + wd D ≤ _
      omega
theorem wl_mem {L : List Ln} {y : Ln} (h : y ∈ L) : y.1.size ≤ wl L := by
  induction L with
  | nil => simp at h
  | cons x t ih =>
    have e : wl (x :: t) = 2 + x.1.size + wl t := by simp [wl]
    rcases List.mem_cons.1 h with rfl | h
    · omega
    · have := ih h; omega
theorem wv_mem {L : List Lv} {y : Lv} (h : y ∈ L) : y.1.size ≤ wv L := by
  induction L with
  | nil => simp at h
  | cons x t ih =>
    have e : wv (x :: t) = 3 + x.1.size + wv t := by simp [wv]
    rcases List.mem_cons.1 h with rfl | h
    · omega
    · have := ih h; omega
theorem wh_mem {L : List Hl} {y : Hl} (h : y ∈ L) : y.id.size + wl y.lines ≤ wh L := by
  induction L with
  | nil => simp at h
  | cons x t ih =>
    have e : wh (x :: t) = 3 + x.id.size + wl x.lines + wh t := by simp [wh]
    rcases List.mem_cons.1 h with rfl | h
    · omega
    · have := ih h; omega
theorem wd_mem {L : List Dn} {y : Dn} (h : y ∈ L) : y.req.id.size + y.req.hold.size + wl y.req.lines ≤ wd L := by
  induction L with
  | nil => simp at h
  | cons x t ih =>
    have e : wd (x :: t) = 7 + (x.req.id.size + x.req.hold.size + wl x.req.lines) + wd t := by simp [wd]
    rcases List.mem_cons.1 h with rfl | h
    · omega
    · have := ih h; omega
theorem done_open {H : Type} {enc : TypeId × Value → H} {W : World} {base b2 : Nat} {sp : Nat → Bool} {held : Bool} {v : Value} {d : DataW H} {p : List MemPlace} (hv : Value.okWide Try.prog W .any base 31 v) (h : ∃ fuel, DataW.trod enc Try.prog W b2 sp held fuel 31 v.cells.toList = some (d, p)) :
    ∃ (q : Dn) (ao : Option Addr) (cap : Nat), v = dnV q ao cap ∧ RLn W (.slice ao q.req.lines.length cap) q.req.lines ∧ DnI q ∧ 7 + (q.req.id.size + q.req.hold.size + wl q.req.lines) ≤ Rows.uptoBulk d := by
  obtain ⟨cs, rfl, hsz⟩ := okWide_struct Try.underlying31 hv
  obtain ⟨fuel, hf⟩ := h
  have ecs : (Value.agg cs).cells.toList = cs.toList := by simp [Value.cells]
  rw [ecs] at hf
  obtain ⟨q, a, p', e, hR, hI, hw⟩ := done_cells hf
  obtain ⟨cl⟩ := cs
  simp only at e
  subst e
  exact ⟨q, a, p', rfl, hR, hI, hw⟩
end Go.Proofs.Ythnbaekbbeckjaa
