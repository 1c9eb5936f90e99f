/-
  DiskAll: what holds between two rounds; the range over Choices.
-/
import Derived.Test.YtjaopckdhohpbaaDoorCht
import Derived.Test.YtjaopckdhohpbaaDoorRgE
import Derived.Lib.OwnKind
namespace Go.Proofs.YtjaopckdhohpbaaDoor
open Go.RowKit Go.Shelf
set_option maxRecDepth 100000
set_option linter.unusedVariables false
set_option linter.unusedSimpArgs false

theorem OwK.ri {w : World} {base : Nat} {v : Value} {K : List Int} (h : OwK w base v K) : RI w v K := by
  have hc := fun g hg => World.ownsRow.cells h (g := g) hg
  rcases h.2 with ⟨rfl, h0⟩ | ⟨g, cap, cur, rfl, hb, hg, h1, _⟩
  · exact ⟨none, 0, by rw [h0], by omega, fun i hi => by omega⟩
  · refine ⟨_, cap, rfl, h1, fun i hi => ⟨g, 0, rfl, ?_⟩⟩
    have := hc g rfl i (.int .i64 K[i]) (by unfold ic; rw [List.getElem?_map, List.getElem?_eq_getElem hi]; rfl)
    rw [Addr.add_lit] at this
    exact this
theorem OwK.later {w w' : World} {base : Nat} {v : Value} {K : List Int} (h : OwK w base v K) (hb : Below w.heap.size w w') : OwK w' base v K :=
  World.ownsRow.kept h (row := none) ⟨hb.os, hb.tape, hb.output, hb.size, fun k hk _ => hb.block k hk⟩ (by cases v.ownBlock <;> simp)
theorem OwK.keep {w w' : World} {base : Nat} {v : Value} {K : List Int} (h : OwK w base v K) (hk : ∀ g, v.ownBlock = some g → w'.heap[g]? = w.heap[g]?) : OwK w' base v K := by
  refine ⟨h.1, ?_⟩
  rcases h.2 with hn | ⟨g, cap, cur, rfl, h0, hg, h1⟩
  · exact .inl hn
  · exact .inr ⟨g, cap, cur, rfl, h0, (hk g rfl).trans hg, h1⟩
theorem OwK.lower {w : World} {base base' : Nat} {v : Value} {K : List Int} (h : OwK w base v K) (hb : base' ≤ base) : OwK w base' v K := by
  refine ⟨h.1, ?_⟩
  rcases h.2 with h2 | ⟨g, cap, cur, hv, hg, r⟩
  · exact .inl h2
  · exact .inr ⟨g, cap, cur, hv, Nat.le_trans hb hg, r⟩
theorem OwK.lt {w : World} {base : Nat} {v : Value} {K : List Int} (h : OwK w base v K) : ∀ g, v.ownBlock = some g → base ≤ g ∧ g < w.heap.size := fun g hg => World.ownsRow.lt h g hg
theorem chA_at {k n : Nat} {q : List Int × Int × Int} (h : (chA k)[n]? = some q) : q.1.length ≤ 10 ∧ 0 ≤ q.2.2 ∧ q.2.2 ≤ 128 := by
  have hm := List.mem_of_getElem? h
  unfold chA at hm
  rcases List.mem_append.1 hm with hm | hm
  · unfold chW at hm
    obtain ⟨s, _, rfl⟩ := List.mem_map.1 hm
    exact ⟨pl_len _ _, by simp [chc], by simp [chc]⟩
  · unfold fm at hm
    obtain ⟨i, _, hm⟩ := List.mem_flatMap.1 hm
    unfold rowP at hm
    obtain ⟨s, _, rfl⟩ := List.mem_map.1 hm
    exact ⟨pl_len _ _, by simp [chc], by simp [chc]⟩
theorem crinfo : (Tryd.prog.info? 33).map (fun i => (i.zero, i.size, i.bytes)) = some (some (.agg #[.slice none 0 0, .int .i64 0, .int .i64 0]), 3, 40) := by kernel_rfl
/-- what lies in seen: a choice, its list as a value -/
def crE (x : Value × List Int × Int × Int) : List Value := [x.1, .int .i64 x.2.2.1, .int .i64 x.2.2.2]
theorem crE_len (x : Value × List Int × Int × Int) : (crE x).length = 3 := rfl
structure SnI (k : Nat) (ws : World) (sb Bq n : Nat) (sv : Value) (L : List (Value × List Int × Int × Int)) (W : World) : Prop where
  be : Below ws.heap.size ws W
  box : W.heap[sb]? = some (.cells #[sv] 31 (0, 0))
  own : W.ownsRow (Bq + 2) 33 3 sv L.length (L.flatMap crE)
  are : L.map (·.2) = (chA k).take n
  le : n ≤ (chA k).length
  sub : ∀ x ∈ L, OwK W (Bq + 2) x.1 x.2.1
section
variable {k sb Bq n : Nat} {ws W W' : World} {sv : Value} {L : List (Value × List Int × Int × Int)}
theorem SnI.len (h : SnI k ws sb Bq n sv L W) : L.length = n := by
  have := congrArg List.length h.are
  rw [List.length_map, List.length_take] at this
  have := h.le
  omega
theorem SnI.form (h : SnI k ws sb Bq n sv L W) : ∃ so sc, sv = .slice so n sc := by
  have hl := h.len
  rcases h.own.2 with ⟨hv, h0⟩ | ⟨g, cap, cur, hv, _⟩
  · exact ⟨none, 0, by rw [hv, ← hl, h0]⟩
  · exact ⟨_, cap, by rw [hv, hl]⟩
/-- what turns none of its blocks leaves it -/
theorem SnI.keep (h : SnI k ws sb Bq n sv L W) (hsb : sb < Bq) (hws : ws.heap.size ≤ Bq) (ho : W'.os = W.os) (ht : W'.tape = W.tape) (hu : W'.output = W.output) (hz : W.heap.size ≤ W'.heap.size) (hk : ∀ g, g < W.heap.size → (g < Bq ∨ Bq + 2 ≤ g) → W'.heap[g]? = W.heap[g]?) : SnI k ws sb Bq n sv L W' :=
  have hs := h.be.size
  { h with
    be := ⟨ho.trans h.be.os, ht.trans h.be.tape, hu.trans h.be.output, Nat.le_trans hs hz, fun g hg => (hk g (by omega) (.inl (by omega))).trans (h.be.block g hg)⟩
    box := (hk sb (Array.getElem?_eq_some_iff.1 h.box).1 (.inl hsb)).trans h.box
    own := ⟨h.own.1, by
      rcases h.own.2 with hn | ⟨g, cap, cur, rfl, h0, hg, h1⟩
      · exact .inl hn
      · exact .inr ⟨g, cap, cur, rfl, h0, (hk g (Array.getElem?_eq_some_iff.1 hg).1 (.inr h0)).trans hg, h1⟩⟩
    sub := fun x hx => (h.sub x hx).keep fun g hg => hk g ((h.sub x hx).lt g hg).2 (.inr ((h.sub x hx).lt g hg).1) }
theorem SnI.chg (h : SnI k ws sb Bq n sv L W) (hsb : sb < Bq) (hws : ws.heap.size ≤ Bq) (hc : Chg Bq 2 W W') : SnI k ws sb Bq n sv L W' :=
  h.keep hsb hws hc.os hc.tape hc.output hc.size fun g hg hn => hc.block g hg (by omega)
theorem SnI.later (h : SnI k ws sb Bq n sv L W) (hsb : sb < Bq) (hws : ws.heap.size ≤ Bq) (hc : Below W.heap.size W W') : SnI k ws sb Bq n sv L W' :=
  h.keep hsb hws hc.os hc.tape hc.output hc.size fun g hg hn => hc.block g hg
theorem SnI.at (h : SnI k ws sb Bq n sv L W) (j : Nat) (hj : j < n) : ∃ g sc a p, sv = .slice (some ⟨g, 0, none⟩) n sc ∧ n ≤ sc ∧ (chA k)[j]? = some p ∧ OwK W (Bq + 2) a p.1 ∧ g < W.heap.size ∧ Bq + 2 ≤ g ∧
    W.cell? ⟨g, j * 3, none⟩ = some a ∧ W.cell? ⟨g, j * 3 + 1, none⟩ = some (.int .i64 p.2.1) ∧ W.cell? ⟨g, j * 3 + 2, none⟩ = some (.int .i64 p.2.2) := by
  have hl := h.len
  have ho : Ow crE 3 33 (fun _ => 0) 0 W (Bq + 2) sv L := ⟨h.own, fun _ _ => rfl⟩
  obtain ⟨g, sc, hv, h1, h2, h3, _, h5, _⟩ := ho.at crE_len j (by omega)
  have hp : (chA k)[j]? = some (L[j]'(by omega)).2 := by
    have := congrArg (·[j]?) h.are
    simp only [List.getElem?_map, List.getElem?_take, if_pos hj] at this
    rw [← this, List.getElem?_eq_getElem (by omega)]
    rfl
  exact ⟨g, sc, (L[j]'(by omega)).1, (L[j]'(by omega)).2, by rw [hv, hl], by omega, hp, h.sub _ (List.getElem_mem _), h3, h2, h5 0 _ rfl, h5 1 _ rfl, h5 2 _ rfl⟩
theorem SnI.app (h : SnI k ws sb Bq n sv L W) (hsb : sb < Bq) (hws : ws.heap.size ≤ sb) (hz : Bq + 2 ≤ W.heap.size) (hN : (chA k).length ≤ 1000000) (q : List Int × Int × Int) (hq : (chA k)[n]? = some q) (kv : Value) (ho : OwK W (Bq + 2) kv q.1) :
    ∃ v' w2, (Builtin.append_ #[31, 31] 31 #[sv, .slice (some ⟨W.heap.size, 0, none⟩) 1 1]).run Tryd.prog (W.alloc (.cells #[kv, .int .i64 q.2.1, .int .i64 q.2.2] 33)) = .ok v' w2 ∧
      w2.cell? ⟨sb, 0, none⟩ = some sv ∧ w2.frozen? ⟨sb, 0, none⟩ = false ∧ SnI k ws sb Bq (n + 1) v' (L ++ [(kv, q)]) (w2.setCell ⟨sb, 0, none⟩ v') ∧ KpW ws.heap.size Bq 2 W (w2.setCell ⟨sb, 0, none⟩ v') := by
  have hl := h.len
  have hn : n < (chA k).length := (List.getElem?_eq_some_iff.1 hq).1
  have hsbW : sb < W.heap.size := (Array.getElem?_eq_some_iff.1 h.box).1
  have b1 := alloc_below W (.cells #[kv, .int .i64 q.2.1, .int .i64 q.2.2] 33)
  have n1 := heap_alloc_new W (.cells #[kv, .int .i64 q.2.1, .int .i64 q.2.2] 33)
  obtain ⟨W1, hW1⟩ : ∃ W1, W.alloc (.cells #[kv, .int .i64 q.2.1, .int .i64 q.2.2] 33) = W1 := ⟨_, rfl⟩
  have z1 : W1.heap.size = W.heap.size + 1 := by rw [← hW1]; simp
  rw [hW1] at b1 n1 ⊢
  have s1 := h.later hsb (by omega) b1
  have hone : ∀ x ∈ [(kv, q)], ∀ u ∈ crE x, u.oneCell' = true := by
    obtain ⟨ao, c, hv⟩ := ho.sl
    intro x hx u hu
    simp only [List.mem_singleton] at hx
    subst hx
    subst hv
    simp only [crE, List.mem_cons, List.not_mem_nil, or_false] at hu
    rcases hu with rfl | rfl | rfl <;> rfl
  have hnews : ∀ j u, ([(kv, q)].flatMap crE)[j]? = some u → W1.cell? ((⟨W.heap.size, 0, none⟩ : Addr).add j) = some u := by
    intro j u hj
    rw [Addr.add_lit, Nat.zero_add, Lib.cell_of_heap n1]
    match j, hj with
    | 0, hj => simpa [crE] using hj
    | 1, hj => simpa [crE] using hj
    | 2, hj => simpa [crE] using hj
    | j + 3, hj => simp [crE] at hj
  obtain ⟨v', w2, col', hr, h2, _, hg, _⟩ := run_appC (enc := crE) (col := fun _ => 0) (c := 0) crinfo Tryd.underlying31 rfl (by decide) crE_len ⟨s1.own, fun _ _ => rfl⟩ ⟨W.heap.size, 0, none⟩ 1 1 [(kv, q)] rfl hone hnews (by simp; omega) (by simp [maxLen]; omega) (by omega) 31
  have hsz : W1.heap.size ≤ w2.heap.size := hg.size
  have nb : ∀ g, sv.ownBlock = some g → Bq + 2 ≤ g := fun g e => (World.ownsRow.lt s1.own g e).1
  have bx2 : w2.heap[sb]? = some (.cells #[sv] 31 (0, 0)) := (hg.block sb (by omega) (fun e => by have := nb sb e.symm; omega)).trans s1.box
  have gb := gb_set w2 sb 0 v'
  have old : ∀ g, g < W1.heap.size → sv.ownBlock ≠ some g → g ≠ sb → (w2.setCell ⟨sb, 0, none⟩ v').heap[g]? = W1.heap[g]? := fun g hlt hne hs => (gb.block g (by omega) (fun e => by injection e with e; exact hs e)).trans (hg.block g hlt (fun e => hne e.symm))
  have kk : ∀ x ki, OwK W1 (Bq + 2) x ki → OwK (w2.setCell ⟨sb, 0, none⟩ v') (Bq + 2) x ki := fun x ki hx => hx.keep fun g e => old g (hx.lt g e).2 (fun e2 => by
    obtain ⟨c1, f1, t1⟩ := Lib.ownsRow_kind hx g e
    obtain ⟨c2, f2, t2⟩ := Lib.ownsRow_kind s1.own g e2
    rw [t1] at t2
    injection t2 with t2
    injection t2 with _ t2
    exact absurd t2 (by decide)) (by have := (hx.lt g e).1; omega)
  refine ⟨v', w2, hr, by rw [Lib.cell_of_heap bx2]; rfl, Lib.frozen_of_heap bx2 0, ⟨?_, Lib.heap_setCell_same bx2 _, ownsRow_setCell_below h2.1 (by show sb < _; omega) v', ?_, hn, fun x hx => ?_⟩, ⟨by simp [World.setCell]; omega, fun g hgk => ?_⟩⟩
  · exact (s1.be.grown hg s1.be.size (fun g e => by have := nb g e; omega)).setCell (p := ⟨sb, 0, none⟩) hws v'
  · rw [List.map_append, s1.are, List.take_add_one, hq]
    rfl
  · rcases List.mem_append.1 hx with hx | hx
    · exact kk _ _ (s1.sub x hx)
    · simp only [List.mem_singleton] at hx
      subst hx
      exact kk _ _ (ho.later b1)
  · refine (old g (by omega) (fun e => by have := nb g e; omega) (by omega)).trans (b1.block g (by omega))
end
def crO (x : Value) : Obj := .cells (match x with | .agg a => a | _ => #[]) 33
/-- a value of the iterator, in the box of the loop's variable -/
theorem SnI.fresh {k ws sb Bq n} {sv L x} {A W1 W : World} (h : SnI k ws sb Bq n sv L A) (hsb : sb < Bq) (hws : ws.heap.size ≤ Bq) (hAW : Below A.heap.size A W1) (hD : DcV k n A x W1) (hc : Chg Bq 2 (W1.alloc (crO x)) W) (hz : W.heap.size = W1.heap.size + 1) (hsz : Bq + 2 ≤ A.heap.size) :
    ∃ q kv, (chA k)[n]? = some q ∧ x = .agg #[kv, .int .i64 q.2.1, .int .i64 q.2.2] ∧ OwK W (Bq + 2) kv q.1 ∧ SnI k ws sb Bq n sv L W ∧ W.heap[W1.heap.size]? = some (.cells #[kv, .int .i64 q.2.1, .int .i64 q.2.2] 33 (0, 0)) := by
  obtain ⟨q, kv, hq, rfl, ho⟩ := hD
  have hA := hAW.size
  have b1 := alloc_below W1 (crO (.agg #[kv, .int .i64 q.2.1, .int .i64 q.2.2]))
  have n1 := heap_alloc_new W1 (crO (.agg #[kv, .int .i64 q.2.1, .int .i64 q.2.2]))
  refine ⟨q, kv, hq, rfl, ?_, ((h.later hsb hws hAW).later hsb hws b1).chg hsb hws hc, (hc.block _ (by simp) (by omega)).trans n1⟩
  have h1 := (ho.later b1)
  exact (h1.keep fun g e => hc.block g (h1.lt g e).2 (by have := (h1.lt g e).1; omega)).lower hsz
end Go.Proofs.YtjaopckdhohpbaaDoor
