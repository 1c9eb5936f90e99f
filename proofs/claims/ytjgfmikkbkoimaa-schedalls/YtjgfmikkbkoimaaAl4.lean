/-
  SchedAlls: what lies in memory between two lists of a range.
-/
import Derived.Test.YtjgfmikkbkoimaaAl3
import Derived.Test.YtjgfmikkbkoimaaBk3
import Derived.RangeFuncBox
namespace Go.Proofs.Ytjgfmikkbkoimaa
open Go.RowKit Go.Shelf
set_option maxRecDepth 100000
set_option linter.unusedVariables false
set_option linter.unusedSimpArgs false

theorem Ow.keep {α : Type} {enc : α → List Value} {k : Nat} {t : TypeId} {col : Nat → Nat} {c : Nat} {w w' : World} {B : Nat} {v : Value} {L : List α} (h : Ow enc k t col c w B v L) (hk : ∀ g, v.ownBlock = some g → w'.heap[g]? = w.heap[g]?) : Ow enc k t col c w' B v L := by
  refine ⟨⟨h.1.1, ?_⟩, h.2⟩
  rcases h.1.2 with hn | ⟨g, cap, cur, rfl, h0, hg, h1⟩
  · exact .inl hn
  · exact .inr ⟨g, cap, cur, rfl, h0, (hk g rfl).trans hg, h1⟩
/-- the blocks of the law's variables: turn, books, more, n, want; the range's record behind them -/
structure Pr (w1 : World) (bt bb Bq : Nat) : Prop where
  t : w1.heap.size ≤ bb
  b : bt < bb
  q : bb + 3 < Bq
def P14 (w1 : World) (bt bb Bq g : Nat) : Prop := g < w1.heap.size ∨ g = bt ∨ g = bb ∨ g = bb + 1 ∨ g = bb + 2 ∨ g = bb + 3 ∨ g = Bq ∨ g = Bq + 1
structure SB (w1 : World) (bt bb Bq : Nat) (t : Int) (X : Nat → List Int) (col : Nat → Nat) (iv iv0 : Value) (V V0 : List Value) (wv : Value) (wl : List Int) (n : Nat) (mo : Bool) (W : World) : Prop where
  bk : BkI col W w1.heap.size bb iv iv0 V V0 X
  m : Boxed W (bb + 1) 4 (.bool mo)
  n : IBox W (bb + 2) (n : Int)
  wn : Boxed W (bb + 3) 36 wv
  wl : Ow eN 1 3 col 18 W w1.heap.size wv wl
  tt : IBox W bt t
  c14 : ∀ g, P14 w1 bt bb Bq g → col g = 14
  be : Below w1.heap.size w1 W
section
variable {w1 : World} {bt bb Bq : Nat} {t : Int} {X : Nat → List Int} {col : Nat → Nat} {iv iv0 : Value} {V V0 : List Value} {wv : Value} {wl : List Int} {n : Nat} {mo : Bool} {W W' : World}
theorem SB.keep (h : SB w1 bt bb Bq t X col iv iv0 V V0 wv wl n mo W) (hp : Pr w1 bt bb Bq) (ho : W'.os = W.os) (ht : W'.tape = W.tape) (hu : W'.output = W.output) (hz : W.heap.size ≤ W'.heap.size) (hk : ∀ g, g < W.heap.size → g ≠ Bq → g ≠ Bq + 1 → W'.heap[g]? = W.heap[g]?) : SB w1 bt bb Bq t X col iv iv0 V V0 wv wl n mo W' := by
  have p1 := hp.t
  have p2 := hp.b
  have p3 := hp.q
  have hw : ∀ {α : Type} {enc : α → List Value} {k : Nat} {ty : TypeId} {c : Nat} {v : Value} {L : List α}, Ow enc k ty col c W w1.heap.size v L → c ≠ 14 → Ow enc k ty col c W' w1.heap.size v L := fun ho hc => ho.keep fun g hg => hk g (ho.lt g hg).2 (fun e => by have := h.c14 g (by unfold P14; omega); rw [ho.2 g hg] at this; exact hc this) (fun e => by have := h.c14 g (by unfold P14; omega); rw [ho.2 g hg] at this; exact hc this)
  have hb : ∀ {b : Nat} {o : Obj}, W.heap[b]? = some o → b < Bq → W'.heap[b]? = some o := fun hx hlt => (hk _ (Array.getElem?_eq_some_iff.1 hx).1 (by omega) (by omega)).trans hx
  refine ⟨⟨hb h.bk.bb (by omega), ⟨hw h.bk.i1.1 (by decide), fun j hj hp => hw (h.bk.i1.2 j hj hp) (by (try dsimp only); omega)⟩, hw h.bk.o0 (by decide), fun j hj hp => hw (h.bk.r0 j hj hp) (by (try dsimp only); omega), h.bk.len, h.bk.cb, h.bk.few, h.bk.sh⟩, hb h.m (by omega), hb h.n (by omega), hb h.wn (by omega), hw h.wl (by decide), hb h.tt (by omega), h.c14, ?_⟩
  exact h.be.trans ⟨ho, ht, hu, hz, fun k hk' => hk k (by have := h.be.size; omega) (by omega) (by omega)⟩
theorem SB.later (h : SB w1 bt bb Bq t X col iv iv0 V V0 wv wl n mo W) (hp : Pr w1 bt bb Bq) (hb : Below W.heap.size W W') : SB w1 bt bb Bq t X col iv iv0 V V0 wv wl n mo W' := h.keep hp hb.os hb.tape hb.output hb.size fun g hg _ _ => hb.block g hg
theorem SB.chg (h : SB w1 bt bb Bq t X col iv iv0 V V0 wv wl n mo W) (hp : Pr w1 bt bb Bq) (hb : Chg Bq 2 W W') : SB w1 bt bb Bq t X col iv iv0 V V0 wv wl n mo W' := h.keep hp hb.os hb.tape hb.output hb.size fun g hg h1 h2 => hb.block g hg (by omega)
theorem SB.recol {col' : Nat → Nat} (h : SB w1 bt bb Bq t X col iv iv0 V V0 wv wl n mo W) (hq : Bq + 2 ≤ W.heap.size) (hp : Pr w1 bt bb Bq) (hc : ∀ g, g < W.heap.size → col' g = col g) : SB w1 bt bb Bq t X col' iv iv0 V V0 wv wl n mo W := by
  have p1 := hp.t
  have p2 := hp.b
  have p3 := hp.q
  refine ⟨h.bk.recol hc, h.m, h.n, h.wn, h.wl.recol hc, h.tt, fun g hg => ?_, h.be⟩
  rw [hc g (by have := h.be.size; unfold P14 at hg; omega)]
  exact h.c14 g hg
/-- a variable is written -/
theorem SB.put (h : SB w1 bt bb Bq t X col iv iv0 V V0 wv wl n mo W) (hp : Pr w1 bt bb Bq) (b : Nat) (hb : b = bb + 1 ∨ b = bb + 2 ∨ b = bb + 3) (u : Value) :
    (∀ {α : Type} {enc : α → List Value} {k : Nat} {ty : TypeId} {c : Nat} {v : Value} {L : List α}, Ow enc k ty col c W w1.heap.size v L → c ≠ 14 → Ow enc k ty col c (W.setCell ⟨b, 0, none⟩ u) w1.heap.size v L) ∧
    (∀ g o, g ≠ b → W.heap[g]? = some o → (W.setCell ⟨b, 0, none⟩ u).heap[g]? = some o) ∧ BkI col (W.setCell ⟨b, 0, none⟩ u) w1.heap.size bb iv iv0 V V0 X ∧ Below w1.heap.size w1 (W.setCell ⟨b, 0, none⟩ u) := by
  have p1 := hp.t
  have p2 := hp.b
  have p3 := hp.q
  have hcb : col b = 14 := h.c14 b (by unfold P14; omega)
  have gb := gb_set W b 0 u
  have hw : ∀ {α : Type} {enc : α → List Value} {k : Nat} {ty : TypeId} {c : Nat} {v : Value} {L : List α}, Ow enc k ty col c W w1.heap.size v L → c ≠ 14 → Ow enc k ty col c (W.setCell ⟨b, 0, none⟩ u) w1.heap.size v L := fun ho hc => ho.other gb (fun g e => by cases e; exact hcb) hc
  have ho : ∀ g o, g ≠ b → W.heap[g]? = some o → (W.setCell ⟨b, 0, none⟩ u).heap[g]? = some o := fun g o hne hx => (gb.block g (Array.getElem?_eq_some_iff.1 hx).1 (fun e => by injection e with e; exact hne e)).trans hx
  refine ⟨hw, ho, ⟨ho _ _ (by omega) h.bk.bb, ⟨hw h.bk.i1.1 (by decide), fun j hj hp => hw (h.bk.i1.2 j hj hp) (by (try dsimp only); omega)⟩, hw h.bk.o0 (by decide), fun j hj hp => hw (h.bk.r0 j hj hp) (by (try dsimp only); omega), h.bk.len, h.bk.cb, h.bk.few, h.bk.sh⟩, ?_⟩
  exact h.be.setCell (p := ⟨b, 0, none⟩) (show w1.heap.size ≤ b by omega) u
theorem SB.setw (h : SB w1 bt bb Bq t X col iv iv0 V V0 wv wl n mo W) (hp : Pr w1 bt bb Bq) (wv' : Value) (wl' : List Int) (ho : Ow eN 1 3 col 18 W w1.heap.size wv' wl') : SB w1 bt bb Bq t X col iv iv0 V V0 wv' wl' n mo (W.setCell ⟨bb + 3, 0, none⟩ wv') := by
  have p2 := hp.b
  obtain ⟨q1, q2, q3, q4⟩ := h.put hp (bb + 3) (by omega) wv'
  exact ⟨q3, q2 _ _ (by omega) h.m, q2 _ _ (by omega) h.n, h.wn.set wv', q1 ho (by decide), q2 _ _ (by omega) h.tt, h.c14, q4⟩
theorem SB.setm (h : SB w1 bt bb Bq t X col iv iv0 V V0 wv wl n mo W) (hp : Pr w1 bt bb Bq) (mo' : Bool) : SB w1 bt bb Bq t X col iv iv0 V V0 wv wl n mo' (W.setCell ⟨bb + 1, 0, none⟩ (.bool mo')) := by
  have p2 := hp.b
  obtain ⟨q1, q2, q3, q4⟩ := h.put hp (bb + 1) (by omega) (.bool mo')
  exact ⟨q3, h.m.set (.bool mo'), q2 _ _ (by omega) h.n, q2 _ _ (by omega) h.wn, q1 h.wl (by decide), q2 _ _ (by omega) h.tt, h.c14, q4⟩
theorem SB.setn (h : SB w1 bt bb Bq t X col iv iv0 V V0 wv wl n mo W) (hp : Pr w1 bt bb Bq) (n' : Nat) : SB w1 bt bb Bq t X col iv iv0 V V0 wv wl n' mo (W.setCell ⟨bb + 2, 0, none⟩ (.int .i64 (n' : Int))) := by
  have p2 := hp.b
  obtain ⟨q1, q2, q3, q4⟩ := h.put hp (bb + 2) (by omega) (.int .i64 (n' : Int))
  exact ⟨q3, q2 _ _ (by omega) h.m, h.n.put _, q2 _ _ (by omega) h.wn, q1 h.wl (by decide), q2 _ _ (by omega) h.tt, h.c14, q4⟩
/-- a list that is new gets its colour -/
theorem SB.fresh (h : SB w1 bt bb Bq t X col iv iv0 V V0 wv wl n mo W) (hq : Bq + 2 ≤ W.heap.size) (hp : Pr w1 bt bb Bq) (hb : Below W.heap.size W W') (x : Value) (L : List Int) (ho : OwI W' W.heap.size x L) (c : Nat) : ∃ col', SB w1 bt bb Bq t X col' iv iv0 V V0 wv wl n mo W' ∧ Ow eN 1 3 col' c W' w1.heap.size x L := by
  have p1 := hp.t
  refine ⟨fun g => if W.heap.size ≤ g then c else col g, ?_, ?_⟩
  · refine (h.recol hq hp fun g hg => ?_).later hp hb
    show (if W.heap.size ≤ g then c else col g) = col g
    rw [if_neg (by omega)]
  · have h1 : Ow eN 1 3 (fun g => if W.heap.size ≤ g then c else col g) c W' W.heap.size x L := ⟨ho.1, fun g hg => by
      show (if W.heap.size ≤ g then c else col g) = c
      rw [if_pos (ho.lt g hg).1]⟩
    exact h1.lower h.be.size
/-- behind Ints -/
theorem SB.ints (h : SB w1 bt bb Bq t X col iv iv0 V V0 wv wl n mo W) (hq : Bq + 2 ≤ W.heap.size) (hp : Pr w1 bt bb Bq) {x : Value} {e : Ending} (hi : IntsA col W w1.heap.size bb V X x (X V.length) e W') : e = .returned (.tuple #[]) ∧ (∃ col' iv' iv0' V0', SB w1 bt bb Bq t X col' iv' iv0' (V ++ [x]) V0' wv wl n mo W') ∧ KpW w1.heap.size Bq 2 W W' := by
  have p1 := hp.t
  have p2 := hp.b
  have p3 := hp.q
  obtain ⟨col', iv', iv0', V0', rfl, hB, hc, hF⟩ := hi
  have hX : (fun j => if j = V.length then X V.length else X j) = X := by
    funext j
    by_cases e : j = V.length
    · rw [if_pos e, e]
    · rw [if_neg e]
  rw [hX] at hB
  have hx : ∀ {b : Nat} {o : Obj}, W.heap[b]? = some o → b ≠ bb → col b ≠ 2 → col b ≠ 6 → W'.heap[b]? = some o := fun hx h1 h2 h3 => (hF.block _ (Array.getElem?_eq_some_iff.1 hx).1 h1 h2 h3).trans hx
  have k14 : ∀ g, P14 w1 bt bb Bq g → col g ≠ 2 ∧ col g ≠ 6 := fun g hg => by rw [h.c14 g hg]; decide
  have hbx : ∀ {b : Nat} {o : Obj}, W.heap[b]? = some o → P14 w1 bt bb Bq b → b ≠ bb → W'.heap[b]? = some o := fun hh hp' hne => hx hh hne (k14 _ hp').1 (k14 _ hp').2
  refine ⟨rfl, ⟨col', iv', iv0', V0', ⟨hB, hbx h.m (by unfold P14; omega) (by omega), hbx h.n (by unfold P14; omega) (by omega), hbx h.wn (by unfold P14; omega) (by omega), ?_, hbx h.tt (by unfold P14; omega) (by omega), fun g hg => ?_, ?_⟩⟩, ⟨hF.size, fun k hk => ?_⟩⟩
  · refine (h.wl.recol hc).keep fun g hg => ?_
    have hcg := h.wl.2 g hg
    exact hF.block g (h.wl.lt g hg).2 (fun e => by rw [e, h.bk.cb] at hcg; exact absurd hcg (by decide)) (by rw [hcg]; decide) (by rw [hcg]; decide)
  · rw [hc g (by have := h.be.size; unfold P14 at hg; omega)]
    exact h.c14 g hg
  · exact h.be.trans ⟨hF.os, hF.tape, hF.output, hF.size, fun k hk => hF.block k (by have := h.be.size; omega) (by omega) (k14 k (by unfold P14; omega)).1 (k14 k (by unfold P14; omega)).2⟩
  · have hk' : P14 w1 bt bb Bq k := by unfold P14; omega
    exact hF.block k (by have := h.be.size; omega) (by omega) (k14 k hk').1 (k14 k hk').2
/-- what a round keeps -/
theorem SB.kpw (hp : Pr w1 bt bb Bq) (b : Nat) (hb : b = bb + 1 ∨ b = bb + 2 ∨ b = bb + 3) (u : Value) : KpW w1.heap.size Bq 2 W (W.setCell ⟨b, 0, none⟩ u) := by
  have p1 := hp.t
  have p2 := hp.b
  have p3 := hp.q
  refine ⟨by simp, fun k hk => ?_⟩
  by_cases hlt : k < W.heap.size
  · exact (gb_set W b 0 u).block k hlt (fun e => by injection e with e; omega)
  · rw [Array.getElem?_eq_none (by simp; omega), Array.getElem?_eq_none (by omega)]
theorem kpw_below {B0 Bq2 : Nat} (hb : Below W.heap.size W W') (h1 : B0 ≤ W.heap.size) (h2 : Bq2 + 2 ≤ W.heap.size) : KpW B0 Bq2 2 W W' := ⟨hb.size, fun k hk => hb.block k (by omega)⟩
end
end Go.Proofs.Ytjgfmikkbkoimaa
