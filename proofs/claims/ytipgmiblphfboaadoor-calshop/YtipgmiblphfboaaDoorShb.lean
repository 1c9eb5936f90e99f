/-
  What a range over open days leans on.
-/
import Derived.Test.YtipgmiblphfboaaDoorSha
import Derived.Test.YtipgmiblphfboaaDoorRngB
namespace Go.Proofs.YtipgmiblphfboaaDoor
open Go.RowKit Go.Shelf
set_option maxRecDepth 100000

theorem heap_own {X Y : World} {row : Option Nat} {b : Nat} {cs : Array Value} {t : TypeId} {fr : Nat × Nat} (h : X.heap[b]? = some (.cells cs t fr)) (hg : X.grownBy Y row) (hr : ∀ r, row = some r → ∃ o : Obj, X.heap[r]? = some o ∧ o.isCells = false) : Y.heap[b]? = some (.cells cs t fr) := by
  refine (hg.block b (Array.getElem?_eq_some_iff.1 h).1 fun e => ?_).trans h
  obtain ⟨o, ho, hc⟩ := hr b e.symm
  rw [h] at ho
  cases ho
  cases hc
theorem AS.own {X Y : World} {row : Option Nat} {gl gd gs gh : Nat} {wk : Nat → Bool} {s : Int} {L : List (Int × Bool)} {n : Int} (h : AS X gl gd gs gh wk s L n) (hg : X.grownBy Y row) (hr : ∀ r, row = some r → ∃ o : Obj, X.heap[r]? = some o ∧ o.isCells = false) : AS Y gl gd gs gh wk s L n := by
  obtain ⟨A, B, h1, h2, ⟨v, b1, r1⟩, i1, i2, ⟨v', s1⟩, hd⟩ := h
  exact ⟨A, B, h1, h2, ⟨v, heap_own b1 hg hr, r1.own hg hr⟩, heap_own i1 hg hr, heap_own i2 hg hr, ⟨v', heap_own s1 hg hr⟩, hd⟩
/-- between two rounds: the number counted, the func, the day compared with, the iterator's numbers -/
structure CS (w0 : World) (gt gc gl gd gs gh gf g1 g2 g3 : Nat) (F : Value) (wk : Nat → Bool) (s : Int) (L : List (Int × Bool)) (y m d a b st : Int) (c n : Int) (W : World) : Prop where
  cnt : IBox W gc c
  als : AS W gl gd gs gh wk s L n
  fn : Boxed W gf 50 F
  dto : Box W gt y m d
  i1 : IBox W g1 a
  i2 : IBox W g2 b
  i3 : IBox W g3 st
  ah : HasAh W
  below : Below w0.heap.size w0 W
  o1 : 1 < w0.heap.size ∧ w0.heap.size ≤ gt ∧ gt < gc
  o2 : gc < gl ∧ gc < gd ∧ gc < gs ∧ gc < gh
  o3 : gl < gf ∧ gd < gf ∧ gs < gf ∧ gh < gf
  o4 : gf < g1 ∧ gf < g2 ∧ gf < g3
section
variable {w0 : World} {gt gc gl gd gs gh gf g1 g2 g3 : Nat} {F : Value} {wk : Nat → Bool} {s : Int} {L : List (Int × Bool)} {y m d a b st : Int} {c n : Int} {W : World}
theorem CS.own {W' : World} {row : Option Nat} {B : Nat} (h : CS w0 gt gc gl gd gs gh gf g1 g2 g3 F wk s L y m d a b st c n W) (hB : w0.heap.size ≤ B) (hg : W.grownBy W' row) (hr : ∀ r, row = some r → B ≤ r ∧ ∃ o : Obj, W.heap[r]? = some o ∧ o.isCells = false) : CS w0 gt gc gl gd gs gh gf g1 g2 g3 F wk s L y m d a b st c n W' := by
  have hr' : ∀ r, row = some r → ∃ o : Obj, W.heap[r]? = some o ∧ o.isCells = false := fun r e => (hr r e).2
  refine ⟨heap_own h.cnt hg hr', h.als.own hg hr', heap_own h.fn hg hr', heap_own h.dto hg hr', heap_own h.i1 hg hr', heap_own h.i2 hg hr', heap_own h.i3 hg hr', fun k hk => cell_own (h.ah k hk) hg hr', h.below.trans ⟨hg.os, hg.tape, hg.output, hg.size, fun k hk => hg.block k (by have := h.below.size; omega) (fun e => by have := (hr k e.symm).1; omega)⟩, h.o1, h.o2, h.o3, h.o4⟩
theorem CS.later {W' : World} (h : CS w0 gt gc gl gd gs gh gf g1 g2 g3 F wk s L y m d a b st c n W) (hb : Below W.heap.size W W') : CS w0 gt gc gl gd gs gh gf g1 g2 g3 F wk s L y m d a b st c n W' :=
  ⟨h.cnt.later hb, h.als.later hb, (hb.block _ h.fn.lt).trans h.fn, h.dto.later hb, h.i1.later hb, h.i2.later hb, h.i3.later hb, h.ah.below hb, h.below.trans (hb.mono h.below.size), h.o1, h.o2, h.o3, h.o4⟩
theorem CS.step {W' : World} {n' : Int} (h : CS w0 gt gc gl gd gs gh gf g1 g2 g3 F wk s L y m d a b st c n W) (k : KT gl gd W W') (h2 : AS W' gl gd gs gh wk s L n') : CS w0 gt gc gl gd gs gh gf g1 g2 g3 F wk s L y m d a b st c n' W' := by
  have o1 := h.o1
  have o2 := h.o2
  have o3 := h.o3
  have o4 := h.o4
  have lt := h.als.lt
  exact ⟨(k.block gc h.cnt.facts.2.2 (by omega) (by omega)).trans h.cnt, h2, (k.block gf h.fn.lt (by omega) (by omega)).trans h.fn, (k.block gt h.dto.facts.2.2.2.2.2.2 (by omega) (by omega)).trans h.dto, (k.block g1 h.i1.facts.2.2 (by omega) (by omega)).trans h.i1, (k.block g2 h.i2.facts.2.2 (by omega) (by omega)).trans h.i2, (k.block g3 h.i3.facts.2.2 (by omega) (by omega)).trans h.i3,
    fun j hj => (World.cell?_of_block (k.block 1 h.ah.lt (by omega) (by omega))).trans (h.ah j hj), k.below h.below h.below.size (by omega) (by omega), h.o1, h.o2, h.o3, h.o4⟩
theorem CS.put (h : CS w0 gt gc gl gd gs gh gf g1 g2 g3 F wk s L y m d a b st c n W) (c' : Int) : CS w0 gt gc gl gd gs gh gf g1 g2 g3 F wk s L y m d a b st c' n (W.setCell ⟨gc, 0, none⟩ (.int .i64 c')) := by
  have o1 := h.o1
  have o2 := h.o2
  have o3 := h.o3
  have o4 := h.o4
  have hk : ∀ k, k ≠ gc → (W.setCell ⟨gc, 0, none⟩ (.int .i64 c')).heap[k]? = W.heap[k]? := fun k hk => Below.heap_setCell _ _ _ _ (by show k ≠ gc; exact hk)
  obtain ⟨A, B, h1, h2, ⟨v, b1, r1⟩, i1, i2, ⟨v', s1⟩, hd⟩ := h.als
  exact ⟨h.cnt.put c', ⟨A, B, h1, h2, ⟨v, (hk gl (by omega)).trans b1, RL.one (T := 3) (v0 := .int .i64 c) h.cnt r1 _⟩, (hk gd (by omega)).trans i1, (hk gs (by omega)).trans i2, ⟨v', (hk gh (by omega)).trans s1⟩, hd⟩, (hk gf (by omega)).trans h.fn, (hk gt (by omega)).trans h.dto, (hk g1 (by omega)).trans h.i1, (hk g2 (by omega)).trans h.i2, (hk g3 (by omega)).trans h.i3,
    fun j hj => (World.cell?_of_block (hk 1 (by omega))).trans (h.ah j hj), h.below.setCell (by show w0.heap.size ≤ gc; omega) _, h.o1, h.o2, h.o3, h.o4⟩
theorem CS.kp {W' : World} {c' n' : Int} (h : CS w0 gt gc gl gd gs gh gf g1 g2 g3 F wk s L y m d a b st c n W) (h' : CS w0 gt gc gl gd gs gh gf g1 g2 g3 F wk s L y m d a b st c' n' W') : KpE g1 g3 g2 W W' := fun k hk => by
  rcases hk with rfl | rfl | rfl | rfl
  · exact Eq.trans h'.i1 (Eq.symm h.i1)
  · exact Eq.trans h'.i3 (Eq.symm h.i3)
  · exact Eq.trans h'.i2 (Eq.symm h.i2)
  · exact (h'.below.block _ h.o1.1).trans (h.below.block _ h.o1.1).symm
end
theorem KT.keeps {x z : Nat} {W W' : World} (k : KT x z W W') {c1 c2 : Array Value} {t1 t2 : TypeId} {f1 f2 : Nat × Nat} (h1 : W.heap[x]? = some (.cells c1 t1 f1)) (h2 : W.heap[z]? = some (.cells c2 t2 f2)) : KeepsOthers W W' :=
  ⟨k.size, fun i o hi ho => (k.block i (Array.getElem?_eq_some_iff.1 hi).1 (fun e => by subst e; rw [h1] at hi; cases hi; cases ho) (fun e => by subst e; rw [h2] at hi; cases hi; cases ho)).trans hi⟩
theorem CS.keeps {w0 : World} {gt gc gl gd gs gh gf g1 g2 g3 : Nat} {F : Value} {wk : Nat → Bool} {s : Int} {L : List (Int × Bool)} {y m d a b st : Int} {c n : Int} {W W' : World} (h : CS w0 gt gc gl gd gs gh gf g1 g2 g3 F wk s L y m d a b st c n W) (k : KT gl gd W W') : KeepsOthers W W' := by
  obtain ⟨A, B, h1, h2, ⟨v, b1, r1⟩, i1, _⟩ := h.als
  exact k.keeps b1 i1
theorem CS.keeps2 {w0 : World} {gt gc gl gd gs gh gf g1 g2 g3 : Nat} {F : Value} {wk : Nat → Bool} {s : Int} {L : List (Int × Bool)} {y m d a b st : Int} {c n : Int} {W : World} (h : CS w0 gt gc gl gd gs gh gf g1 g2 g3 F wk s L y m d a b st c n W) (u : Value) : KeepsOthers W (W.setCell ⟨gc, 0, none⟩ u) := by
  refine ⟨by simp, fun i o hi ho => ?_⟩
  rw [Below.heap_setCell _ _ _ _ (by
    show i ≠ gc
    intro e
    subst e
    have := h.cnt
    unfold IBox at this
    rw [this] at hi
    cases hi
    cases ho)]
  exact hi
theorem Box.kt {gl gd Bx : Nat} {W W' : World} {y m d : Int} {t1 t2 : TypeId} {v1 v2 : Value} (h : Box W Bx y m d) (k : KT gl gd W W') (h1 : Boxed W gl t1 v1) (h2 : Boxed W gd t2 v2) : Box W' Bx y m d := by
  refine (k.block Bx h.facts.2.2.2.2.2.2 (fun e => ?_) (fun e => ?_)).trans h
  · subst e
    unfold Boxed at h1
    rw [show W.heap[Bx]? = _ from h] at h1
    simp at h1
  · subst e
    unfold Boxed at h2
    rw [show W.heap[Bx]? = _ from h] at h2
    simp at h2
/-- how many of the days so far were counted: f of the place, q of the day -/
def cC (f : Nat → Bool) (q : Int → Bool) (pre : List Int) : Nat := (pre.zipIdx.filter fun p => f p.2 && q p.1).length
theorem cC_nil (f : Nat → Bool) (q : Int → Bool) : cC f q [] = 0 := rfl
theorem cC_snoc (f : Nat → Bool) (q : Int → Bool) (pre : List Int) (x : Int) : cC f q (pre ++ [x]) = cC f q pre + (if f pre.length && q x then 1 else 0) := by
  unfold cC
  rw [List.zipIdx_append, List.filter_append, List.length_append]
  simp [List.filter_cons]
  split <;> simp
theorem cC_le (f : Nat → Bool) (q : Int → Bool) (pre : List Int) : cC f q pre ≤ pre.length := by
  unfold cC
  have := List.length_filter_le (fun p => f p.2 && q p.1) pre.zipIdx
  simpa using this
theorem rangeR {P : Program} {n : Nat} {g : Operand} {px bx : Nat} {assign body : Code} {Q : Exit → Act → World → Prop} {a : Act} {w : World}
    (h1 : 1 ≤ n) {gf : Nat} {lb : Array Value} (hg : a.eval g = .func (.func gf) #[] lb) (eg : ∀ args w, (callFunc gf args).run P w = .ok (.enter gf args) w)
    {e : Int → Value} {Kp : World → World → Prop} {S Sp : List Int → Prop} {N : Nat} {w0 : World} (hseq : SeqStopsK Fence.wide (n - 1) P gf lb (fun x : Int => #[e x]) Kp S Sp N w0)
    (hKt : ∀ {A B C : World}, Kp A B → Kp B C → Kp A C) (hKb : ∀ (W : World) (l : Nat) (o o' : Obj), w.heap.size ≤ l → W.heap[l]? = some o → o.isCells = false → o.isWalk = false → Kp W (W.putObj l o')) (hb0 : Below w0.heap.size w0 w)
    (I Ix : List Int → World → Prop) (hI : OwnFrom w.heap.size I) (hIx : OwnFrom w.heap.size Ix) (h0 : I [] w)
    (hassign : ∀ (l : Nat) (pre : List Int) (x : Int) (W : World) (K : Act → World → Prop), I pre W → (∀ a' W', KeepsFrom w.heap.size W W' → Kp W W' → I pre W' → (∃ Bx, Box W' Bx (dY x) (dM x) (dD x) ∧ a' = { tmps := (a.tmps.setIfInBounds px (e x)).setIfInBounds bx (.pointer (some ⟨Bx, 0, none⟩)), defers := [] }) → K a' W') →
      assign.wpIn (Fence.wide.inRound l) (n - 1 - 1) P (Exit.then K (fun _ _ _ => False)) { tmps := ((#[px] : Array Tmp).zip #[e x]).foldl (fun t (p, v) => t.setIfInBounds p v) a.tmps, defers := [] } W)
    (hbody : ∀ (l : Nat) (pre : List Int) (x : Int) (Bx : Nat) (W : World), I pre W → Box W Bx (dY x) (dM x) (dD x) → pre.length < N → body.wpIn (Fence.wide.inRound l) (n - 1 - 1) P (ownPostG w.heap.size Kp I (fun c xs W => c = .ret ∧ Ix xs W) (pre ++ [x]) W) { tmps := (a.tmps.setIfInBounds px (e x)).setIfInBounds bx (.pointer (some ⟨Bx, 0, none⟩)), defers := [] } W)
    (hd : ∀ (D : Nat) (xs : List Int) (W : World), w.heap.size ≤ D → S xs → I xs W → W.heap[D]? = some (.deferred (some [])) → Q .normal { a with defers := { target := .collected D, args := #[] } :: a.defers } W)
    (hs : ∀ (D : Nat) (pre : List Int) (W : World), w.heap.size ≤ D → Sp pre → Ix pre W → W.heap[D]? = some (.deferred (some [])) → (Code.ret).wpIn Fence.wide n P Q { a with defers := { target := .collected D, args := #[] } :: a.defers } W) :
    (Code.rangeFunc g #[px] assign body).wpIn Fence.wide n P Q a w := by
  refine wpIn_rangeFunc_ownH rfl h1 hg trivial eg hseq hKt hKb hb0 (fun _ => rfl) I (fun c xs W => c = .ret ∧ Ix xs W) hI
    (fun c s A B row hs hg' hr => ⟨hs.1, hIx s A B row hs.2 hg' hr⟩) h0
    (fun x a' W' => ∃ Bx, Box W' Bx (dY x) (dM x) (dD x) ∧ a' = { tmps := (a.tmps.setIfInBounds px (e x)).setIfInBounds bx (.pointer (some ⟨Bx, 0, none⟩)), defers := [] })
    (fun x a' _ X Y row hs hg hr => by obtain ⟨Bx, h2, h3⟩ := hs; exact ⟨Bx, h2.own hg (fun r e => (hr r e).2), h3⟩)
    hassign ?_ ?_ ?_
  · rintro l pre x a' W _ _ hi ⟨Bx, bX, rfl⟩ hlt
    exact hbody l pre x Bx W hi bX hlt
  · exact hd
  · rintro D c pre W hD hSp ⟨rfl, hx⟩ hK
    exact hs D pre W hD hSp hx hK
end Go.Proofs.YtipgmiblphfboaaDoor
