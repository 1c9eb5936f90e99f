/-
  SchedRise: the law's boxes.
-/
import Derived.Test.YtaiccmbhdgecgaaSmG
import Derived.Test.YtaiccmbhdgecgaaGwb
import Derived.Test.YtaiccmbhdgecgaaSr2
import Derived.Test.YtaiccmbhdgecgaaRgR
namespace Go.Proofs.Ytaiccmbhdgecgaa
open Go.RowKit Go.Shelf
set_option maxRecDepth 100000
set_option linter.unusedVariables false

/-- a list whose cells lie from block z on -/
def Lz (W : World) (z : Nat) (v : Value) (L : List Int) : Prop := RI W v L ∧ ∀ g off n c, v = .slice (some ⟨g, off, none⟩) n c → z ≤ g
theorem Lz.keep {W W' : World} {z : Nat} {v : Value} {L : List Int} (h : Lz W z v L) (hk : ∀ g, z ≤ g → g < W.heap.size → W'.heap[g]? = W.heap[g]?) : Lz W' z v L := by
  obtain ⟨⟨ao, c, e, hc, hn0, hcell⟩, hz⟩ := h
  subst e
  refine ⟨⟨ao, c, rfl, hc, hn0, fun i hi => ?_⟩, hz⟩
  obtain ⟨g, off, rfl, hx⟩ := hcell i hi
  refine ⟨g, off, rfl, ?_⟩
  have hb := hk g (hz g off _ _ rfl) (cell_ltB hx)
  rw [← hx]
  simp only [World.cell?, hb]
theorem Lz.of {W : World} {z : Nat} {v : Value} {L : List Int} (h : OI W z v L) : Lz W z v L := by
  refine ⟨h.reads, ?_⟩
  rintro g off n c rfl
  rcases h.2 with ⟨h2, _⟩ | ⟨g', cap', cur, hv, hg, _⟩
  · cases h2
  · injection hv with e1 e2 e3
    injection e1 with e1
    injection e1 with e1 e4
    subst e1
    exact hg
theorem Lz.ofw {W : World} {z : Nat} {v : Value} {L : List Int} (h : OwI W z v L) : Lz W z v L := by
  refine ⟨h.ri, ?_⟩
  rintro g off n c rfl
  exact (h.lt g rfl).1
/-- the law's boxes: depth, most, the result, k, last -/
structure RiB (B : Nat) (d mo : Int) (w W : World) (k : Nat) (vl : Value) : Prop where
  d : IBox W B d
  m : IBox W (B + 1) mo
  r : Boxed W (B + 2) 4 (.bool false)
  k : IBox W (B + 3) (k : Int)
  l : Boxed W (B + 4) 22 vl
  be : Below B w W
  sz : B + 5 ≤ W.heap.size
section
variable {B : Nat} {d mo : Int} {w W W' : World} {k : Nat} {vl : Value}
theorem RiB.keep (h : RiB B d mo w W k vl) (hk : ∀ g, g < B + 5 → W'.heap[g]? = W.heap[g]?) (ho : W'.os = W.os) (ht : W'.tape = W.tape) (hu : W'.output = W.output) (hz : W.heap.size ≤ W'.heap.size) : RiB B d mo w W' k vl :=
  ⟨(hk _ (by omega)).trans h.d, (hk _ (by omega)).trans h.m, (hk _ (by omega)).trans h.r, (hk _ (by omega)).trans h.k, (hk _ (by omega)).trans h.l, h.be.trans ⟨ho, ht, hu, hz, fun g hg => hk g (by omega)⟩, Nat.le_trans h.sz hz⟩
theorem RiB.later (h : RiB B d mo w W k vl) (hb : Below W.heap.size W W') : RiB B d mo w W' k vl := h.keep (fun g hg => hb.block g (by have := h.sz; omega)) hb.os hb.tape hb.output hb.size
theorem RiB.chg {Bq n : Nat} (h : RiB B d mo w W k vl) (hb : Chg Bq n W W') (hq : B + 5 ≤ Bq) : RiB B d mo w W' k vl := h.keep (fun g hg => hb.block g (by have := h.sz; omega) (by omega)) hb.os hb.tape hb.output hb.size
theorem RiB.putk (h : RiB B d mo w W k vl) (k' : Nat) : RiB B d mo w (W.setCell ⟨B + 3, 0, none⟩ (.int .i64 (k' : Int))) k' vl ∧ ∀ g, g ≠ B + 3 → g < W.heap.size → (W.setCell ⟨B + 3, 0, none⟩ (.int .i64 (k' : Int))).heap[g]? = W.heap[g]? := by
  have hz := h.sz
  have ho : ∀ g, g ≠ B + 3 → g < W.heap.size → (W.setCell ⟨B + 3, 0, none⟩ (.int .i64 (k' : Int))).heap[g]? = W.heap[g]? := fun g hne hlt => hp_o hlt hne _
  exact ⟨⟨(ho _ (by omega) (by omega)).trans h.d, (ho _ (by omega) (by omega)).trans h.m, (ho _ (by omega) (by omega)).trans h.r, h.k.put _, (ho _ (by omega) (by omega)).trans h.l, h.be.setCell (p := ⟨B + 3, 0, none⟩) (by show B ≤ B + 3; omega) _, by simpa using hz⟩, ho⟩
theorem RiB.putl (h : RiB B d mo w W k vl) (v : Value) : RiB B d mo w (W.setCell ⟨B + 4, 0, none⟩ v) k v ∧ ∀ g, g ≠ B + 4 → g < W.heap.size → (W.setCell ⟨B + 4, 0, none⟩ v).heap[g]? = W.heap[g]? := by
  have hz := h.sz
  have ho : ∀ g, g ≠ B + 4 → g < W.heap.size → (W.setCell ⟨B + 4, 0, none⟩ v).heap[g]? = W.heap[g]? := fun g hne hlt => hp_o hlt hne _
  exact ⟨⟨(ho _ (by omega) (by omega)).trans h.d, (ho _ (by omega) (by omega)).trans h.m, (ho _ (by omega) (by omega)).trans h.r, (ho _ (by omega) (by omega)).trans h.k, Boxed.set v h.l, h.be.setCell (p := ⟨B + 4, 0, none⟩) (by show B ≤ B + 4; omega) _, by simpa using hz⟩, ho⟩
/-- the k-th list, its cells new since A -/
def LzD (G : List (List Int)) (k : Nat) (A : World) (v : Value) (W : World) : Prop := Lz W A.heap.size v (G.getD k [])
/-- what holds between two rounds -/
structure RiI (B : Nat) (d mo : Int) (w W5 : World) (z : Nat) (G : List (List Int)) (DL : List Nat) (k : Nat) (W : World) : Prop where
  ex : ∃ vl, RiB B d mo w W k vl ∧ (0 < k → Lz W z vl (G.getD (k - 1) []))
  dl : ∀ p, p ∈ DL → W.heap[p]? = some (.deferred (some []))
  kp : KpL (B + 5) W5.heap.size W5 W
  sz : W5.heap.size ≤ W.heap.size
/-- within a round that began at V -/
structure RiN (B : Nat) (d mo : Int) (w W5 : World) (z : Nat) (G : List (List Int)) (DL : List Nat) (Lo B0 Bq n : Nat) (V : World) (k : Nat) (x vl : Value) (W : World) : Prop where
  b : RiB B d mo w W k vl
  l : 0 < k → Lz W z vl (G.getD (k - 1) [])
  x : Lz W z x (G.getD k [])
  dl : ∀ p, p ∈ DL → W.heap[p]? = some (.deferred (some []))
  kp : KpL (B + 5) W5.heap.size W5 W
  sz : W5.heap.size ≤ W.heap.size
  km : KpM Lo B0 Bq n V W
  sq : Bq + n ≤ W.heap.size
theorem RiI.chg {W5 : World} {z Bq n : Nat} {G : List (List Int)} {DL : List Nat} (h : RiI B d mo w W5 z G DL k W) (hb : Chg Bq n W W') (hq : B + 5 ≤ Bq) (hq5 : W5.heap.size ≤ Bq) (hz : Bq + n ≤ z) (hd : ∀ p, p ∈ DL → p < Bq) : RiI B d mo w W5 z G DL k W' := by
  obtain ⟨⟨vl, h1, h2⟩, h3, h4, h5⟩ := h
  exact ⟨⟨vl, h1.chg hb hq, fun hk => (h2 hk).keep fun g hg hlt => hb.block g hlt (by omega)⟩, fun p hp => (hb.block p (Array.getElem?_eq_some_iff.1 (h3 p hp)).1 (by have := hd p hp; omega)).trans (h3 p hp), fun g hg hlt => (hb.block g (by omega) (by omega)).trans (h4 g hg hlt), Nat.le_trans h5 hb.size⟩
theorem RiI.later {W5 : World} {z : Nat} {G : List (List Int)} {DL : List Nat} (h : RiI B d mo w W5 z G DL k W) (hb : Below W.heap.size W W') : RiI B d mo w W5 z G DL k W' := by
  obtain ⟨⟨vl, h1, h2⟩, h3, h4, h5⟩ := h
  exact ⟨⟨vl, h1.later hb, fun hk => (h2 hk).keep fun g hg hlt => hb.block g hlt⟩, fun p hp => (hb.block p (Array.getElem?_eq_some_iff.1 (h3 p hp)).1).trans (h3 p hp), fun g hg hlt => (hb.block g (by omega)).trans (h4 g hg hlt), Nat.le_trans h5 hb.size⟩
theorem RiI.enter {A W1 W5 : World} {z Bq c : Nat} {G : List (List Int)} {DL : List Nat} {x : Value} (h : RiI B d mo w W5 z G DL k A) (hAW : Below A.heap.size A W1) (hD : LzD G k A x W1) (hc : Chg Bq 2 W1 W) (hz : W.heap.size = W1.heap.size) (hs : Bq + 2 + c ≤ A.heap.size) (hzz : z = Bq + (c + 2)) (hq : B + 5 ≤ Bq) (hq5 : W5.heap.size ≤ Bq) (hdl : ∀ p, p ∈ DL → p < Bq) (Lo B0 : Nat) : ∃ vl, RiN B d mo w W5 z G DL Lo B0 Bq (c + 2) W k x vl W := by
  obtain ⟨⟨vl, h1, h2⟩, h3, h4, h5⟩ := (h.later hAW).chg hc hq hq5 (by omega) hdl
  have hsz := hAW.size
  have hD : Lz W1 A.heap.size x (G.getD k []) := hD
  refine ⟨vl, h1, h2, ?_, h3, h4, h5, KpM.refl _ _ _ _ _, by omega⟩
  obtain ⟨q1, q2⟩ := hD.keep (W' := W) fun g hg hlt => hc.block g hlt (by omega)
  exact ⟨q1, fun g off n c' e => by have := q2 g off n c' e; omega⟩
section
variable {W5 V : World} {z Lo B0 Bq n : Nat} {G : List (List Int)} {DL : List Nat} {x : Value}
theorem RiN.later (h : RiN B d mo w W5 z G DL Lo B0 Bq n V k x vl W) (hb : Below W.heap.size W W') (hB0 : B0 ≤ Bq) : RiN B d mo w W5 z G DL Lo B0 Bq n V k x vl W' := by
  have hq := h.sq
  have hz := h.sz
  exact ⟨h.b.later hb, fun hk => (h.l hk).keep fun g hg hlt => hb.block g hlt, h.x.keep fun g hg hlt => hb.block g hlt, fun p hp => (hb.block p (Array.getElem?_eq_some_iff.1 (h.dl p hp)).1).trans (h.dl p hp), fun g hg hlt => (hb.block g (by omega)).trans (h.kp g hg hlt), Nat.le_trans hz hb.size, ⟨Nat.le_trans h.km.size hb.size, fun g hg => (hb.block g (by omega)).trans (h.km.block g hg)⟩, Nat.le_trans hq hb.size⟩
/-- a round's end: last = l, k++ -/
theorem RiN.end (h : RiN B d mo w W5 z G DL Lo B0 Bq n V k x vl W) (hB0 : B0 ≤ Bq) (hLo : B + 5 ≤ Lo) (hq : B + 5 ≤ Bq) (hzB : B + 5 ≤ z) (hd : ∀ p, p ∈ DL → B + 5 ≤ p) :
    KpM Lo B0 Bq n V ((W.setCell ⟨B + 4, 0, none⟩ x).setCell ⟨B + 3, 0, none⟩ (.int .i64 ((k : Int) + 1))) ∧ RiI B d mo w W5 z G DL (k + 1) ((W.setCell ⟨B + 4, 0, none⟩ x).setCell ⟨B + 3, 0, none⟩ (.int .i64 ((k : Int) + 1))) := by
  have hs := h.b.sz
  have hsq := h.sq
  have hsz := h.sz
  rw [show ((k : Int) + 1) = ((k + 1 : Nat) : Int) by omega]
  obtain ⟨a1, a2⟩ := h.b.putl x
  obtain ⟨b1, b2⟩ := a1.putk (k + 1)
  have old : ∀ g, B + 5 ≤ g → g < W.heap.size → ((W.setCell ⟨B + 4, 0, none⟩ x).setCell ⟨B + 3, 0, none⟩ (.int .i64 ((k + 1 : Nat) : Int))).heap[g]? = W.heap[g]? := fun g h1 h2 => (b2 g (by omega) (by simpa using h2)).trans (a2 g (by omega) h2)
  refine ⟨⟨by have := h.km.size; simpa using this, fun g hg => (old g (by omega) (by omega)).trans (h.km.block g hg)⟩, ⟨⟨x, b1, fun _ => ?_⟩, fun p hp => (old p (hd p hp) (Array.getElem?_eq_some_iff.1 (h.dl p hp)).1).trans (h.dl p hp), fun g hg hlt => (old g hg (by omega)).trans (h.kp g hg hlt), by simpa using hsz⟩⟩
  rw [Nat.add_sub_cancel]
  exact h.x.keep fun g hg hlt => old g (by omega) hlt
/-- the cells that a round reads -/
theorem RiN.cells (h : RiN B d mo w W5 z G DL Lo B0 Bq n V k x vl W) : (W.cell? ⟨B + 3, 0, none⟩ = some (.int .i64 (k : Int)) ∧ W.cell? ⟨B + 4, 0, none⟩ = some vl ∧ W.frozen? ⟨B + 4, 0, none⟩ = false ∧ W.cell? ⟨B, 0, none⟩ = some (.int .i64 d) ∧ W.cell? ⟨B + 1, 0, none⟩ = some (.int .i64 mo)) ∧ (W.setCell ⟨B + 4, 0, none⟩ x).cell? ⟨B + 3, 0, none⟩ = some (.int .i64 (k : Int)) ∧ (W.setCell ⟨B + 4, 0, none⟩ x).frozen? ⟨B + 3, 0, none⟩ = false := by
  have b := h.b
  obtain ⟨a1, a2⟩ := b.putl x
  exact ⟨⟨b.k.facts.1, b.l.cell, b.l.frozen, b.d.facts.1, b.m.facts.1⟩, a1.k.facts.1, (show Boxed _ (B + 3) 3 (.int .i64 (k : Int)) from a1.k).frozen⟩
end
theorem RiI.start {W5 : World} {z : Nat} {G : List (List Int)} {DL : List Nat} (h : RiB B d mo w W 0 vl) (hd : ∀ p, p ∈ DL → W.heap[p]? = some (.deferred (some []))) (hk : KpL (B + 5) W5.heap.size W5 W) (hs : W5.heap.size ≤ W.heap.size) : RiI B d mo w W5 z G DL 0 W := ⟨⟨vl, h, fun e => absurd e (Nat.lt_irrefl 0)⟩, hd, hk, hs⟩
/-- k = 0 -/
theorem RiI.zero {W5 : World} {z z' : Nat} {G G' : List (List Int)} {DL : List Nat} (h : RiI B d mo w W5 z G DL k W) (hd : ∀ p, p ∈ DL → B + 5 ≤ p) : RiI B d mo w W5 z' G' DL 0 (W.setCell ⟨B + 3, 0, none⟩ (.int .i64 0)) := by
  obtain ⟨⟨vl, h1, h2⟩, h3, h4, h5⟩ := h
  obtain ⟨b1, b2⟩ := h1.putk 0
  exact RiI.start b1 (fun p hp => (b2 p (by have := hd p hp; omega) (Array.getElem?_eq_some_iff.1 (h3 p hp)).1).trans (h3 p hp)) (fun g hg hlt => (b2 g (by omega) (by omega)).trans (h4 g hg hlt)) (by simpa using h5)
end
end Go.Proofs.Ytaiccmbhdgecgaa
