/-
  Br1: Books of rows: marks in memory (entries with a note alone), lists of them.
  Br2: Books of rows: what holds between two rounds of apartRows.
  Br3: Books of rows: apartRows: each list of rows has memory of its own.
  Br4: Books that hold lists of texts and of rows: Apart. Laid by mkbr4.py.
  Bytes: Bytes in memory: slices of bytes that can be read ('Reads'), those that a call has made and may append to ('Owns'), and the laws of append and make for them. No function of the program in sight.
  Groups: Numbers in groups of seven bits: the plain mathematics. No Go in sight.
  Nums: What the functions on numbers do to memory: one contract a function.
  Bn2: Books of rows: rows told as one text (told).
  Br5: Books that hold lists of texts and of rows: Still. Laid by mkbr5.py.
  Br6: Books that hold lists of texts and of rows: Texts. Laid by mkbr6.py out of Bk2 and Bk3.
  Br7: Books that hold lists of texts and of rows: Rows.
  Br8: Books that hold lists of texts and of rows: Rows, its end and its walk.
  Br9: Books that hold lists of texts and of rows: the walk of Rows.
  Lend: What is lent (a copy with marks in the room behind it), and whether it was kept.
-/
import Derived.Test.YtpgpeafmlijfkaaGreatDoorRdB1
import Derived.Deep.LoopGhost
import Derived.BigQuiet
import Derived.Test.YtpgpeafmlijfkaaGreatDoorRows
import Derived.WalkKit
import Derived.ProofKit
import Derived.Laws.AppendOwnNone
import Derived.Laws.IdiomStrings
import Derived.OpenShut
import Derived.Laws.BitsAllLaws
import Derived.Deep.RegionLaw
import Derived.Deep.DeepCutAuto
import Derived.Deep.RegionHeld3
import Derived.Deep.QuietTactic
namespace Go.Proofs.YtpgpeafmlijfkaaGreatDoor
open Go.RowKit
set_option maxRecDepth 100000
set_option linter.unusedVariables false
set_option linter.unusedSimpArgs false

/-- a mark, its block of colour 7 -/
def Mkd (col : Nat → Nat) (w : World) (v : Value) (i : Nat) : Prop := ∃ g c, v = .slice (some ⟨g, 0, none⟩) 1 c ∧ 1 ≤ c ∧ w.cell? ⟨g, 0, none⟩ = some (.string (nt i)) ∧ col g = 7
section
variable {col col' : Nat → Nat} {w w' : World} {v u : Value} {i n c : Nat} {L : List Value}
theorem Mkd.nm (h : Mkd col w v i) : Nm w v i := by
  obtain ⟨g, c, e, h1, h2, _⟩ := h
  exact ⟨g, c, e, h1, h2⟩
theorem Mkd.later (h : Mkd col w v i) (hb : LtC w w') : Mkd col w' v i := by
  obtain ⟨g, c, e, h1, h2, h3⟩ := h
  exact ⟨g, c, e, h1, belC0 hb h2, h3⟩
theorem Mkd.recol (h : Mkd col w v i) (hc : ∀ g, g < w.heap.size → col' g = col g) : Mkd col' w v i := by
  obtain ⟨g, c, e, h1, h2, h3⟩ := h
  exact ⟨g, c, e, h1, h2, (hc g (World.block_lt_of_cell? _ _ h2)).trans h3⟩
theorem Mkd.other {row : Option Nat} (h : Mkd col w v i) (hg : w.grownBy w' row) (hr : ∀ g, row = some g → col g = c) (hne : c ≠ 7) : Mkd col w' v i := by
  obtain ⟨g, c', e, h1, h2, h3⟩ := h
  refine ⟨g, c', e, h1, ?_, h3⟩
  have hk := hg.block g (World.block_lt_of_cell? _ _ h2) (fun e => hne (by rw [← hr g e.symm]; exact h3))
  simpa only [World.cell?, hk] using h2
theorem Mkd.app {row : Option Nat} (h : Mkd col w v i) (hg : w.grownBy w' row) (hr : ∀ g, row = some g → col g = c ∧ g < w.heap.size) (hcc : ∀ g, g < w.heap.size → col' g = col g) (hne : c ≠ 7) : Mkd col' w' v i :=
  (h.recol hcc).other hg (fun g e => (hcc g (hr g e).2).trans (hr g e).1) hne
/-- the colours behind a new mark -/
def mkC (col : Nat → Nat) (b : Nat) : Nat → Nat := fun g => if g = b then 7 else col g
theorem mkC_old (col : Nat → Nat) (b : Nat) : ∀ g, g < b → mkC col b g = col g := fun g h => by unfold mkC; rw [if_neg (by omega)]
theorem Mkd.new (col : Nat → Nat) (w : World) (i : Nat) : Mkd (mkC col w.heap.size) (w.alloc (.cells #[.string (nt i)] 9)) (.slice (some ⟨w.heap.size, 0, none⟩) 1 1) i :=
  ⟨w.heap.size, 1, rfl, Nat.le_refl _, by simp, by unfold mkC; rw [if_pos rfl]⟩
/-- the first n of a list are marks of i -/
def FilR (col : Nat → Nat) (w : World) (i : Nat) (L : List Value) (n : Nat) : Prop := ∀ q, q < n → ∃ u, L[q]? = some u ∧ Mkd col w u i
theorem FilR.later (h : FilR col w i L n) (hb : LtC w w') : FilR col w' i L n := fun q hq => by
  obtain ⟨u, h1, h2⟩ := h q hq
  exact ⟨u, h1, h2.later hb⟩
theorem FilR.recol (h : FilR col w i L n) (hc : ∀ g, g < w.heap.size → col' g = col g) : FilR col' w i L n := fun q hq => by
  obtain ⟨u, h1, h2⟩ := h q hq
  exact ⟨u, h1, h2.recol hc⟩
theorem FilR.other {row : Option Nat} (h : FilR col w i L n) (hg : w.grownBy w' row) (hr : ∀ g, row = some g → col g = c) (hne : c ≠ 7) : FilR col w' i L n := fun q hq => by
  obtain ⟨u, h1, h2⟩ := h q hq
  exact ⟨u, h1, h2.other hg hr hne⟩
theorem FilR.app {row : Option Nat} (h : FilR col w i L n) (hg : w.grownBy w' row) (hr : ∀ g, row = some g → col g = c ∧ g < w.heap.size) (hcc : ∀ g, g < w.heap.size → col' g = col g) (hne : c ≠ 7) : FilR col' w' i L n := fun q hq => by
  obtain ⟨u, h1, h2⟩ := h q hq
  exact ⟨u, h1, h2.app hg hr hcc hne⟩
theorem FilR.step (h : FilR col w i L n) (hn : n < L.length) (hu : Mkd col w u i) : FilR col w i (L.set n u) (n + 1) := fun q hq => by
  by_cases e : q = n
  · subst e
    exact ⟨u, by rw [List.getElem?_set_self hn], hu⟩
  · obtain ⟨x, h1, h2⟩ := h q (by omega)
    exact ⟨x, by rw [List.getElem?_set_ne (by omega)]; exact h1, h2⟩
theorem FilR.snoc (h : FilR col w i L L.length) (hu : Mkd col w u i) : FilR col w i (L ++ [u]) (L ++ [u]).length := fun q hq => by
  rw [List.length_append] at hq
  simp only [List.length_cons, List.length_nil] at hq
  by_cases e : q = L.length
  · subst e
    exact ⟨u, by simp, hu⟩
  · obtain ⟨x, h1, h2⟩ := h q (by omega)
    exact ⟨x, by rw [List.getElem?_append_left (by omega)]; exact h1, h2⟩
theorem FilR.at (h : FilR col w i L n) (q : Nat) (hq : q < n) (hl : q < L.length) : Mkd col w L[q] i := by
  obtain ⟨u, h1, h2⟩ := h q hq
  rw [List.getElem?_eq_getElem hl] at h1
  injection h1 with h1
  rw [h1]
  exact h2
end
/-- nothing below B, and nothing whose colour is not a list's of rows, has turned -/
structure Bz (B : Nat) (col : Nat → Nat) (w w' : World) : Prop where
  bel : Below B w w'
  oth : ∀ g, g < w.heap.size → col g % 8 ≠ 1 → w'.heap[g]? = w.heap[g]?
theorem Bz.refl (B : Nat) (col : Nat → Nat) (w : World) : Bz B col w w := ⟨Below.refl _ _, fun _ _ _ => rfl⟩
theorem Bz.set {B : Nat} {col : Nat → Nat} {w w' : World} (h : Bz B col w w') {g i : Nat} (hg : B ≤ g) (hl : g < w.heap.size → col g = 8 * i + 1) (k : Nat) (u : Value) : Bz B col w (w'.setCell ⟨g, k, none⟩ u) :=
  ⟨h.bel.setCell (p := ⟨g, k, none⟩) hg u, fun q hq hne => ((gb_set w' g k u).block q (Nat.lt_of_lt_of_le hq h.bel.size) (fun e => by injection e with e; subst e; have := hl hq; omega)).trans (h.oth q hq hne)⟩
theorem Bz.later {B : Nat} {col : Nat → Nat} {w w' w2 : World} (h : Bz B col w w') (hB : B ≤ w.heap.size) (hb : Below w'.heap.size w' w2) : Bz B col w w2 :=
  ⟨h.bel.trans (hb.mono (Nat.le_trans hB h.bel.size)), fun q hq hne => (hb.block q (Nat.lt_of_lt_of_le hq h.bel.size)).trans (h.oth q hq hne)⟩
theorem Bz.grown {B : Nat} {col : Nat → Nat} {w w' w2 : World} {row : Option Nat} (h : Bz B col w w') (hB : B ≤ w.heap.size) (hg : w'.grownBy w2 row) (hr : ∀ g, row = some g → B ≤ g ∧ (w.heap.size ≤ g ∨ col g % 8 = 1)) : Bz B col w w2 :=
  ⟨gb_below h.bel hB hg (fun g e => (hr g e).1), fun q hq hne => (hg.block q (Nat.lt_of_lt_of_le hq h.bel.size) (fun e => by rcases (hr q e.symm).2 with h | h <;> omega)).trans (h.oth q hq hne)⟩
theorem rtinf : (Tryz.prog.info? 30).map (fun i => (i.zero, i.size, i.bytes)) = some (some (.slice none 0 0), 1, 24) := by kernel_rfl
/-- lists of rows in memory -/
def R1 (col : Nat → Nat) (w : World) (B : Nat) (iv : Value) (V : List Value) (Y : Nat → List Value) : Prop := Ow eV 1 30 col 12 w B iv V ∧ RwG eV 1 28 (fun j => 8 * j + 1) col w B (fun _ => True) V Y
theorem R1.later {col : Nat → Nat} {w w' : World} {B : Nat} {iv : Value} {V : List Value} {Y : Nat → List Value} (h : R1 col w B iv V Y) (hb : Below w.heap.size w w') : R1 col w' B iv V Y := ⟨h.1.later hb, h.2.later hb⟩
theorem R1.recol {col col' : Nat → Nat} {w : World} {B : Nat} {iv : Value} {V : List Value} {Y : Nat → List Value} (h : R1 col w B iv V Y) (hc : ∀ g, g < w.heap.size → col' g = col g) : R1 col' w B iv V Y := ⟨h.1.recol hc, h.2.recol hc⟩
theorem R1.set {col : Nat → Nat} {w : World} {B : Nat} {iv : Value} {V : List Value} {Y : Nat → List Value} (h : R1 col w B iv V Y) (i k : Nat) (hi : i < V.length) (hk : k < (Y i).length) (x : Value) {g n cap : Nat} (hv : V[i] = .slice (some ⟨g, 0, none⟩) n cap) :
    R1 col (w.setCell ⟨g, k, none⟩ x) B iv V (fun j => if j = i then (Y i).set k x else Y j) := by
  have ho := h.2 i hi trivial
  have hcg : col g = 8 * i + 1 := ho.2 g (by rw [hv]; rfl)
  have gb := gb_set w g k x
  refine ⟨h.1.other gb (fun g' e => by cases e; exact hcg) (by (try dsimp only); omega), fun j hj _ => ?_⟩
  by_cases e : j = i
  · subst e
    show Ow eV 1 28 col (8 * j + 1) _ B V[j] (if j = j then (Y j).set k x else Y j)
    rw [if_pos rfl]
    exact ho.set1 eV_len k hk x hv rfl
  · show Ow eV 1 28 col (8 * j + 1) _ B V[j] (if j = i then (Y i).set k x else Y j)
    rw [if_neg e]
    exact (h.2 j hj trivial).other gb (fun g' e => by cases e; exact hcg) (by (try dsimp only); omega)
/-- while the grown lists are gathered -/
def R2 (col : Nat → Nat) (w : World) (B B2 : Nat) (iv mv : Value) (V M : List Value) (Y Z : Nat → List Value) : Prop := R1 col w B iv V Y ∧ Ow eV 1 30 col 28 w B2 mv M ∧ RwG eV 1 28 (fun j => 8 * j + 1) col w B (fun _ => True) M Z
theorem R2.later {col : Nat → Nat} {w w' : World} {B B2 : Nat} {iv mv : Value} {V M : List Value} {Y Z : Nat → List Value} (h : R2 col w B B2 iv mv V M Y Z) (hb : Below w.heap.size w w') : R2 col w' B B2 iv mv V M Y Z := ⟨h.1.later hb, h.2.1.later hb, h.2.2.later hb⟩
theorem R2.recol {col col' : Nat → Nat} {w : World} {B B2 : Nat} {iv mv : Value} {V M : List Value} {Y Z : Nat → List Value} (h : R2 col w B B2 iv mv V M Y Z) (hc : ∀ g, g < w.heap.size → col' g = col g) : R2 col' w B B2 iv mv V M Y Z := ⟨h.1.recol hc, h.2.1.recol hc, h.2.2.recol hc⟩
/-- an entry of a list of rows -/
theorem Ow.atV {t : TypeId} {col : Nat → Nat} {c : Nat} {w : World} {B : Nat} {v : Value} {L : List Value} (h : Ow eV 1 t col c w B v L) (i : Nat) (hi : i < L.length) : ∃ g cap, v = .slice (some ⟨g, 0, none⟩) L.length cap ∧ L.length ≤ cap ∧ w.cell? ⟨g, i, none⟩ = some L[i] ∧ w.frozen? ⟨g, i, none⟩ = false ∧ B ≤ g := by
  obtain ⟨g, cap, hv, h1, h2, _, _, hq, hf⟩ := Ow.at eV_len h i hi
  refine ⟨g, cap, hv, h1, ?_, hf _, h2⟩
  have := hq 0 L[i] rfl
  simpa using this
end Go.Proofs.YtpgpeafmlijfkaaGreatDoor

namespace Go.Proofs.YtpgpeafmlijfkaaGreatDoor
open Go.RowKit
set_option maxRecDepth 100000
set_option linter.unusedVariables false
set_option linter.unusedSimpArgs false

/-- lists 0 .. i-1 are written over, and n entries of the list i -/
def ApS (col : Nat → Nat) (w wz : World) (B : Nat) (iv : Value) (V : List Value) (X : Nat → List Value) (i n : Nat) : Prop :=
  ∃ (col4 : Nat → Nat) (Y4 : Nat → List Value), (∀ g, g < w.heap.size → col4 g = col g) ∧ R1 col4 wz B iv V Y4 ∧ (∀ a, (Y4 a).length = (X a).length) ∧ (∀ a, a < i → FilR col4 wz a (Y4 a) (Y4 a).length) ∧ FilR col4 wz i (Y4 i) n ∧ Bz B col w wz
section
variable {col : Nat → Nat} {w wz : World} {B : Nat} {iv mv : Value} {V M : List Value} {X : Nat → List Value} {i n q k : Nat}
theorem ApS.start (h : R1 col w B iv V X) : ApS col w w B iv V X 0 0 := ⟨col, X, fun _ _ => rfl, h, fun _ => rfl, fun a h => by omega, fun q h => by omega, Bz.refl _ _ _⟩
theorem ApS.next (h : ApS col w wz B iv V X i n) (hn : n = (X i).length) : ApS col w wz B iv V X (i + 1) 0 := by
  obtain ⟨c4, Y4, h1, h2, h3, h4, h5, h6⟩ := h
  refine ⟨c4, Y4, h1, h2, h3, fun a ha => ?_, fun q h => by omega, h6⟩
  by_cases e : a = i
  · subst e
    rw [h3 a, ← hn]
    exact h5
  · exact h4 a (by omega)
theorem ltc_alloc (w : World) (o : Obj) : LtC w (w.alloc o) := (Below.refl _ _).alloc (Nat.le_refl _) _
theorem ApS.step (h : ApS col w wz B iv V X i k) (hB : B ≤ w.heap.size) (hi : i < V.length) (hk : k < (X i).length) {gi m ci : Nat} (hv : V[i] = .slice (some ⟨gi, 0, none⟩) m ci) {w5 : World} (h5 : LtC wz w5) :
    ApS col w ((w5.alloc (.cells #[.string (nt i)] 9)).setCell ⟨gi, k, none⟩ (.slice (some ⟨w5.heap.size, 0, none⟩) 1 1)) B iv V X i (k + 1) := by
  obtain ⟨c1, Y, hC, hS, hl, hF, hFi, hZ⟩ := h
  have hz : w.heap.size ≤ w5.heap.size := Nat.le_trans hZ.bel.size h5.size
  have hmk := Mkd.new c1 w5 i
  have ho : ∀ g, g < w5.heap.size → mkC c1 w5.heap.size g = c1 g := mkC_old c1 _
  have la := ltc_alloc w5 (.cells #[.string (nt i)] 9)
  have hS6 := ((hS.later h5).recol ho).later la
  have ow := hS6.2 i hi trivial
  have hcg : mkC c1 w5.heap.size gi = 8 * i + 1 := ow.2 gi (by rw [hv]; rfl)
  have hBg : B ≤ gi := (ow.lt gi (by rw [hv]; rfl)).1
  have gb := gb_set (w5.alloc (.cells #[.string (nt i)] 9)) gi k (.slice (some ⟨w5.heap.size, 0, none⟩) 1 1)
  have hr : ∀ g, some gi = some g → mkC c1 w5.heap.size g = 8 * i + 1 := fun g e => by cases e; exact hcg
  refine ⟨mkC c1 w5.heap.size, _, fun g hg => (ho g (by omega)).trans (hC g hg), hS6.set i k hi (by rw [hl]; exact hk) _ hv, fun a => ?_, fun a ha => ?_, ?_, ?_⟩
  · show (if a = i then (Y i).set k _ else Y a).length = _
    by_cases e : a = i
    · subst e; rw [if_pos rfl, List.length_set]; exact hl _
    · rw [if_neg e]; exact hl a
  · show FilR _ _ a (if a = i then (Y i).set k _ else Y a) (if a = i then (Y i).set k _ else Y a).length
    rw [if_neg (by omega)]
    exact ((((hF a ha).later h5).recol ho).later la).other gb hr (by omega)
  · show FilR _ _ i (if i = i then (Y i).set k _ else Y i) (k + 1)
    rw [if_pos rfl]
    exact (((((hFi.later h5).recol ho).later la).other gb hr (by omega))).step (by rw [hl]; exact hk) (hmk.other gb hr (by omega))
  · exact ((hZ.later hB h5).later hB la).set hBg (i := i) (fun hg => by rw [← hC gi hg, ← ho gi (by omega)]; exact hcg) k _
/-- while the grown lists are gathered -/
def ApM (col : Nat → Nat) (w wz : World) (B : Nat) (iv mv : Value) (V M : List Value) (X : Nat → List Value) : Prop :=
  ∃ (c2 : Nat → Nat) (Y Z : Nat → List Value), (∀ g, g < w.heap.size → c2 g = col g) ∧ R2 c2 wz B w.heap.size iv mv V M Y Z ∧ (∀ a, (Y a).length = (X a).length) ∧ (∀ a, a < V.length → FilR c2 wz a (Y a) (Y a).length) ∧ (∀ a, a < M.length → (Z a).length = (X a).length + 9 ∧ FilR c2 wz a (Z a) (Z a).length) ∧ Bz B col w wz
/-- the same, and a list that is grown, with colours c2 -/
def ApN (c2 col : Nat → Nat) (w wz : World) (B : Nat) (iv mv : Value) (V M : List Value) (X : Nat → List Value) (q k : Nat) (v : Value) (L : List Value) (Y Z : Nat → List Value) : Prop :=
  ((∀ g, g < w.heap.size → c2 g = col g) ∧ R2 c2 wz B w.heap.size iv mv V M Y Z ∧ (∀ a, (Y a).length = (X a).length) ∧ (∀ a, a < V.length → FilR c2 wz a (Y a) (Y a).length) ∧ (∀ a, a < M.length → (Z a).length = (X a).length + 9 ∧ FilR c2 wz a (Z a) (Z a).length) ∧ Bz B col w wz) ∧ Ow eV 1 28 c2 (8 * q + 1) wz B v L ∧ L.length = (X q).length + k ∧ FilR c2 wz q L L.length
theorem ApS.gather (h : ApS col w wz B iv V X i n) (hi : i = V.length) : ApM col w wz B iv (.slice none 0 0) V [] X := by
  obtain ⟨c4, Y4, h1, h2, h3, h4, h5, h6⟩ := h
  exact ⟨c4, Y4, Y4, h1, ⟨h2, Ow.nil _ _ _ _, RwG.nil _ _ _ _ _ _ _ _ _⟩, h3, fun a ha => h4 a (by omega), fun a ha => by simp at ha, h6⟩
variable {c2 : Nat → Nat} {v : Value} {L : List Value} {Y Z : Nat → List Value}
/-- behind a mark and a list of it -/
theorem ApN.mark (h : ApN c2 col w wz B iv mv V M X q k v L Y Z) (hB : B ≤ w.heap.size) {w5 : World} (h5 : LtC wz w5) :
    ApN (mkC c2 w5.heap.size) col w ((w5.alloc (.cells #[.string (nt q)] 9)).alloc (.cells #[.slice (some ⟨w5.heap.size, 0, none⟩) 1 1] 28)) B iv mv V M X q k v L Y Z ∧ Mkd (mkC c2 w5.heap.size) ((w5.alloc (.cells #[.string (nt q)] 9)).alloc (.cells #[.slice (some ⟨w5.heap.size, 0, none⟩) 1 1] 28)) (.slice (some ⟨w5.heap.size, 0, none⟩) 1 1) q := by
  obtain ⟨⟨h1, h2, h3, h4, h6, h7⟩, h8, h9, h10⟩ := h
  have hz : w.heap.size ≤ w5.heap.size := Nat.le_trans h7.bel.size h5.size
  have ho : ∀ g, g < w5.heap.size → mkC c2 w5.heap.size g = c2 g := mkC_old c2 _
  have la := LtC.step (ltc_alloc w5 (.cells #[.string (nt q)] 9)) (ltc_alloc (w5.alloc (.cells #[.string (nt q)] 9)) (.cells #[.slice (some ⟨w5.heap.size, 0, none⟩) 1 1] 28))
  refine ⟨⟨⟨fun g hg => (ho g (by omega)).trans (h1 g hg), ((h2.later h5).recol ho).later la, h3, fun a ha => (((h4 a ha).later h5).recol ho).later la, fun a ha => ⟨(h6 a ha).1, (((h6 a ha).2.later h5).recol ho).later la⟩, (h7.later hB h5).later hB la⟩, ((h8.later h5).recol ho).later la, h9, ((h10.later h5).recol ho).later la⟩, (Mkd.new c2 w5 q).later (ltc_alloc _ _)⟩
theorem ApN.app (h : ApN c2 col w wz B iv mv V M X q k v L Y Z) (hM : M.length = q) (hB : B ≤ w.heap.size) {u : Value} (hu : Mkd c2 wz u q) {w5 : World} {c4 : Nat → Nat} {v' : Value} (ho5 : Ow eV 1 28 c4 (8 * q + 1) w5 B v' (L ++ [u]))
    (hkeep : ∀ u' c (L2 : List Value), Ow eV 1 28 c2 c wz B u' L2 → L2.length ≤ L.length → Ow eV 1 28 c4 c w5 B u' L2) {row : Option Nat} (hg5 : wz.grownBy w5 row) (hrow : ∀ g, row = some g → B ≤ g) (hr5 : ∀ g, row = some g → c2 g = 8 * q + 1 ∧ g < wz.heap.size) (hc5 : ∀ g, g < wz.heap.size → c4 g = c2 g) :
    ApN c4 col w w5 B iv mv V M X q (k + 1) v' (L ++ [u]) Y Z := by
  obtain ⟨⟨h1, h2, h3, h4, h6, h7⟩, h8, h9, h10⟩ := h
  have hz := h7.bel.size
  refine ⟨⟨fun g hg => (hc5 g (by omega)).trans (h1 g hg), ⟨⟨h2.1.1.app hg5 hr5 hc5 (by omega), fun j hj _ => ?_⟩, h2.2.1.app hg5 hr5 hc5 (by omega), h2.2.2.app hg5 hr5 hc5 (fun j hj _ => by (try dsimp only); omega)⟩, h3, fun a ha => (h4 a ha).app hg5 hr5 hc5 (by omega), fun a ha => ⟨(h6 a ha).1, (h6 a ha).2.app hg5 hr5 hc5 (by omega)⟩, ?_⟩, ho5, by rw [List.length_append, h9]; rfl, (h10.app hg5 hr5 hc5 (by omega)).snoc (hu.app hg5 hr5 hc5 (by omega))⟩
  · by_cases e : j = q
    · subst e
      exact hkeep _ _ _ (h2.1.2 j hj trivial) (by rw [h3, h9]; omega)
    · exact (h2.1.2 j hj trivial).app hg5 hr5 hc5 (by (try dsimp only); omega)
  · exact h7.grown hB hg5 (fun g e => ⟨hrow g e, by
      rcases Nat.lt_or_ge g w.heap.size with h | h
      · right
        rw [← h1 g h, (hr5 g e).1]
        omega
      · exact .inl h⟩)
theorem ApN.later (h : ApN c2 col w wz B iv mv V M X q k v L Y Z) (hB : B ≤ w.heap.size) {w5 : World} (h5 : LtC wz w5) : ApN c2 col w w5 B iv mv V M X q k v L Y Z := by
  obtain ⟨⟨h1, h2, h3, h4, h6, h7⟩, h8, h9, h10⟩ := h
  exact ⟨⟨h1, h2.later h5, h3, fun a ha => (h4 a ha).later h5, fun a ha => ⟨(h6 a ha).1, (h6 a ha).2.later h5⟩, h7.later hB h5⟩, h8.later h5, h9, h10.later h5⟩
theorem ApN.push (h : ApN c2 col w wz B iv mv V M X q 9 v L Y Z) (hM : M.length = q) (hB : B ≤ w.heap.size) {w5 : World} {c4 : Nat → Nat} {v' : Value} (ho5 : Ow eV 1 30 c4 28 w5 w.heap.size v' (M ++ [v]))
    {row : Option Nat} (hg5 : wz.grownBy w5 row) (hrow : ∀ g, row = some g → w.heap.size ≤ g) (hr5 : ∀ g, row = some g → c2 g = 28 ∧ g < wz.heap.size) (hc5 : ∀ g, g < wz.heap.size → c4 g = c2 g) :
    ApM col w w5 B iv v' V (M ++ [v]) X := by
  obtain ⟨⟨h1, h2, h3, h4, h6, h7⟩, h8, h9, h10⟩ := h
  have hz := h7.bel.size
  have hLn : ∀ a, a < M.length → (if a = q then L else Z a) = Z a := fun a ha => if_neg (by omega)
  refine ⟨c4, Y, fun a => if a = q then L else Z a, fun g hg => (hc5 g (by omega)).trans (h1 g hg), ⟨⟨h2.1.1.app hg5 hr5 hc5 (by omega), h2.1.2.app hg5 hr5 hc5 (fun j hj _ => by (try dsimp only); omega)⟩, ho5, RwG.snoc (fun j hj hp => ?_) fun _ => ?_⟩, h3, fun a ha => (h4 a ha).app hg5 hr5 hc5 (by omega), fun a ha => ?_, h7.grown hB hg5 (fun g e => ⟨Nat.le_trans hB (hrow g e), .inl (hrow g e)⟩)⟩
  · have := (h2.2.2 j hj hp).app hg5 hr5 hc5 (by (try dsimp only); omega)
    show Ow _ _ _ _ _ _ _ _ (if j = q then L else Z j)
    rw [hLn j hj]
    exact this
  · show Ow _ _ _ _ (8 * M.length + 1) _ _ _ (if M.length = q then L else Z M.length)
    rw [if_pos hM, hM]
    exact h8.app hg5 hr5 hc5 (by omega)
  · rw [List.length_append] at ha
    simp only [List.length_cons, List.length_nil] at ha
    show (if a = q then L else Z a).length = _ ∧ FilR _ _ a (if a = q then L else Z a) (if a = q then L else Z a).length
    by_cases e : a = q
    · subst e
      rw [if_pos rfl]
      exact ⟨h9, h10.app hg5 hr5 hc5 (by omega)⟩
    · rw [if_neg e]
      exact ⟨(h6 a (by omega)).1, (h6 a (by omega)).2.app hg5 hr5 hc5 (by omega)⟩
/-- the same, for some colours and lists -/
def ApE (col : Nat → Nat) (w wz : World) (B : Nat) (iv mv : Value) (V M : List Value) (X : Nat → List Value) (q k : Nat) (v : Value) : Prop := ∃ (c2 : Nat → Nat) (L : List Value) (Y Z : Nat → List Value), ApN c2 col w wz B iv mv V M X q k v L Y Z
theorem ApM.begin (h : ApM col w wz B iv mv V M X) (hq : q < V.length) : ApE col w wz B iv mv V M X q 0 V[q] := by
  obtain ⟨c2, Y, Z, h1, h2, h3, h4, h6, h7⟩ := h
  exact ⟨c2, Y q, Y, Z, ⟨h1, h2, h3, h4, h6, h7⟩, h2.1.2 q hq trivial, h3 q, h4 q hq⟩
end
end Go.Proofs.YtpgpeafmlijfkaaGreatDoor

namespace Go.Proofs.YtpgpeafmlijfkaaGreatDoor
open Go.RowKit
set_option maxRecDepth 100000
set_option linter.unusedVariables false
set_option linter.unusedSimpArgs false

set_option maxHeartbeats 8000000 in
theorem apRows_any (w : World) (B : Nat) (col : Nat → Nat) (iv : Value) (V : List Value) (X : Nat → List Value) (hI : R1 col w B iv V X) (hB : B ≤ w.heap.size) (hX : ∀ j, (X j).length ≤ 1000000000000) (hl : V.length ≤ 5000000000000) :
    Calls Tryz.prog 44 #[iv] w fun e w' => e = .returned (.bool true) ∧ Bz B col w w' := by
  obtain ⟨io, ic, hiv⟩ := hI.1.sl
  subst hiv
  have HI := hib hI
  have HX := hib hX
  clear hI hX
  go_enter Tryz.func44, Tryz.ntmps44
  go_wp2_with fail
  go_loopg [3] V.length (fun g s3 wr => ∃ (i : Nat), i ≤ V.length ∧ V.length - i ≤ g ∧ s3 = .int .i64 (i : Int) ∧ Hid (ApS col w wr B (.slice io V.length ic) V X i 0))
  case atStart => exact ⟨0, Nat.zero_le _, Nat.le_refl _, rfl, hib (ApS.start HI.out)⟩
  case round =>
    obtain ⟨i, hi, hm, h3, HS⟩ := hrel
    subst h3
    by_cases hlt : i < V.length
    · have hltI : (i : Int) < (V.length : Int) := by omega
      have hdI : decide (i < V.length) = true := by simp; exact hlt
      obtain ⟨gO, hgO⟩ : ∃ gO, gO = gk := ⟨_, rfl⟩
      obtain ⟨c1, Y1, _, hS1, hY1, _⟩ := HS.out
      obtain ⟨bk, kc, hkv, hkc, _⟩ := hS1.1.cellV i hlt
      injection hkv with e1 _ e3
      subst e1 e3
      obtain ⟨ai, ci, hvi⟩ := (hS1.2 i hlt trivial).sl
      obtain ⟨N, hN⟩ : ∃ N, N = (X i).length := ⟨_, rfl⟩
      rw [hY1 i, ← hN] at hvi
      have HVI := hib hvi
      have HN := hib hN
      have hNl : N ≤ 1000000000000 := by rw [hN]; exact HX.out i
      have HG := hib (And.intro hgO hm)
      clear hvi hN hgO hm hS1 hY1
      go_wp2_with fail
      go_loopg [4] N (fun g s4 wr => ∃ (k : Nat), k ≤ N ∧ N - k ≤ g ∧ s4 = .int .i64 (k : Int) ∧ Hid (ApS col w wr B (.slice (some ⟨bk, 0, none⟩) V.length ic) V X i k))
      case atStart => exact ⟨0, Nat.zero_le _, Nat.le_refl _, rfl, HS⟩
      case round =>
        obtain ⟨k, hk, hm2, h4, HS2⟩ := hrel
        subst h4
        obtain ⟨c2, Y2, _, hS2, hY2, _⟩ := HS2.out
        have ck : wr.cell? ⟨bk, i, none⟩ = some (.slice ai N ci) := by
          obtain ⟨g', c', e, _, hq⟩ := hS2.1.cellV i hlt
          cases e
          rw [HVI.out] at hq
          exact hq
        clear HS
        by_cases hk3 : k < N
        · have hkI : (k : Int) < (N : Int) := by omega
          have hdk : decide (k < N) = true := by simp; exact hk3
          obtain ⟨gi, ci', e, hci, hc, hf, hBg⟩ := (hS2.2 i hlt trivial).atV k (by rw [hY2 i, ← HN.out]; exact hk3)
          rw [HVI.out] at e
          injection e with e1 e2 e3
          subst e1 e3
          obtain ⟨z0, hz0⟩ : ∃ z, wr.cell? ⟨gi, k, none⟩ = some z := ⟨_, hc⟩
          have HW3 := hib (fun w5 (h5 : LtC wr w5) => HS2.out.step hB hlt (show k < (X i).length by rw [← HN.out]; exact hk3) HVI.out h5)
          have KK := hib (show ∀ wx, LtC wr wx → wx.cell? ⟨bk, i, none⟩ = some (.slice (some ⟨gi, 0, none⟩) N ci) ∧ wx.cell? ⟨gi, k, none⟩ = some z0 ∧ wx.frozen? ⟨gi, k, none⟩ = false from fun wx hx => ⟨belC0 hx ck, belC0 hx hz0, (World.frozen?_of_block (hx.block gi (World.block_lt_of_cell? _ _ hz0))).trans hf⟩)
          have HNo := hib (fun wx => noteA i (by omega) wx)
          have K0 := LtC.refl wr
          have K1 := LtC.drew wr
          clear hc e2 hk3 hS2 hY2
          go_upto_region 7 with fail
          obtain ⟨d1, d2, d3⟩ := KK.out _ K1
          go_region_with (first
            | (go_at_call 61; refine (HNo.out _).mono ?_; rintro e w5 ⟨rfl, s5⟩; have K5 := LtC.step (by assumption) s5; obtain ⟨f1, f2, f3⟩ := KK.out _ K5; obtain ⟨g1, g2, g3⟩ := KK.out _ (LtC.step K5 (ltc_alloc w5 (.cells #[.string (nt i)] 9))); clear s5))
          all_goals go_wp2
          all_goals go_roundg (gk - 1)
          all_goals first
            | omega
            | exact ⟨k + 1, by omega, by omega, by first | rfl | go_num, hib (HW3.out _ (by assumption))⟩
        · have hkI : ¬ (k : Int) < (N : Int) := by omega
          have hdk : decide (k < N) = false := by simp; omega
          have HF3 := hib (HS2.out.next (by rw [← HN.out]; omega))
          clear hk3 hm2 hS2 hY2
          go_wp2
          go_roundg (gO - 1)
          case measure => obtain ⟨h1, h2⟩ := HG.out; omega
          case rel => exact ⟨i + 1, by omega, by obtain ⟨h1, h2⟩ := HG.out; omega, by first | rfl | go_num, HF3⟩
    · have hltI : ¬ (i : Int) < (V.length : Int) := by omega
      have hdI : decide (i < V.length) = false := by simp; omega
      have HM0 := hib (HS.out.gather (by omega))
      clear hm hlt HS
      go_wp2_with fail
      go_loopg [5, 6] V.length (fun g s5 s6 wr => ∃ (q : Nat) (M : List Value), q ≤ V.length ∧ V.length - q ≤ g ∧ s6 = .int .i64 (q : Int) ∧ Hid (M.length = q) ∧ Hid (ApM col w wr B (.slice io V.length ic) s5 V M X))
      case atStart => exact ⟨0, [], Nat.zero_le _, Nat.le_refl _, rfl, hib rfl, HM0⟩
      case round =>
        obtain ⟨q, M, hq, hm, h6, HM, HS2⟩ := hrel
        subst h6
        clear HM0
        obtain ⟨c2, Y2, Z2, _, hS2, _⟩ := HS2.out
        obtain ⟨mo, mc, hmv⟩ := hS2.2.1.sl
        rw [HM.out] at hmv
        subst hmv
        by_cases hlt : q < V.length
        · have hltI : (q : Int) < (V.length : Int) := by omega
          have hdI : decide (q < V.length) = true := by simp; exact hlt
          obtain ⟨gO, hgO⟩ : ∃ gO, gO = gk := ⟨_, rfl⟩
          obtain ⟨bk, kc, hkv, hkc, ck⟩ := hS2.1.1.cellV q hlt
          injection hkv with e1 _ e3
          subst e1 e3
          have hXl := HX.out q
          have HE := hib (HS2.out.begin hlt)
          obtain ⟨V9, hV9⟩ : ∃ u, u = V[q] := ⟨_, rfl⟩
          rw [← hV9] at ck HE
          have HG := hib (And.intro hgO hm)
          clear hgO hm hV9 hS2
          go_wp2_with fail
          go_loopg [7, 8] 9 (fun g s7 s8 wr => ∃ (k : Nat), k ≤ 9 ∧ 9 - k ≤ g ∧ s8 = .int .i64 (k : Int) ∧ Hid (ApE col w wr B (.slice (some ⟨bk, 0, none⟩) V.length ic) (.slice mo q mc) V M X q k s7))
          case atStart => exact ⟨0, by omega, by omega, rfl, HE⟩
          case round =>
            obtain ⟨k, hk, hm2, h8, HE3⟩ := hrel
            subst h8
            clear HE HS2 ck
            obtain ⟨c3, L, Y, Z, hN3⟩ := HE3.out
            have HN3 := hib hN3
            obtain ⟨o7, c7, hv7⟩ := hN3.2.1.sl
            obtain ⟨ln, hln⟩ : ∃ ln, ln = L.length := ⟨_, rfl⟩
            have HLk := hib hN3.2.2.1
            have hLk : L.length ≤ 1000000000009 := by have := HLk.out; omega
            have hww : w.heap.size ≤ wr.heap.size := hN3.1.2.2.2.2.2.bel.size
            rw [← hln] at hv7
            subst hv7
            have HLn := hib hln
            clear hln hN3 HE3
            by_cases hk9 : k < 9
            · have hkI : (k : Int) < 9 := by omega
              have hdk : decide (k < 9) = true := by simp; exact hk9
              have HNo := hib (noteA q (by omega) wr)
              go_wp2_with fail
              refine Calls.mono HNo.out ?_
              rintro e wq ⟨rfl, bq⟩
              have hwq : w.heap.size ≤ wq.heap.size := by have := bq.size; omega
              have hmk := HN3.out.mark hB bq
              have HN4 := hib hmk.1
              have HMk := hib hmk.2
              have hsz : (wq.alloc (.cells #[.string (nt q)] 9)).heap.size = wq.heap.size + 1 := by simp
              have hnew := cell_newV (wq.alloc (.cells #[.string (nt q)] 9)) (.slice (some ⟨wq.heap.size, 0, none⟩) 1 1) 28
              rw [hsz] at hnew
              have HNw := hib hnew
              have HL := hib (show (L.length + ([.slice (some ⟨wq.heap.size, 0, none⟩) 1 1] : List Value).length) * 24 ≤ 140737488355328 ∧ L.length + ([.slice (some ⟨wq.heap.size, 0, none⟩) 1 1] : List Value).length ≤ maxLen from ⟨by simp; omega, by unfold maxLen; simp; omega⟩)
              have HBa := hib (show B ≤ ((wq.alloc (.cells #[.string (nt q)] 9)).alloc (.cells #[.slice (some ⟨wq.heap.size, 0, none⟩) 1 1] 28)).heap.size by simp; omega)
              clear hnew hmk bq HNo HN3 hsz
              go_wp2_with (at_builtin; refine wpList_appD stinf Tryz.underlying30 rfl (by decide) eV_len rfl (.tmp 49) (.tmp 53) rfl rfl HN4.out.2.1 _ _ _ [.slice (some ⟨wq.heap.size, 0, none⟩) 1 1] rfl rfl (fun x hx => by simp at hx; subst hx; simp [eV, Value.oneCell']) HNw.out HL.out.1 HL.out.2 HBa.out ?n1)
              case n1 =>
              intro v' w5 col4 ho5 hkeep hg5 hr5' hc5'
              have hr5 := fun g e => And.intro (hr5' g e).1 (show g < ((wq.alloc (.cells #[.string (nt q)] 9)).alloc (.cells #[.slice (some ⟨wq.heap.size, 0, none⟩) 1 1] 28)).heap.size by simpa using (hr5' g e).2)
              have hc5 := fun g (h : g < ((wq.alloc (.cells #[.string (nt q)] 9)).alloc (.cells #[.slice (some ⟨wq.heap.size, 0, none⟩) 1 1] 28)).heap.size) => hc5' g (by simpa using h)
              clear hr5' hc5'
              have HE5 := hib (show ApE col w w5 B (.slice (some ⟨bk, 0, none⟩) V.length ic) (.slice mo q mc) V M X q (k + 1) v' from ⟨col4, _, Y, Z, HN4.out.app HM.out hB HMk.out ho5 hkeep hg5 (fun g e => (HN4.out.2.1.lt g e).1) hr5 hc5⟩)
              obtain ⟨o5, c5, hv5⟩ := ho5.sl
              clear ho5 hkeep hg5 hr5 hc5 HN4 HMk HNw HL HBa hk9
              subst hv5
              go_wp2
              go_roundg (gk - 1)
              case measure => omega
              case rel => exact ⟨k + 1, by omega, by omega, by first | rfl | go_num, HE5⟩
            · have hkI : ¬ (k : Int) < 9 := by omega
              have hdk : decide (k < 9) = false := by simp; omega
              have hk0 : k = 9 := by omega
              subst hk0
              have HN4 := hib (HN3.out.later hB (ltc_alloc wr (.cells #[.slice o7 ln c7] 30)))
              have HNw := hib (cell_newV wr (.slice o7 ln c7) 30)
              have hML := HM.out
              have HL := hib (show (M.length + ([.slice o7 ln c7] : List Value).length) * 24 ≤ 140737488355328 ∧ M.length + ([.slice o7 ln c7] : List Value).length ≤ maxLen from ⟨by simp; omega, by unfold maxLen; simp; omega⟩)
              have HBa := hib (show w.heap.size ≤ (wr.alloc (.cells #[.slice o7 ln c7] 30)).heap.size by simp; omega)
              clear HN3 hML hk9
              go_wp2_with (at_builtin; refine wpList_appD rtinf Tryz.underlying34 rfl (by decide) eV_len rfl (.tmp 55) (.tmp 57) rfl rfl HN4.out.1.2.1.2.1 _ _ _ [.slice o7 ln c7] rfl rfl (fun x hx => by simp at hx; subst hx; simp [eV, Value.oneCell']) HNw.out HL.out.1 HL.out.2 HBa.out ?n2)
              case n2 =>
              intro v' w5 col4 ho5 hkeep hg5 hr5' hc5'
              have hr5 := fun g e => And.intro (hr5' g e).1 (show g < (wr.alloc (.cells #[.slice o7 ln c7] 30)).heap.size by simpa using (hr5' g e).2)
              have hc5 := fun g (h : g < (wr.alloc (.cells #[.slice o7 ln c7] 30)).heap.size) => hc5' g (by simpa using h)
              clear hr5' hc5'
              have HS5 := hib (show ApM col w w5 B (.slice (some ⟨bk, 0, none⟩) V.length ic) v' V (M ++ [.slice o7 ln c7]) X from HN4.out.push HM.out hB ho5 hg5 (fun g e => (HN4.out.1.2.1.2.1.lt g e).1) hr5 hc5)
              have HM5 := hib (show (M ++ [Value.slice o7 ln c7]).length = q + 1 by rw [List.length_append, HM.out]; rfl)
              obtain ⟨o5, c5, hv5⟩ := ho5.sl
              clear ho5 hkeep hg5 hr5 hc5 HN4 HNw HL HBa
              subst hv5
              go_wp2
              go_roundg (gO - 1)
              case measure => obtain ⟨h1, h2⟩ := HG.out; omega
              case rel => exact ⟨q + 1, _, by omega, by obtain ⟨h1, h2⟩ := HG.out; omega, by first | rfl | go_num, HM5, HS5⟩
        · have hltI : ¬ (q : Int) < (V.length : Int) := by omega
          have hdI : decide (q < V.length) = false := by simp; omega
          have hqV : q = V.length := by omega
          have HMV := hib (show M.length = V.length by rw [HM.out]; exact hqV)
          clear hm hlt hS2
          go_wp2_with fail
          obtain ⟨w6, hw6⟩ : ∃ w6, w6 = wr := ⟨_, rfl⟩
          subst hw6
          go_loopg [9] V.length (fun g s9 wc => ∃ (p : Nat), p ≤ V.length ∧ V.length - p ≤ g ∧ s9 = .int .i64 (p : Int) ∧ Hid (LtC w6 wc))
          case atStart => exact ⟨0, Nat.zero_le _, Nat.le_refl _, rfl, hib (LtC.refl _)⟩
          case round =>
            obtain ⟨p, hp, hm, h9, HL9⟩ := hrel
            subst h9
            by_cases hlt : p < V.length
            · have hltI : (p : Int) < (V.length : Int) := by omega
              have hdI : decide (p < V.length) = true := by simp; exact hlt
              obtain ⟨gO, hgO⟩ : ∃ gO, gO = gk := ⟨_, rfl⟩
              have hltM : p < M.length := by rw [HMV.out]; exact hlt
              obtain ⟨c6, Y6, Z6, _, hS6, hY6, hF6, hZ6, hB6⟩ := HS2.out
              obtain ⟨bk, kc, hkv, hkc, ck⟩ := hS6.1.1.cellV p hlt
              injection hkv with e1 _ e3
              subst e1 e3
              obtain ⟨bm, kc2, hmv, hkc2, cm⟩ := hS6.2.1.cellV p hltM
              injection hmv with e1 e2 e3
              subst e1 e3
              obtain ⟨ap, cp, hvp⟩ := (hS6.1.2 p hlt trivial).sl
              have hZl := (hZ6 p hltM).1
              have h0Z : 0 < (Z6 p).length := by omega
              obtain ⟨gm, cpm, hmp, hcm, hx0⟩ := (hS6.2.2 p hltM trivial).atV 0 h0Z
              clear hx0
              obtain ⟨N, hN⟩ : ∃ N, N = (X p).length := ⟨_, rfl⟩
              obtain ⟨N9, hN9⟩ : ∃ N9, N9 = (Z6 p).length := ⟨_, rfl⟩
              have hN9' : N9 = N + 9 := by rw [hN9, hN]; exact hZl
              rw [hY6 p, ← hN] at hvp
              rw [← hN9] at hmp hcm
              have hmore : ∀ k, k < N9 → ∃ u, w6.cell? ⟨gm, k, none⟩ = some u ∧ Nm w6 u p := by
                intro k hk
                have hk' : k < (Z6 p).length := by rw [← hN9]; exact hk
                obtain ⟨g', c', e, _, hc, _⟩ := (hS6.2.2 p hltM trivial).atV k hk'
                rw [hmp] at e
                injection e with e1
                injection e1 with e1
                injection e1 with e1
                subst e1
                exact ⟨_, hc, ((hZ6 p hltM).2.at k hk' hk').nm⟩
              have hlist : ∀ k, k < N → ∃ gp u, ap = some ⟨gp, 0, none⟩ ∧ N ≤ cp ∧ w6.cell? ⟨gp, k, none⟩ = some u ∧ Nm w6 u p := by
                intro k hk
                have hk' : k < (Y6 p).length := by rw [hY6, ← hN]; exact hk
                obtain ⟨g', c', e, hcc, hc, _⟩ := (hS6.1.2 p hlt trivial).atV k hk'
                rw [hvp] at e
                injection e with e1 e2 e3
                subst e3
                exact ⟨g', _, e1, by rw [hN, ← hY6]; exact hcc, hc, ((hF6 p hlt).at k hk' hk').nm⟩
              rw [hvp] at ck
              rw [hmp] at cm
              have hNb : N ≤ 1000000000000 := by rw [hN]; exact HX.out p
              have HMo := hib hmore
              have HLi := hib hlist
              have HG := hib (And.intro hgO hm)
              have HN9 := hib hN9'
              have hN9b : N9 ≤ 1000000000009 := by omega
              have HCk := hib (And.intro ck cm)
              have cks := belC0 HL9.out ck
              have cms := belC0 HL9.out cm
              clear hgO hm hmore hlist hvp hmp hN hN9 hN9' e2 ck cm hS6 hY6 hF6 hZ6 hB6 hZl h0Z
              go_wp2_with fail
              go_loopg [10] N9 (fun g s10 wc => ∃ (k : Nat), k ≤ N9 ∧ N9 - k ≤ g ∧ s10 = .int .i64 (k : Int) ∧ Hid (LtC w6 wc))
              case atStart => exact ⟨0, Nat.zero_le _, Nat.le_refl _, rfl, HL9⟩
              case round =>
                obtain ⟨k, hk, hm2, h10, HL10⟩ := hrel
                subst h10
                have ck := belC0 HL10.out HCk.out.1
                have cm := belC0 HL10.out HCk.out.2
                clear cks cms
                by_cases hk9 : k < N9
                · have hkI : (k : Int) < (N9 : Int) := by omega
                  have hdk : decide (k < N9) = true := by simp; exact hk9
                  obtain ⟨u1, hc1', hu1⟩ := HMo.out k hk9
                  have hc1 := belC0 HL10.out hc1'
                  have HN1 := hib (fun wx (hx : LtC w6 wx) => named_any u1 p wx (hu1.later hx) (by omega))
                  by_cases hkN : k < N
                  · have hkNI : (k : Int) < (N : Int) := by omega
                    have hdN : decide (k < N) = true := by simp; exact hkN
                    obtain ⟨gp, u2, hap, hcp, hc2', hu2⟩ := HLi.out k hkN
                    subst hap
                    have HN2 := hib (fun wx (hx : LtC w6 wx) => named_any u2 p wx (hu2.later hx) (by omega))
                    have KK := hib (And.intro HCk.out.1 hc2')
                    clear hc1' hc2' hu1 hu2
                    go_wp2_with fail
                    refine Calls.mono (HN1.out _ HL10.out) ?_
                    rintro e w5 ⟨rfl, s5⟩
                    have HL5 := hib (LtC.step HL10.out s5)
                    have f1 := belC0 HL5.out KK.out.1
                    have f2 := belC0 HL5.out KK.out.2
                    clear s5 hc1 ck cm
                    go_wp2_with fail
                    refine Calls.mono (HN2.out _ HL5.out) ?_
                    rintro e w7 ⟨rfl, s7⟩
                    have HL7 := hib (LtC.step HL5.out s7)
                    clear s7 f1 f2
                    go_wp2
                    go_roundg (gk - 1)
                    case measure => omega
                    case rel => exact ⟨k + 1, by omega, by omega, by first | rfl | go_num, HL7⟩
                  · have hkNI : ¬ (k : Int) < (N : Int) := by omega
                    have hdN : decide (k < N) = false := by simp; omega
                    clear hc1' hu1
                    go_wp2_with fail
                    refine Calls.mono (HN1.out _ HL10.out) ?_
                    rintro e w5 ⟨rfl, s5⟩
                    have HL5 := hib (LtC.step HL10.out s5)
                    have f1 := belC0 HL5.out HCk.out.1
                    clear s5 hc1 ck cm
                    go_wp2
                    go_roundg (gk - 1)
                    case measure => omega
                    case rel => exact ⟨k + 1, by omega, by omega, by first | rfl | go_num, HL5⟩
                · have hkI : ¬ (k : Int) < (N9 : Int) := by omega
                  have hdk : decide (k < N9) = false := by simp; omega
                  clear hk9 hm2
                  go_wp2
                  go_roundg (gO - 1)
                  case measure => obtain ⟨h1, h2⟩ := HG.out; omega
                  case rel => exact ⟨p + 1, by omega, by obtain ⟨h1, h2⟩ := HG.out; omega, by first | rfl | go_num, HL10⟩
            · have hltI : ¬ (p : Int) < (V.length : Int) := by omega
              have hdI : decide (p < V.length) = false := by simp; omega
              obtain ⟨c6, Y6, Z6, _, _, _, _, _, hB6⟩ := HS2.out
              go_wp2
              go_ret
              exact ⟨rfl, hB6.later hB HL9.out⟩
end Go.Proofs.YtpgpeafmlijfkaaGreatDoor

namespace Go.Proofs.YtpgpeafmlijfkaaGreatDoor
open Go.RowKit
set_option maxRecDepth 100000
set_option linter.unusedVariables false
set_option linter.unusedSimpArgs false

set_option maxHeartbeats 2000000 in
theorem apBytes_nil (w : World) : Calls Tryz.prog 38 #[.slice none 0 0] w fun e w' => e = .returned (.bool true) ∧ w' = w := by
  go_enter Tryz.func38, Tryz.ntmps38
  go_wp2_with fail
  go_loopw [3] (fun i wr => i = .int .i64 0 ∧ wr = w) (fun _ _ => 0)
  case atStart => exact ⟨rfl, rfl⟩
  case round =>
    obtain ⟨hi, hw⟩ := hrel
    subst hi
    replace hw := hw.symm
    subst hw
    go_wp2_with fail
    go_loopw [6] (fun i wr => i = .int .i64 0 ∧ wr = w) (fun _ _ => 0)
    case atStart => exact ⟨rfl, rfl⟩
    case round =>
      obtain ⟨hi, hw⟩ := hrel
      subst hi
      replace hw := hw.symm
      subst hw
      go_wp2_with fail
      go_loopw [9] (fun i wr => i = .int .i64 0 ∧ wr = w) (fun _ _ => 0)
      case atStart => exact ⟨rfl, rfl⟩
      case round =>
        obtain ⟨hi, hw⟩ := hrel
        subst hi
        replace hw := hw.symm
        subst hw
        go_wp2
        go_ret
        exact ⟨rfl, rfl⟩
set_option maxHeartbeats 2000000 in
theorem apLists_nil (w : World) : Calls Tryz.prog 39 #[.slice none 0 0] w fun e w' => e = .returned (.bool true) ∧ w' = w := by
  go_enter Tryz.func39, Tryz.ntmps39
  go_wp2_with fail
  go_loopw [3] (fun i wr => i = .int .i64 0 ∧ wr = w) (fun _ _ => 0)
  case atStart => exact ⟨rfl, rfl⟩
  case round =>
    obtain ⟨hi, hw⟩ := hrel
    subst hi
    replace hw := hw.symm
    subst hw
    go_wp2_with fail
    go_loopw [6] (fun i wr => i = .int .i64 0 ∧ wr = w) (fun _ _ => 0)
    case atStart => exact ⟨rfl, rfl⟩
    case round =>
      obtain ⟨hi, hw⟩ := hrel
      subst hi
      replace hw := hw.symm
      subst hw
      go_wp2_with fail
      go_loopw [9] (fun i wr => i = .int .i64 0 ∧ wr = w) (fun _ _ => 0)
      case atStart => exact ⟨rfl, rfl⟩
      case round =>
        obtain ⟨hi, hw⟩ := hrel
        subst hi
        replace hw := hw.symm
        subst hw
        go_wp2
        go_ret
        exact ⟨rfl, rfl⟩
set_option maxHeartbeats 2000000 in
theorem apInts_nil (w : World) : Calls Tryz.prog 40 #[.slice none 0 0] w fun e w' => e = .returned (.bool true) ∧ w' = w := by
  go_enter Tryz.func40, Tryz.ntmps40
  go_wp2_with fail
  go_loopw [3] (fun i wr => i = .int .i64 0 ∧ wr = w) (fun _ _ => 0)
  case atStart => exact ⟨rfl, rfl⟩
  case round =>
    obtain ⟨hi, hw⟩ := hrel
    subst hi
    replace hw := hw.symm
    subst hw
    go_wp2_with fail
    go_loopw [6] (fun i wr => i = .int .i64 0 ∧ wr = w) (fun _ _ => 0)
    case atStart => exact ⟨rfl, rfl⟩
    case round =>
      obtain ⟨hi, hw⟩ := hrel
      subst hi
      replace hw := hw.symm
      subst hw
      go_wp2_with fail
      go_loopw [9] (fun i wr => i = .int .i64 0 ∧ wr = w) (fun _ _ => 0)
      case atStart => exact ⟨rfl, rfl⟩
      case round =>
        obtain ⟨hi, hw⟩ := hrel
        subst hi
        replace hw := hw.symm
        subst hw
        go_wp2
        go_ret
        exact ⟨rfl, rfl⟩
set_option maxHeartbeats 2000000 in
theorem apLines_nil (w : World) : Calls Tryz.prog 42 #[.slice none 0 0] w fun e w' => e = .returned (.bool true) ∧ w' = w := by
  go_enter Tryz.func42, Tryz.ntmps42
  go_wp2_with fail
  go_loopw [3] (fun i wr => i = .int .i64 0 ∧ wr = w) (fun _ _ => 0)
  case atStart => exact ⟨rfl, rfl⟩
  case round =>
    obtain ⟨hi, hw⟩ := hrel
    subst hi
    replace hw := hw.symm
    subst hw
    go_wp2_with fail
    go_loopw [6] (fun i wr => i = .int .i64 0 ∧ wr = w) (fun _ _ => 0)
    case atStart => exact ⟨rfl, rfl⟩
    case round =>
      obtain ⟨hi, hw⟩ := hrel
      subst hi
      replace hw := hw.symm
      subst hw
      go_wp2_with fail
      go_loopw [9] (fun i wr => i = .int .i64 0 ∧ wr = w) (fun _ _ => 0)
      case atStart => exact ⟨rfl, rfl⟩
      case round =>
        obtain ⟨hi, hw⟩ := hrel
        subst hi
        replace hw := hw.symm
        subst hw
        go_wp2
        go_ret
        exact ⟨rfl, rfl⟩
set_option maxHeartbeats 2000000 in
theorem apLevels_nil (w : World) : Calls Tryz.prog 43 #[.slice none 0 0] w fun e w' => e = .returned (.bool true) ∧ w' = w := by
  go_enter Tryz.func43, Tryz.ntmps43
  go_wp2_with fail
  go_loopw [3] (fun i wr => i = .int .i64 0 ∧ wr = w) (fun _ _ => 0)
  case atStart => exact ⟨rfl, rfl⟩
  case round =>
    obtain ⟨hi, hw⟩ := hrel
    subst hi
    replace hw := hw.symm
    subst hw
    go_wp2_with fail
    go_loopw [6] (fun i wr => i = .int .i64 0 ∧ wr = w) (fun _ _ => 0)
    case atStart => exact ⟨rfl, rfl⟩
    case round =>
      obtain ⟨hi, hw⟩ := hrel
      subst hi
      replace hw := hw.symm
      subst hw
      go_wp2_with fail
      go_loopw [9] (fun i wr => i = .int .i64 0 ∧ wr = w) (fun _ _ => 0)
      case atStart => exact ⟨rfl, rfl⟩
      case round =>
        obtain ⟨hi, hw⟩ := hrel
        subst hi
        replace hw := hw.symm
        subst hw
        go_wp2
        go_ret
        exact ⟨rfl, rfl⟩
/-- the Books in block b: lists of texts and of rows alone -/
def BkT (w : World) (b : Nat) (tv tv0 rv rv0 : Value) : Prop := w.heap[b]? = some (.cells #[.slice none 0 0, .slice none 0 0, .slice none 0 0, .slice none 0 0, .slice none 0 0, .slice none 0 0, tv, tv0, .slice none 0 0, .slice none 0 0, .slice none 0 0, .slice none 0 0, rv, rv0] 36 (0, 0))
theorem BkT.c0 {w : World} {b : Nat} {tv tv0 rv rv0 : Value} (h : BkT w b tv tv0 rv rv0) : w.cell? ⟨b, 0, none⟩ = some (.slice none 0 0) := Lib.cell_of_heap h 0
theorem BkT.c1 {w : World} {b : Nat} {tv tv0 rv rv0 : Value} (h : BkT w b tv tv0 rv rv0) : w.cell? ⟨b, 1, none⟩ = some (.slice none 0 0) := Lib.cell_of_heap h 1
theorem BkT.c2 {w : World} {b : Nat} {tv tv0 rv rv0 : Value} (h : BkT w b tv tv0 rv rv0) : w.cell? ⟨b, 2, none⟩ = some (.slice none 0 0) := Lib.cell_of_heap h 2
theorem BkT.c3 {w : World} {b : Nat} {tv tv0 rv rv0 : Value} (h : BkT w b tv tv0 rv rv0) : w.cell? ⟨b, 3, none⟩ = some (.slice none 0 0) := Lib.cell_of_heap h 3
theorem BkT.c4 {w : World} {b : Nat} {tv tv0 rv rv0 : Value} (h : BkT w b tv tv0 rv rv0) : w.cell? ⟨b, 4, none⟩ = some (.slice none 0 0) := Lib.cell_of_heap h 4
theorem BkT.c5 {w : World} {b : Nat} {tv tv0 rv rv0 : Value} (h : BkT w b tv tv0 rv rv0) : w.cell? ⟨b, 5, none⟩ = some (.slice none 0 0) := Lib.cell_of_heap h 5
theorem BkT.c6 {w : World} {b : Nat} {tv tv0 rv rv0 : Value} (h : BkT w b tv tv0 rv rv0) : w.cell? ⟨b, 6, none⟩ = some tv := Lib.cell_of_heap h 6
theorem BkT.c7 {w : World} {b : Nat} {tv tv0 rv rv0 : Value} (h : BkT w b tv tv0 rv rv0) : w.cell? ⟨b, 7, none⟩ = some tv0 := Lib.cell_of_heap h 7
theorem BkT.c8 {w : World} {b : Nat} {tv tv0 rv rv0 : Value} (h : BkT w b tv tv0 rv rv0) : w.cell? ⟨b, 8, none⟩ = some (.slice none 0 0) := Lib.cell_of_heap h 8
theorem BkT.c9 {w : World} {b : Nat} {tv tv0 rv rv0 : Value} (h : BkT w b tv tv0 rv rv0) : w.cell? ⟨b, 9, none⟩ = some (.slice none 0 0) := Lib.cell_of_heap h 9
theorem BkT.c10 {w : World} {b : Nat} {tv tv0 rv rv0 : Value} (h : BkT w b tv tv0 rv rv0) : w.cell? ⟨b, 10, none⟩ = some (.slice none 0 0) := Lib.cell_of_heap h 10
theorem BkT.c11 {w : World} {b : Nat} {tv tv0 rv rv0 : Value} (h : BkT w b tv tv0 rv rv0) : w.cell? ⟨b, 11, none⟩ = some (.slice none 0 0) := Lib.cell_of_heap h 11
theorem BkT.c12 {w : World} {b : Nat} {tv tv0 rv rv0 : Value} (h : BkT w b tv tv0 rv rv0) : w.cell? ⟨b, 12, none⟩ = some rv := Lib.cell_of_heap h 12
theorem BkT.c13 {w : World} {b : Nat} {tv tv0 rv rv0 : Value} (h : BkT w b tv tv0 rv rv0) : w.cell? ⟨b, 13, none⟩ = some rv0 := Lib.cell_of_heap h 13
theorem BkT.lt {w : World} {b : Nat} {tv tv0 rv rv0 : Value} (h : BkT w b tv tv0 rv rv0) : b < w.heap.size := (Array.getElem?_eq_some_iff.1 h).1
theorem BkT.fr {w : World} {b : Nat} {tv tv0 rv rv0 : Value} (h : BkT w b tv tv0 rv rv0) (j : Nat) : w.frozen? ⟨b, j, none⟩ = false := Lib.frozen_of_heap h j
theorem BkT.later {w : World} {b : Nat} {tv tv0 rv rv0 : Value} (h : BkT w b tv tv0 rv rv0) {w' : World} (hb : Below w.heap.size w w') : BkT w' b tv tv0 rv rv0 := (hb.block b h.lt).trans h
theorem BkT.set6 {w : World} {b : Nat} {tv tv0 rv rv0 : Value} (h : BkT w b tv tv0 rv rv0) (u : Value) : BkT (w.setCell ⟨b, 6, none⟩ u) b u tv0 rv rv0 := Lib.heap_setCell_same h _
theorem BkT.set7 {w : World} {b : Nat} {tv tv0 rv rv0 : Value} (h : BkT w b tv tv0 rv rv0) (u : Value) : BkT (w.setCell ⟨b, 7, none⟩ u) b tv u rv rv0 := Lib.heap_setCell_same h _
theorem BkT.set12 {w : World} {b : Nat} {tv tv0 rv rv0 : Value} (h : BkT w b tv tv0 rv rv0) (u : Value) : BkT (w.setCell ⟨b, 12, none⟩ u) b tv tv0 u rv0 := Lib.heap_setCell_same h _
theorem BkT.set13 {w : World} {b : Nat} {tv tv0 rv rv0 : Value} (h : BkT w b tv tv0 rv rv0) (u : Value) : BkT (w.setCell ⟨b, 13, none⟩ u) b tv tv0 rv u := Lib.heap_setCell_same h _
theorem Ow.keepY {α : Type} {enc : α → List Value} {k : Nat} {t : TypeId} {col : Nat → Nat} {c : Nat} {w w' : World} {B : Nat} {v : Value} {L : List α} (h : Ow enc k t col c w B v L) (hy : By B col w w') (hc : c % 8 ≠ 0) : Ow enc k t col c w' B v L := by
  have hk : ∀ g, v.ownBlock = some g → w'.heap[g]? = w.heap[g]? := fun g e => hy.oth g (h.lt g e).2 (by rw [h.2 g e]; exact hc)
  refine ⟨⟨h.1.1, ?_⟩, h.2⟩
  rcases h.1.2 with hn | ⟨g, cap, cur, rfl, h0, hg, h1⟩
  · exact .inl hn
  · exact .inr ⟨g, cap, cur, rfl, h0, (hk g rfl).trans hg, h1⟩
theorem R1.keepY {col : Nat → Nat} {w w' : World} {B : Nat} {iv : Value} {V : List Value} {Y : Nat → List Value} (h : R1 col w B iv V Y) (hy : By B col w w') : R1 col w' B iv V Y := ⟨h.1.keepY hy (by decide), fun j hj hp => (h.2 j hj hp).keepY hy (by (try dsimp only); omega)⟩
set_option maxHeartbeats 4000000 in
theorem apartT_any (w : World) (B b : Nat) (col : Nat → Nat) (tv tv0 rv rv0 : Value) (V P : List Value) (X : Nat → List ByteArray) (Q : Nat → List Value) (hbb : BkT w b tv tv0 rv rv0) (hj : J1 col w B tv V X) (hr : R1 col w B rv P Q) (hcb : col b = 14) (hB : B ≤ w.heap.size)
    (hV : V.length ≤ 1000000000000) (hX : ∀ j, (X j).length ≤ 1000000000000) (hP : P.length ≤ 5000000000000) (hQ : ∀ j, (Q j).length ≤ 1000000000000)
    (hst : Calls Tryz.prog 37 #[.pointer (some ⟨b, 0, none⟩)] w fun e w' => e = .returned (.bool true) ∧ Below w.heap.size w w') :
    Calls Tryz.prog 16 #[.pointer (some ⟨b, 0, none⟩)] w fun e w' => e = .returned (.bool true) ∧ Below B w w' := by
  have HSt := hib hst
  have HB := hib hbb
  have HJ := hib hj
  have HR := hib hr
  have HBd := hib (And.intro (And.intro hV hX) (And.intro hP hQ))
  have HBw := hib hB
  have HCb := hib hcb
  have N1 := hib apBytes_nil
  have N2 := hib apLists_nil
  have N3 := hib apInts_nil
  have N4 := hib apLines_nil
  have N5 := hib apLevels_nil
  obtain ⟨io, ic, hiv⟩ := hj.1.sl
  obtain ⟨jo, jc, hjv⟩ := hr.1.sl
  clear hst hbb hj hr hV hX hP hQ hB hcb
  subst hiv hjv
  go_enter Tryz.func16, Tryz.ntmps16
  go_wp2_with fail
  refine Calls.mono HSt.out ?_
  rintro e w1 ⟨rfl, hb1⟩
  have hbb := HB.out.later hb1
  have HB1 := hib hbb
  have HL1 := hib hb1
  have c0 := hbb.c0
  have c2 := hbb.c2
  have c4 := hbb.c4
  have c6 := hbb.c6
  have HTx := hib (apTexts_any w1 B col (.slice io V.length ic) V X ⟨HJ.out.1.later hb1, HJ.out.2.later hb1⟩ (Nat.le_trans HBw.out hb1.size) HBd.out.1.2 HBd.out.1.1)
  have HR1 := hib (HR.out.later hb1)
  clear hbb hb1 HSt HB HJ HR
  go_wp2_with fail
  refine Calls.mono (N1.out _) ?_
  rintro e wz ⟨rfl, hw⟩
  replace hw := hw.symm
  subst hw
  go_wp2_with fail
  refine Calls.mono (N2.out _) ?_
  rintro e wz ⟨rfl, hw⟩
  replace hw := hw.symm
  subst hw
  go_wp2_with fail
  refine Calls.mono (N3.out _) ?_
  rintro e wz ⟨rfl, hw⟩
  replace hw := hw.symm
  subst hw
  go_wp2_with fail
  refine Calls.mono HTx.out ?_
  rintro e w2 ⟨rfl, hy⟩
  have hbb2 : BkT w2 b _ _ _ _ := (hy.oth b HB1.out.lt (by rw [HCb.out]; decide)).trans HB1.out
  have HRo := hib (apRows_any w2 B col (.slice jo P.length jc) P Q (HR1.out.keepY hy) (Nat.le_trans (Nat.le_trans HBw.out HL1.out.size) hy.bel.size) HBd.out.2.2 HBd.out.2.1)
  have HY := hib (show Below B w w2 from (HL1.out.mono HBw.out).trans hy.bel)
  have c8 := hbb2.c8
  have c10 := hbb2.c10
  have c12 := hbb2.c12
  clear hbb2 hy c0 c2 c4 c6 HTx HR1 HB1
  go_wp2_with fail
  refine Calls.mono (N4.out _) ?_
  rintro e wz ⟨rfl, hw⟩
  replace hw := hw.symm
  subst hw
  go_wp2_with fail
  refine Calls.mono (N5.out _) ?_
  rintro e wz ⟨rfl, hw⟩
  replace hw := hw.symm
  subst hw
  go_wp2_with fail
  refine Calls.mono HRo.out ?_
  rintro e w3 ⟨rfl, hz⟩
  have HZ := hib (show Below B w w3 from HY.out.trans hz.bel)
  clear hz HRo c8 c10 c12
  go_wp2
  go_ret
  exact ⟨rfl, HZ.out⟩
end Go.Proofs.YtpgpeafmlijfkaaGreatDoor

namespace Go.Proofs.YtpgpeafmlijfkaaGreatDoor
open Go.RowKit

/-- bytes as cells -/
def bc (l : List UInt8) : List Value := l.map fun b => .int .u8 (b.toNat : Int)

theorem bc_length (l : List UInt8) : (bc l).length = l.length := by simp [bc]
theorem bc_append (l m : List UInt8) : bc (l ++ m) = bc l ++ bc m := by simp [bc]
theorem bc_one (l : List UInt8) : ∀ u ∈ bc l, u.oneCell' = true := by
  intro u hu
  obtain ⟨_, _, rfl⟩ := List.mem_map.1 hu
  rfl
theorem bc_at (l : List UInt8) (j : Nat) (hj : j < l.length) : (bc l)[j]? = some (.int .u8 (l[j].toNat : Int)) := by
  simp [bc, hj]

/-- the slice v reads as the bytes l -/
def Reads (w : World) (v : Value) (l : List UInt8) : Prop :=
  (l = [] ∧ ∃ ao cap, v = .slice ao 0 cap ∧ (ao = none → cap = 0)) ∨
  ∃ b off cap, v = .slice (some ⟨b, off, none⟩) l.length cap ∧ l.length ≤ cap ∧ ∀ j (hj : j < l.length), w.cell? ⟨b, off + j, none⟩ = some (.int .u8 (l[j].toNat : Int))

theorem Reads.nil (w : World) : Reads w (.slice none 0 0) [] := .inl ⟨rfl, none, 0, rfl, fun _ => rfl⟩

theorem Reads.form {w : World} {v : Value} {l : List UInt8} (h : Reads w v l) : ∃ ao cap, v = .slice ao l.length cap := by
  rcases h with ⟨rfl, ao, cap, rfl, _⟩ | ⟨b, off, cap, rfl, _, _⟩
  · exact ⟨ao, cap, rfl⟩
  · exact ⟨_, cap, rfl⟩

theorem Reads.carry {w w' : World} {v : Value} {l : List UInt8} (h : Reads w v l) (hc : ∀ p : Addr, ∀ u, w.cell? p = some u → w'.cell? p = some u) : Reads w' v l := by
  rcases h with h | ⟨b, off, cap, hv, hl, hcell⟩
  · exact .inl h
  · exact .inr ⟨b, off, cap, hv, hl, fun j hj => hc _ _ (hcell j hj)⟩

theorem below_cells {w w' : World} (hb : Below w.heap.size w w') : ∀ p : Addr, ∀ u, w.cell? p = some u → w'.cell? p = some u :=
  fun p _ h => (hb.cell (p := p) (World.block_lt_of_cell? _ _ h)).trans h

theorem Reads.below {w w' : World} {v : Value} {l : List UInt8} (h : Reads w v l) (hb : Below w.heap.size w w') : Reads w' v l := h.carry (below_cells hb)

theorem Reads.alloc {w : World} {v : Value} {l : List UInt8} (h : Reads w v l) (o : Obj) : Reads (w.alloc o) v l :=
  h.below ((Below.refl _ _).alloc (Nat.le_refl _) _)

theorem Reads.drew {w : World} {v : Value} {l : List UInt8} (h : Reads w v l) : Reads w.drew v l := h.below ((Below.refl _ _).drew)

/-- a slice of bytes that lies in a block of the call's own -/
def Owns (w : World) (base : Nat) (v : Value) (l : List UInt8) : Prop := w.ownsRow base 5 1 v l.length (bc l)

theorem Owns.nil (w : World) (base : Nat) : Owns w base (.slice none 0 0) [] := World.ownsRow_nil _ _ _ _

theorem Owns.reads {w : World} {base : Nat} {v : Value} {l : List UInt8} (h : Owns w base v l) : Reads w v l := by
  have hc := fun g hg => World.ownsRow.cells h (g := g) hg
  rcases h.2 with ⟨rfl, hl⟩ | ⟨g, cap, cur, rfl, _, hgg, hn, _⟩
  · have : l = [] := List.eq_nil_of_length_eq_zero hl
    subst this
    exact Reads.nil w
  · refine .inr ⟨g, 0, cap, rfl, hn, fun j hj => ?_⟩
    have := hc g rfl j _ (bc_at l j hj)
    rw [Addr.add_lit] at this
    exact this

theorem Owns.form {w : World} {base : Nat} {v : Value} {l : List UInt8} (h : Owns w base v l) (hl : 0 < l.length) :
    ∃ g cap, v = .slice (some ⟨g, 0, none⟩) l.length cap ∧ l.length ≤ cap ∧ cap ≤ maxLen ∧ ∀ j (hj : j < l.length), w.cell? ⟨g, j, none⟩ = some (.int .u8 (l[j].toNat : Int)) := by
  have hc := fun g hg => World.ownsRow.cells h (g := g) hg
  rcases h.2 with ⟨_, h0⟩ | ⟨g, cap, cur, rfl, _, hgg, hn, hm, _⟩
  · omega
  · refine ⟨g, cap, rfl, hn, hm, fun j hj => ?_⟩
    have := hc g rfl j _ (bc_at l j hj)
    rw [Addr.add_lit, Nat.zero_add] at this
    exact this

theorem Owns.block_ge {w : World} {base : Nat} {v : Value} {l : List UInt8} (h : Owns w base v l) : ∀ k, v.ownBlock = some k → base ≤ k := fun k hk => (World.ownsRow.lt h k hk).1

theorem Owns.mono {w : World} {base base' : Nat} {v : Value} {l : List UInt8} (h : Owns w base v l) (hb : base' ≤ base) : Owns w base' v l := by
  refine ⟨h.1, ?_⟩
  rcases h.2 with h2 | ⟨g, cap, cur, hv, hg, r⟩
  · exact .inl h2
  · exact .inr ⟨g, cap, cur, hv, Nat.le_trans hb hg, r⟩

theorem Owns.alloc {w : World} {base : Nat} {v : Value} {l : List UInt8} (h : Owns w base v l) (o : Obj) : Owns (w.alloc o) base v l := World.ownsRow.alloc h o

/-- the one-element slice that a call of append lays first -/
theorem reads_one (w : World) (c : UInt8) (x : Int) (hx : x = (c.toNat : Int)) : Reads (w.alloc (.cells #[.int .u8 x] 5)) (.slice (some ⟨w.heap.size, 0, none⟩) 1 1) [c] := by
  subst hx
  refine .inr ⟨w.heap.size, 0, 1, rfl, Nat.le_refl _, fun j hj => ?_⟩
  have : j = 0 := by simpa using hj
  subst this
  simp

theorem wpList_app {P : Program} {w : World} {ops : Array Oper} {rest : List Oper} {o : Oper} {a : Act} {Q : Exit → Act → World → Prop} (hgd : o.guard = none) (s x : Operand) (t : TypeId)
    (ho : o.op = .call { callee := .builtin .append, args := #[s, x], argTypes := #[t, t] })
    (ht : P.underlying t = some (.slice 5)) (hinfo : (P.info? 5).map (fun i => (i.zero, i.size, i.bytes)) = some (some (.int .u8 0), 1, 1))
    (base : Nat) (v : Value) (l : List UInt8) (hs : a.eval s = v) (hown : Owns w base v l) (xv : Value) (m : List UInt8) (hx : a.eval x = xv) (hr : Reads w xv m)
    (hlen : l.length + m.length ≤ 140737488355328) (hbase : base ≤ w.heap.size)
    (h : ∀ v' w', Owns w' base v' (l ++ m) → w.grownBy w' v.ownBlock → wpList P ops Q rest (a.put o.dst v') w') : wpList P ops Q (o :: rest) a w := by
  obtain ⟨i, hi, hz, hsz, hby⟩ := info_parts hinfo
  have key : ∀ ad cap, xv = .slice (some ad) m.length cap → (∀ j u, (bc m)[j]? = some u → w.cell? (ad.add j) = some u) → wpList P ops Q (o :: rest) a w := by
    intro ad cap hxv hnews
    refine wpList_append_own w hgd s x t ho base 5 i (.int .u8 0) 1 1 ht hi hz hsz hby rfl (by decide) v l.length (bc l) hs hown ad m.length cap (bc m) (hx.trans hxv) (by rw [bc_length, Nat.mul_one]) hnews (bc_one m) (by unfold maxLen; omega) (by omega) hbase ?_
    intro v' w' ho' hg _
    refine h v' w' ?_ hg
    unfold Owns
    rw [bc_append, List.length_append]
    exact ho'
  rcases hr with ⟨rfl, ao, cap, rfl, hcap⟩ | ⟨b, off, cap, rfl, hl, hcell⟩
  · cases ao with
    | none =>
      obtain rfl := hcap rfl
      refine wpList_append_own_none hgd s x t ho base 5 i 1 ht hi v l.length (bc l) hs hown hx ?_
      exact h v w (by rw [List.append_nil]; exact hown) ⟨rfl, rfl, rfl, Nat.le_refl _, fun _ _ _ => rfl⟩
    | some ad => exact key ad cap rfl (fun j u hj => by simp [bc] at hj)
  · refine key _ cap rfl fun j u hj => ?_
    have hj' : j < m.length := by
      have := (List.getElem?_eq_some_iff.1 hj).1
      simpa [bc_length] using this
    rw [bc_at m j hj'] at hj
    cases hj
    rw [Addr.add_lit]
    exact hcell j hj'

theorem wpList_mk {P : Program} {w : World} {ops : Array Oper} {rest : List Oper} {o : Oper} {a : Act} {Q : Exit → Act → World → Prop} (hg : o.guard = none) (l c : Operand) (t : TypeId) (hop : o.op = Op.makeSlice t l c)
    (ht : P.underlying t = some (.slice 5)) (hinfo : (P.info? 5).map (fun i => (i.zero, i.size, i.bytes)) = some (some (.int .u8 0), 1, 1))
    (base : Nat) (kl kc : IntKind) (C : Int) (hl : a.eval l = .int kl 0) (hc : a.eval c = .int kc C) (hC : 0 ≤ C) (b2 : C ≤ 281474976710656) (b4 : base ≤ w.heap.size)
    (hK : ∀ v' w', Owns w' base v' [] → w.grownBy w' none → wpList P ops Q rest (a.put o.dst v') w') :
    wpList P ops Q (o :: rest) a w := by
  obtain ⟨i, hi, hz, hsz, hby⟩ := info_parts hinfo
  exact wpList_make_own w hg l c t hop base 5 i (.int .u8 0) 1 ht hi hz hsz kl kc C C.toNat hl hc (by omega) (by rw [hby]; omega) (by unfold maxLen; omega) b4 (fun w' h1 h2 => hK _ w' h1 h2)

/-- 'string(v)' -/
theorem run_text {P : Program} {w : World} {v : Value} {l : List UInt8} (src dst : TypeId) (hs : P.underlying src = some (.slice 5)) (he : P.underlying 5 = some (.int .u8)) (hd : P.underlying dst = some .string) (h : Reads w v l) :
    (convert src dst v).run P w = .ok (.string ⟨l.toArray⟩) w := by
  rcases h with ⟨rfl, ao, cap, rfl, _⟩ | ⟨b, off, cap, rfl, _, hcell⟩
  · cases ao with
    | none =>
      rw [run_convert_bytes_string w src dst 5 none 0 cap hs he hd]
      simp [Conv.bytesToString]
      rfl
    | some ad => exact run_convert_bytes_back w src dst 5 ad cap [] hs he hd (fun j hj => by simp at hj)
  · exact run_convert_bytes_back w src dst 5 _ cap l hs he hd (fun j hj => by rw [Addr.add_lit]; exact hcell j hj)

end Go.Proofs.YtpgpeafmlijfkaaGreatDoor

namespace Go.Proofs.YtpgpeafmlijfkaaGreatDoor

/-- the byte of the lowest group, another behind it -/
def gb (n : Nat) : UInt8 := UInt8.ofNat (n % 128 + 128)
/-- the lowest byte -/
def lb (n : Nat) : UInt8 := UInt8.ofNat n

theorem gb_toNat (n : Nat) : (gb n).toNat = n % 128 + 128 := by
  unfold gb
  rw [UInt8.toNat_ofNat']
  omega
theorem lb_toNat (n : Nat) : (lb n).toNat = n % 256 := by
  unfold lb
  rw [UInt8.toNat_ofNat']

/-- a number, group by group, k groups at the most behind the first -/
def grpF : Nat → Nat → List UInt8
  | 0, n => [lb n]
  | k + 1, n => if n < 128 then [lb n] else gb n :: grpF k (n / 128)

theorem grpF_enough (k : Nat) : ∀ j n, n ≤ k → n ≤ j → grpF k n = grpF j n := by
  induction k with
  | zero =>
    intro j n hk _
    have : n = 0 := by omega
    subst this
    cases j with
    | zero => rfl
    | succ j => simp [grpF]
  | succ k ih =>
    intro j n hk hj
    cases j with
    | zero =>
      have : n = 0 := by omega
      subst this
      simp [grpF]
    | succ j =>
      unfold grpF
      split
      · rfl
      · rw [ih j (n / 128) (by omega) (by omega)]

/-- a number, group by group -/
def grp (n : Nat) : List UInt8 := grpF n n

theorem grp_small (n : Nat) (h : n < 128) : grp n = [lb n] := by
  unfold grp
  cases n with
  | zero => rfl
  | succ n => unfold grpF; rw [if_pos h]
theorem grp_more (n : Nat) (h : ¬ n < 128) : grp n = gb n :: grp (n / 128) := by
  unfold grp
  cases n with
  | zero => omega
  | succ n =>
    conv => lhs; unfold grpF
    rw [if_neg h, grpF_enough n ((n + 1) / 128) ((n + 1) / 128) (by omega) (Nat.le_refl _)]

theorem grp_pos (n : Nat) : 0 < (grp n).length := by
  by_cases h : n < 128
  · rw [grp_small n h]; simp
  · rw [grp_more n h]; simp

theorem grp_length (k n : Nat) (h : n < 128 ^ (k + 1)) : (grp n).length ≤ k + 1 := by
  induction k generalizing n with
  | zero => rw [grp_small n (by simpa using h)]; simp
  | succ k ih =>
    by_cases h1 : n < 128
    · rw [grp_small n h1]; simp
    · rw [grp_more n h1, List.length_cons]
      have := ih (n / 128) (Nat.div_lt_of_lt_mul (by rw [Nat.pow_succ, Nat.mul_comm] at h; exact h))
      omega

theorem grp_le (n : Nat) (h : n < 18446744073709551616) : (grp n).length ≤ 10 :=
  grp_length 9 n (Nat.lt_of_lt_of_le h (by decide))

theorem or_high : ∀ x : Nat, x < 256 → x ||| 128 = x % 128 + 128 := by decide +kernel
theorem and_low : ∀ x : Nat, x < 256 → x &&& 127 = x % 128 := by decide +kernel

/-- how a number is read: the number, how many bytes, the error (0: none; 3: short; 10: form; 11: wide) -/
def rd : List UInt8 → Nat → Nat → Nat × Nat × Nat
  | [], i, _ => (0, i, 3)
  | c :: r, i, n =>
    if i = 9 ∧ 1 < c.toNat then (0, i, 11)
    else if 0 < i ∧ c.toNat = 0 then (0, i, 10)
    else if c.toNat < 128 then (n + c.toNat % 128 * 128 ^ i, i + 1, 0)
    else rd r (i + 1) (n + c.toNat % 128 * 128 ^ i)

theorem rd_le (l : List UInt8) : ∀ i n, (rd l i n).2.1 ≤ i + l.length := by
  induction l with
  | nil => intro i n; simp [rd]
  | cons c r ih =>
    intro i n
    unfold rd
    split
    · simp
    · split
      · simp
      · split
        · simp
        · have := ih (i + 1) (n + c.toNat % 128 * 128 ^ i)
          simp only [List.length_cons]
          omega

/-- a number with one group more is the sum -/
theorem join_bits (i n m : Nat) (h : n < 128 ^ i) : n ||| m * 128 ^ i = n + m * 128 ^ i := by
  have e : (128 : Nat) ^ i = 2 ^ (7 * i) := by rw [Nat.pow_mul]
  rw [e] at h ⊢
  rw [Nat.or_comm, Nat.mul_comm, ← Nat.two_pow_add_eq_or_of_lt h, Nat.add_comm]

theorem pow_next (i n m : Nat) (h : n < 128 ^ i) (hm : m < 128) : n + m * 128 ^ i < 128 ^ (i + 1) := by
  rw [Nat.pow_succ]
  have : m * 128 ^ i ≤ 127 * 128 ^ i := Nat.mul_le_mul_right _ (by omega)
  omega

theorem pow_le (i : Nat) (h : i ≤ 9) : 128 ^ i ≤ 9223372036854775808 :=
  Nat.le_trans (Nat.pow_le_pow_right (by decide) h) (by decide)

/-- what is read, one byte on -/
theorem rd_step (l : List UInt8) (k n : Nat) (hk : k < l.length) : rd (l.drop k) k n =
    if k = 9 ∧ 1 < l[k].toNat then (0, k, 11)
    else if 0 < k ∧ l[k].toNat = 0 then (0, k, 10)
    else if l[k].toNat < 128 then (n + l[k].toNat % 128 * 128 ^ k, k + 1, 0)
    else rd (l.drop (k + 1)) (k + 1) (n + l[k].toNat % 128 * 128 ^ k) := by
  rw [List.drop_eq_getElem_cons hk]
  rfl

theorem rd_end (l : List UInt8) (n : Nat) : rd (l.drop l.length) l.length n = (0, l.length, 3) := by
  rw [List.drop_length]
  rfl

end Go.Proofs.YtpgpeafmlijfkaaGreatDoor

namespace Go.Proofs.YtpgpeafmlijfkaaGreatDoor
open Go.RowKit

theorem u8info : (Tryz.prog.info? 5).map (fun i => (i.zero, i.size, i.bytes)) = some (some (.int .u8 0), 1, 1) := by kernel_rfl

set_option maxRecDepth 100000 in
set_option maxHeartbeats 400000 in
theorem groups_any (n : Nat) (w : World) (hn : n < 18446744073709551616) :
    Calls Tryz.prog 58 #[.int .u64 n] w fun e w' => ∃ v', e = .returned v' ∧ Owns w' w.heap.size v' (grp n) ∧ Below w.heap.size w w' := by
  have HG : Hid (_) := grp_le n hn
  have HN : Hid (_) := hn
  clear hn
  go_enter Tryz.func58, Tryz.ntmps58
  go_wp2
  go_loopw [0, 3] (fun x v wr => ∃ (L : List UInt8) (N : Nat), x = .int .u64 N ∧ N ≤ n ∧ Owns wr w.heap.size v L ∧ Below w.heap.size w wr ∧ Hid (L ++ grp N = grp n)) (fun x _ _ => (intOf x).toNat)
  case atStart => exact ⟨[], n, rfl, Nat.le_refl _, Owns.nil _ _, Below.refl _ _, rfl⟩
  case round =>
    obtain ⟨L, N, rfl, hN, ho, hbl, HE⟩ := hrel
    have hz := hbl.size
    have hq : IntKind.u64.wrap ((N : Int) / 128) = (N : Int) / 128 := by have h2 := HN.out; rw [IntKind.wrap_u64]; omega
    have HLL : Hid (L.length + 1 ≤ 140737488355328) := by
      have h1 := congrArg List.length HE.out
      have h2 := HG.out
      have h4 := grp_pos N
      simp only [List.length_append] at h1
      show L.length + 1 ≤ 140737488355328
      omega
    by_cases h : N < 128
    · go_wp2_with (at_builtin; refine wpList_app rfl _ _ 37 rfl Tryz.underlying37 u8info w.heap.size _ L rfl (ho.alloc _) _ [lb N] rfl (reads_one _ _ _ ?hx) ?hlen ?hbase ?hnext)
      case hx => rw [lb_toNat]; omega
      case hlen => exact HLL.out
      case hbase => simp; omega
      case hnext =>
        intro v' w1 ho' hg
        go_wp2
        go_ret
        refine ⟨v', rfl, ?_, (hbl.alloc (by omega) _).grown hg (by simp; omega) ho.block_ge⟩
        rw [← HE.out, grp_small N h]
        exact ho'
    · go_wp2_with (at_builtin; refine wpList_app rfl _ _ 37 rfl Tryz.underlying37 u8info w.heap.size _ L rfl (ho.alloc _) _ [gb N] rfl (reads_one _ _ _ ?hx2) ?hlen2 ?hbase2 ?hnext2)
      case hx2 => rw [gb_toNat]; omega
      case hlen2 => exact HLL.out
      case hbase2 => simp; omega
      case hnext2 =>
        intro v' w1 ho' hg
        go_wp2
        go_roundw
        case rel =>
          refine ⟨L ++ [gb N], N / 128, by go_num, by omega, ho', (hbl.alloc (by omega) _).grown hg (by simp; omega) ho.block_ge, ?_⟩
          show _ = _
          rw [← HE.out, grp_more N h, List.append_assoc]
          rfl
        case measure => simp [intOf]; omega

end Go.Proofs.YtpgpeafmlijfkaaGreatDoor

namespace Go.Proofs.YtpgpeafmlijfkaaGreatDoor
open Go.RowKit
set_option maxRecDepth 100000
set_option linter.unusedVariables false
set_option linter.unusedSimpArgs false

/-- a slice reads as these texts -/
def TxC (w : World) (v : Value) (T : List ByteArray) : Prop := ∃ ao cap, v = .slice ao T.length cap ∧ T.length ≤ cap ∧ ∀ j (hj : j < T.length), ∃ g off, ao = some ⟨g, off, none⟩ ∧ w.cell? ⟨g, off + j, none⟩ = some (.string T[j])
/-- a slice reads as these rows -/
def RwC (w : World) (v : Value) (R : List (List ByteArray)) : Prop := ∃ ao cap, v = .slice ao R.length cap ∧ R.length ≤ cap ∧ ∀ i (hi : i < R.length), ∃ g off u, ao = some ⟨g, off, none⟩ ∧ w.cell? ⟨g, off + i, none⟩ = some u ∧ TxC w u R[i]
theorem TxC.later {w w' : World} {v : Value} {T : List ByteArray} (h : TxC w v T) (hb : LtC w w') : TxC w' v T := by
  obtain ⟨ao, cap, h1, h2, h4⟩ := h
  refine ⟨ao, cap, h1, h2, fun j hj => ?_⟩
  obtain ⟨g, off, h5, h6⟩ := h4 j hj
  exact ⟨g, off, h5, belC0 hb h6⟩
theorem RwC.later {w w' : World} {v : Value} {R : List (List ByteArray)} (h : RwC w v R) (hb : LtC w w') : RwC w' v R := by
  obtain ⟨ao, cap, h1, h2, h4⟩ := h
  refine ⟨ao, cap, h1, h2, fun j hj => ?_⟩
  obtain ⟨g, off, u, h5, h6, h7⟩ := h4 j hj
  exact ⟨g, off, u, h5, belC0 hb h6, h7.later hb⟩
/-- a text, a row's texts, rows behind s -/
def tl1 (s t : ByteArray) : ByteArray := s ++ ⟨(grp t.size).toArray⟩ ++ t
def tlT (s : ByteArray) (T : List ByteArray) : ByteArray := T.foldl tl1 s
def tlR (s : ByteArray) (T : List ByteArray) : ByteArray := tlT s T ++ ⟨#[128, 0]⟩
def tld (R : List (List ByteArray)) : ByteArray := R.foldl tlR ⟨#[]⟩
theorem tl1_size (s t : ByteArray) : (tl1 s t).size = s.size + (grp t.size).length + t.size := by
  unfold tl1
  rw [ByteArray.size_append, ByteArray.size_append]
  rfl
theorem tlT_size (T : List ByteArray) : ∀ s, s.size ≤ (tlT s T).size := by
  induction T with
  | nil => intro s; exact Nat.le_refl _
  | cons t T ih =>
    intro s
    have := ih (tl1 s t)
    have h2 := tl1_size s t
    show s.size ≤ (tlT (tl1 s t) T).size
    omega
theorem tlR_size (s : ByteArray) (T : List ByteArray) : s.size + 2 ≤ (tlR s T).size := by
  have := tlT_size T s
  unfold tlR
  rw [ByteArray.size_append]
  show s.size + 2 ≤ _ + 2
  omega
theorem tld_size (R : List (List ByteArray)) : ∀ s : ByteArray, s.size ≤ (R.foldl tlR s).size := by
  induction R with
  | nil => intro s; exact Nat.le_refl _
  | cons t T ih =>
    intro s
    have := ih (tlR s t)
    have h2 := tlR_size s t
    show s.size ≤ (List.foldl tlR (tlR s t) T).size
    omega
theorem tlT_take (s : ByteArray) (T : List ByteArray) (j : Nat) (hj : j < T.length) : tlT s (T.take (j + 1)) = tl1 (tlT s (T.take j)) T[j] := by
  unfold tlT
  rw [List.take_succ_eq_append_getElem hj, List.foldl_append]
  rfl
theorem tlT_le (s : ByteArray) (T : List ByteArray) (j : Nat) : (tlT s (T.take j)).size ≤ (tlT s T).size := by
  have h := tlT_size (T.drop j) (tlT s (T.take j))
  have e : tlT (tlT s (T.take j)) (T.drop j) = tlT s T := by
    unfold tlT
    rw [← List.foldl_append, List.take_append_drop]
  rw [e] at h
  exact h
theorem tld_take (R : List (List ByteArray)) (i : Nat) (hi : i < R.length) : tld (R.take (i + 1)) = tlR (tld (R.take i)) R[i] := by
  unfold tld
  rw [List.take_succ_eq_append_getElem hi, List.foldl_append]
  rfl
theorem tld_le (R : List (List ByteArray)) (i : Nat) : (tld (R.take i)).size ≤ (tld R).size := by
  have h := tld_size (R.drop i) (tld (R.take i))
  have e : (R.drop i).foldl tlR (tld (R.take i)) = tld R := by
    unfold tld
    rw [← List.foldl_append, List.take_append_drop]
  rw [e] at h
  exact h
theorem text_runG {w : World} {v : Value} {l : List UInt8} (h : Reads w v l) : (convert 37 9 v).run Tryz.prog w = .ok (.string ⟨l.toArray⟩) w :=
  run_text 37 9 Tryz.underlying37 Tryz.underlying5 Tryz.underlying9 h
set_option maxHeartbeats 2000000 in
theorem told_any (v : Value) (R : List (List ByteArray)) (w : World) (hv : RwC w v R) (hR : R.length ≤ 1000000000000) (hT : ∀ i (hi : i < R.length), R[i].length ≤ 1000000000000) (hs : (tld R).size ≤ 4611686018427387904) : Calls Tryz.prog 34 #[v] w fun e w' => e = .returned (.string (tld R)) ∧ Below w.heap.size w w' := by
  have HV := hib hv
  obtain ⟨ao, cap, rfl, hcap, _⟩ := hv
  have HT := hib hT
  have HS := hib hs
  clear hT hs
  go_enter Tryz.func34, Tryz.ntmps34
  go_wp2_with fail
  go_loopg [3, 4] R.length (fun g s3 s4 wr => ∃ (i : Nat), i ≤ R.length ∧ R.length - i ≤ g ∧ s3 = .string (tld (R.take i)) ∧ s4 = .int .i64 (i : Int) ∧ Hid (LtC w wr))
  case atStart => exact ⟨0, Nat.zero_le _, Nat.le_refl _, rfl, rfl, hib (LtC.refl _)⟩
  case round =>
    obtain ⟨i, hi, hm, h3, h4, HL⟩ := hrel
    subst h3 h4
    by_cases hlt : i < R.length
    · have hltI : (i : Int) < (R.length : Int) := by omega
      have hdI : decide (i < R.length) = true := by simp; exact hlt
      obtain ⟨gO, hgO⟩ : ∃ gO, gO = gk := ⟨_, rfl⟩
      have HG := hib (And.intro hgO hm)
      obtain ⟨ao', cap', e0, hcap', hrow⟩ := HV.out
      injection e0 with e1 _ e3
      subst e1 e3
      obtain ⟨g, off, u, rfl, cu, hu⟩ := hrow i hlt
      obtain ⟨at', ct, rfl, hct, htx⟩ := hu
      have HTx := hib htx
      have HCu := hib cu
      have hTl := HT.out i hlt
      have hst := tld_take R i hlt
      have hle := tld_le R (i + 1)
      rw [hst] at hle
      have hsz : (tlT (tld (R.take i)) R[i]).size + 2 ≤ 4611686018427387904 := by
        have h1 : (tlR (tld (R.take i)) R[i]).size = (tlT (tld (R.take i)) R[i]).size + 2 := by unfold tlR; rw [ByteArray.size_append]; rfl
        have := HS.out
        omega
      have HSt := hib hst
      have HSz := hib hsz
      have HD := hib hdI
      obtain ⟨T, hTT⟩ : ∃ T, T = R[i] := ⟨_, rfl⟩
      obtain ⟨s0, hs0⟩ : ∃ s0, s0 = tld (R.take i) := ⟨_, rfl⟩
      have hTlen : T.length = R[i].length := by rw [hTT]
      simp only [← hTT, ← hs0] at HTx HCu hTl HSt HSz cu hct
      rw [← hs0]
      clear htx hrow hst hle hsz hgO hm
      have cu1 := belC0 HL.out cu
      go_wp2_with fail
      go_loopg [3, 5] T.length (fun g s3 s5 wc => ∃ (j : Nat), j ≤ T.length ∧ T.length - j ≤ g ∧ s3 = .string (tlT s0 (T.take j)) ∧ s5 = .int .i64 (j : Int) ∧ Hid (LtC w wc))
      case atStart => exact ⟨0, Nat.zero_le _, Nat.le_refl _, by rw [hs0]; rfl, rfl, HL⟩
      case round =>
        obtain ⟨j, hj, hm2, h3, h5, HL2⟩ := hrel
        subst h3 h5
        have cu2 := belC0 HL2.out cu
        clear cu1
        by_cases hjt : j < T.length
        · have hjI : (j : Int) < (T.length : Int) := by omega
          have hdj : decide (j < T.length) = true := by simp; exact hjt
          obtain ⟨gt, ot, hat, ct0⟩ := HTx.out j hjt
          subst hat
          have ct1 := belC0 HL2.out ct0
          have hnx := tlT_take s0 T j hjt
          have hle := tlT_le s0 T (j + 1)
          rw [hnx] at hle
          have hz := tl1_size (tlT s0 (T.take j)) T[j]
          have hz0 := HSz.out
          obtain ⟨t, ht⟩ : ∃ t, t = T[j] := ⟨_, rfl⟩
          rw [← ht] at hnx hle hz ct1
          obtain ⟨s, hss⟩ : ∃ s, s = tlT s0 (T.take j) := ⟨_, rfl⟩
          rw [← hss] at hnx hle hz ⊢
          have HN := hib hnx
          obtain ⟨q, hq⟩ : ∃ q : ByteArray, q = ⟨(grp t.size).toArray⟩ := ⟨_, rfl⟩
          have hqs : q.size = (grp t.size).length := by rw [hq]; rfl
          have hz1 : ¬ 9223372036854775807 < s.size + q.size := by omega
          have hz2 : ¬ 9223372036854775807 < (s ++ q).size + t.size := by rw [ByteArray.size_append]; omega
          have hz3 : ¬ 9223372036854775807 < s.size + q.size + t.size := by omega
          have htz : t.size < 18446744073709551616 := by omega
          have hwr : IntKind.u64.wrap (t.size : Int) = (t.size : Int) := by rw [IntKind.wrap_u64]; omega
          have HGr := hib (fun wx => groups_any t.size wx htz)
          have HQ := hib hq
          have KK := hib (show ∀ wx, LtC wr wx → wx.cell? ⟨g, off + i, none⟩ = some (.slice (some ⟨gt, ot, none⟩) T.length ct) ∧ wx.cell? ⟨gt, ot + j, none⟩ = some (.string t) from fun wx hx => ⟨belC0 hx cu2, belC0 hx ct1⟩)
          have K0 := LtC.refl wr
          have K1 := LtC.drew wr
          have HRw := hib HL2.out
          clear hnx hle hz hz0 ht hq htz hss ct0
          go_upto_region 8 with fail
          obtain ⟨d1, d2⟩ := KK.out _ K1
          go_region_with (first
            | (go_at_call 58; refine (HGr.out _).mono ?_; rintro e w5 ⟨v5, rfl, o5, s5⟩; have hcv := text_runG o5.reads; rw [← HQ.out] at hcv; have K5 := LtC.step (by assumption) s5; obtain ⟨f1, f2⟩ := KK.out _ K5; clear s5 o5))
          all_goals
            have HL11 := hib (LtC.step HRw.out (by assumption))
            go_wp2
            go_roundg (gk - 1)
            case measure => omega
            case rel => exact ⟨j + 1, by omega, by omega, by rw [HN.out, tl1, ← HQ.out], by first | rfl | go_num, HL11⟩
        · have hjI : ¬ (j : Int) < (T.length : Int) := by omega
          have hdj : decide (j < T.length) = false := by simp; omega
          have hjT : T.take j = T := List.take_of_length_le (by omega)
          obtain ⟨s, hss⟩ : ∃ s, s = tlT s0 (T.take j) := ⟨_, rfl⟩
          rw [← hss]
          rw [hjT] at hss
          have hsz2 : ¬ 9223372036854775807 < s.size + 2 := by have := HSz.out; rw [hss]; omega
          have HSs := hib hss
          clear hss hjT
          clear hm2 hjt
          go_wp2
          go_roundg (gO - 1)
          case measure => obtain ⟨h1, h2⟩ := HG.out; omega
          case rel => exact ⟨i + 1, by omega, by obtain ⟨h1, h2⟩ := HG.out; omega, by rw [HSt.out, HSs.out]; rfl, by first | rfl | go_num, HL2⟩
    · have hltI : ¬ (i : Int) < (R.length : Int) := by omega
      have hdI : decide (i < R.length) = false := by simp; omega
      have hiR : R.take i = R := List.take_of_length_le (by omega)
      go_wp2
      go_ret
      exact ⟨rfl, HL.out⟩
end Go.Proofs.YtpgpeafmlijfkaaGreatDoor

namespace Go.Proofs.YtpgpeafmlijfkaaGreatDoor
open Go.RowKit
set_option maxRecDepth 100000
set_option linter.unusedVariables false
set_option linter.unusedSimpArgs false

/-- the lists of texts and of rows, and what they were -/
structure BkW (col : Nat → Nat) (w : World) (B b : Nat) (tv tv0 rv rv0 : Value) (V V0 P : List Value) (X : Nat → List ByteArray) (T0 : List ByteArray) (R : Nat → List (List ByteArray)) : Prop where
  bb : BkT w b tv tv0 rv rv0
  i1 : J1 col w B tv V X
  o0 : Ow eV 1 28 col 36 w B tv0 V0
  r0 : RwG eT 1 9 (fun j => 8 * j + 2) col w B (fun _ => True) V0 X
  len : V0.length = V.length
  cb : col b = 14
  few : V.length ≤ 1000000000000
  sh : ∀ j, (X j).length ≤ 1000000000000
  p1 : Ow eV 1 30 col 12 w B rv P
  p0 : Ow eT 1 9 col 44 w B rv0 T0
  plen : T0.length = P.length
  pfew : P.length ≤ 5000000000000
  rows : ∀ j (h : j < P.length), RwC w P[j] (R j)
  told : ∀ j (h : j < T0.length), T0[j] = tld (R j)
  rsh : ∀ j, (R j).length ≤ 1000000000000 ∧ (∀ i (hi : i < (R j).length), (R j)[i].length ≤ 1000000000000) ∧ (tld (R j)).size ≤ 4611686018427387904
theorem BkW.later {col : Nat → Nat} {w w' : World} {B b : Nat} {tv tv0 rv rv0 : Value} {V V0 P : List Value} {X : Nat → List ByteArray} {T0 : List ByteArray} {R : Nat → List (List ByteArray)} (h : BkW col w B b tv tv0 rv rv0 V V0 P X T0 R) (hb : Below w.heap.size w w') : BkW col w' B b tv tv0 rv rv0 V V0 P X T0 R :=
  ⟨h.bb.later hb, ⟨h.i1.1.later hb, h.i1.2.later hb⟩, h.o0.later hb, h.r0.later hb, h.len, h.cb, h.few, h.sh, h.p1.later hb, h.p0.later hb, h.plen, h.pfew, fun j hj => (h.rows j hj).later hb, h.told, h.rsh⟩
theorem below_drewN3 {B : Nat} {a w : World} (h : Below B a w) : ∀ n, Below B a (w.drewN n)
  | 0 => h
  | n + 1 => (below_drewN3 h n).drew
set_option maxHeartbeats 8000000 in
theorem stillT_any (w : World) (B b : Nat) (col : Nat → Nat) (tv tv0 rv rv0 : Value) (V V0 P : List Value) (X : Nat → List ByteArray) (T0 : List ByteArray) (R : Nat → List (List ByteArray)) (h : BkW col w B b tv tv0 rv rv0 V V0 P X T0 R) :
    Calls Tryz.prog 37 #[.pointer (some ⟨b, 0, none⟩)] w fun e w' => e = .returned (.bool true) ∧ Below w.heap.size w w' := by
  have c0 := h.bb.c0
  have c2 := h.bb.c2
  have c4 := h.bb.c4
  have c6 := h.bb.c6
  obtain ⟨io, ic, hiv⟩ := h.i1.1.sl
  subst hiv
  obtain ⟨jo, jc, hjv⟩ := h.o0.sl
  rw [h.len] at hjv
  subst hjv
  obtain ⟨ro, rc, hrv⟩ := h.p1.sl
  subst hrv
  obtain ⟨so, sc, hsv⟩ := h.p0.sl
  rw [h.plen] at hsv
  subst hsv
  have hfew := h.few
  have hpfew := h.pfew
  have HH := hib h
  clear h
  go_enter Tryz.func37, Tryz.ntmps37
  go_wp2_with fail
  go_loopw [3] (fun i wz => i = .int .i64 0 ∧ wz = w) (fun _ _ => 0)
  case atStart => exact ⟨rfl, rfl⟩
  case round =>
    obtain ⟨hi, hw⟩ := hrel
    subst hi
    replace hw := hw.symm
    subst hw
    go_wp2_with fail
    go_loopw [4] (fun i wz => i = .int .i64 0 ∧ wz = w) (fun _ _ => 0)
    case atStart => exact ⟨rfl, rfl⟩
    case round =>
      obtain ⟨hi, hw⟩ := hrel
      subst hi
      replace hw := hw.symm
      subst hw
      go_wp2_with fail
      go_loopw [6] (fun i wz => i = .int .i64 0 ∧ wz = w) (fun _ _ => 0)
      case atStart => exact ⟨rfl, rfl⟩
      case round =>
        obtain ⟨hi, hw⟩ := hrel
        subst hi
        replace hw := hw.symm
        subst hw
        go_wp2_with fail
        go_loopg [8] V.length (fun g s6 wr => ∃ (i : Nat), i ≤ V.length ∧ V.length - i ≤ g ∧ s6 = .int .i64 (i : Int) ∧ Hid (Below w.heap.size w wr))
        case atStart => exact ⟨0, Nat.zero_le _, Nat.le_refl _, rfl, hib (Below.refl _ _)⟩
        case round =>
          obtain ⟨i, hi, hm, h6, HB⟩ := hrel
          subst h6
          have hH := HH.out.later HB.out
          clear c0 c2 c4 c6
          have c4 := hH.bb.c6
          by_cases hlt : i < V.length
          · have hltI : (i : Int) < (V.length : Int) := by omega
            have hdI : decide (i < V.length) = true := by simp; exact hlt
            obtain ⟨gO, hgO⟩ : ∃ gO, gO = gk := ⟨_, rfl⟩
            have hlt0 : i < V0.length := by rw [hH.len]; exact hlt
            obtain ⟨bk, kc, hkv, hkc, _⟩ := hH.i1.1.cellV i hlt
            injection hkv with e1 _ e3
            subst e1 e3
            obtain ⟨bj, kc2, hjv, hkc2, _⟩ := hH.o0.cellV i hlt0
            injection hjv with e1 e2 e3
            subst e1 e3
            obtain ⟨ai, ci, hvi⟩ := (hH.i1.2 i hlt trivial).sl
            obtain ⟨aj, cj, hvj⟩ := (hH.r0 i hlt0 trivial).sl
            obtain ⟨N, hN⟩ : ∃ N, N = (X i).length := ⟨_, rfl⟩
            rw [← hN] at hvi hvj
            have hNb : N ≤ 1000000000000 := by rw [hN]; exact hH.sh i
            have HVI := hib (And.intro hvi hvj)
            have HN := hib hN
            have HG := hib (And.intro hgO hm)
            clear hgO hm hvi hvj hN e2
            go_wp2_with fail
            go_loopg [9] N (fun g s7 wr => ∃ (k : Nat), k ≤ N ∧ N - k ≤ g ∧ s7 = .int .i64 (k : Int) ∧ Hid (Below w.heap.size w wr))
            case atStart => exact ⟨0, Nat.zero_le _, Nat.le_refl _, rfl, HB⟩
            case round =>
              obtain ⟨k, hk, hm2, h7, HB2⟩ := hrel
              subst h7
              clear c4 HB hH
              have hH := HH.out.later HB2.out
              have c4 := hH.bb.c6
              have c5 := hH.bb.c7
              have ck : wr.cell? ⟨bk, i, none⟩ = some (.slice ai N ci) := by
                obtain ⟨g', c', e, _, hq⟩ := hH.i1.1.cellV i hlt
                cases e
                rw [HVI.out.1] at hq
                exact hq
              by_cases hk3 : k < N
              · have hkI : (k : Int) < (N : Int) := by omega
                have hdk : decide (k < N) = true := by simp; exact hk3
                have cj : wr.cell? ⟨bj, i, none⟩ = some (.slice aj N cj) := by
                  obtain ⟨g', c', e, _, hq⟩ := hH.o0.cellV i hlt0
                  injection e with e1
                  injection e1 with e1
                  injection e1 with e1
                  subst e1
                  rw [HVI.out.2] at hq
                  exact hq
                obtain ⟨gi, ci', e, hci, hc, _⟩ := (hH.i1.2 i hlt trivial).atT k (by rw [← HN.out]; exact hk3)
                rw [HVI.out.1] at e
                injection e with e1 e2 e3
                subst e1 e3
                obtain ⟨gj, cj', e, hcj, hc2, _⟩ := (hH.r0 i hlt0 trivial).atT k (by rw [← HN.out]; exact hk3)
                rw [HVI.out.2] at e
                injection e with e1 e2' e3
                subst e1 e3
                rw [← HN.out] at hci hcj
                generalize (X i)[k]'(by rw [← HN.out]; exact hk3) = z at hc hc2
                have hsm : (z.toList == z.toList) = true := by simp
                clear e2 e2' hk3 hH
                go_wp2_with fail
                go_quiet (fail)
                have HB3 := hib (below_drewN3 HB2.out nq)
                generalize wr.drewN nq = w9 at *
                clear c4 c5 ck cj hc hc2
                go_wp2
                go_roundg (gk - 1)
                case measure => omega
                case rel => exact ⟨k + 1, by omega, by omega, by first | rfl | go_num, HB3⟩
              · have hkI : ¬ (k : Int) < (N : Int) := by omega
                have hdk : decide (k < N) = false := by simp; omega
                clear hk3 hm2 hH
                go_wp2
                go_roundg (gO - 1)
                case measure => obtain ⟨h1, h2⟩ := HG.out; omega
                case rel => exact ⟨i + 1, by omega, by obtain ⟨h1, h2⟩ := HG.out; omega, by first | rfl | go_num, HB2⟩
          · have hltI : ¬ (i : Int) < (V.length : Int) := by omega
            have hdI : decide (i < V.length) = false := by simp; omega
            have c8 := hH.bb.c8
            have c10 := hH.bb.c10
            have c12 := hH.bb.c12
            have HHw := hib hH
            clear hlt hm hH
            obtain ⟨w6, hw6⟩ : ∃ w6, w6 = wr := ⟨_, rfl⟩
            subst hw6
            go_wp2_with fail
            go_loopw [10] (fun i wz => i = .int .i64 0 ∧ wz = w6) (fun _ _ => 0)
            case atStart => exact ⟨rfl, rfl⟩
            case round =>
              obtain ⟨hi, hw⟩ := hrel
              subst hi
              replace hw := hw.symm
              subst hw
              go_wp2_with fail
              go_loopw [12] (fun i wz => i = .int .i64 0 ∧ wz = w6) (fun _ _ => 0)
              case atStart => exact ⟨rfl, rfl⟩
              case round =>
                obtain ⟨hi, hw⟩ := hrel
                subst hi
                replace hw := hw.symm
                subst hw
                go_wp2_with fail
                go_loopg [14] P.length (fun g s14 wz => ∃ (i : Nat), i ≤ P.length ∧ P.length - i ≤ g ∧ s14 = .int .i64 (i : Int) ∧ Hid (LtC w6 wz))
                case atStart => exact ⟨0, Nat.zero_le _, Nat.le_refl _, rfl, hib (LtC.refl _)⟩
                case round =>
                  obtain ⟨p, hp, hm, h14, HL⟩ := hrel
                  subst h14
                  have hH := HHw.out.later HL.out
                  clear c8 c10 c12
                  have c12 := hH.bb.c12
                  have c13 := hH.bb.c13
                  by_cases hlt : p < P.length
                  · have hltI : (p : Int) < (P.length : Int) := by omega
                    have hdI : decide (p < P.length) = true := by simp; exact hlt
                    have hlt0 : p < T0.length := by rw [hH.plen]; exact hlt
                    obtain ⟨bp, kp, hpv, hkp, cp⟩ := hH.p1.cellV p hlt
                    injection hpv with e1 _ e3
                    subst e1 e3
                    obtain ⟨bs, ks, hsv, hks, cs, _⟩ := hH.p0.atT p hlt0
                    injection hsv with e1 e2 e3
                    subst e1 e3
                    rw [hH.told p hlt0] at cs
                    have hrw := hH.rows p hlt
                    obtain ⟨z, hz⟩ : ∃ z, z = tld (R p) := ⟨_, rfl⟩
                    obtain ⟨u, hu⟩ : ∃ u, u = P[p] := ⟨_, rfl⟩
                    rw [← hz] at cs
                    rw [← hu] at cp hrw
                    have HTo := hib (fun wx (hx : LtC wr wx) => hz ▸ told_any u (R p) wx (hrw.later hx) (hH.rsh p).1 (hH.rsh p).2.1 (hH.rsh p).2.2)
                    have hks' : P.length ≤ sc := by rw [← hH.plen]; exact hks
                    have KK := hib (show ∀ wx, LtC wr wx → wx.cell? ⟨b, 12, none⟩ = some (.slice (some ⟨bp, 0, none⟩) P.length rc) ∧ wx.cell? ⟨b, 13, none⟩ = some (.slice (some ⟨bs, 0, none⟩) P.length sc) ∧ wx.cell? ⟨bp, p, none⟩ = some u ∧ wx.cell? ⟨bs, p, none⟩ = some (.string z) from fun wx hx => ⟨belC hx c12, belC hx c13, belC hx cp, belC hx cs⟩)
                    have hsm : (z.toList == z.toList) = true := by simp
                    have K0 := LtC.refl wr
                    have K1 := LtC.drew wr
                    have HRw := hib HL.out
                    clear hH hrw hz hu e2
                    go_upto_region 49 with fail
                    go_region_held3 (fun wx => wx.cell? ⟨b, 12, none⟩ = some (.slice (some ⟨bp, 0, none⟩) P.length rc) ∧ wx.cell? ⟨b, 13, none⟩ = some (.slice (some ⟨bs, 0, none⟩) P.length sc) ∧ wx.cell? ⟨bp, p, none⟩ = some u ∧ wx.cell? ⟨bs, p, none⟩ = some (.string z)) (exact KK.out _ (by assumption)) (first
                      | (go_at_call 34; refine (HTo.out _ (by assumption)).mono ?_; rintro e w5 ⟨rfl, s5⟩; have K5 := LtC.step (by assumption) s5; clear s5))
                    all_goals
                      have HL11 := hib (LtC.step HRw.out (by assumption))
                      go_wp2
                      go_roundg (gk - 1)
                      case measure => omega
                      case rel => exact ⟨p + 1, by omega, by omega, by first | rfl | go_num, HL11⟩
                  · have hltI : ¬ (p : Int) < (P.length : Int) := by omega
                    have hdI : decide (p < P.length) = false := by simp; omega
                    clear hH
                    go_wp2
                    go_ret
                    exact ⟨rfl, LtC.step HB.out HL.out⟩
end Go.Proofs.YtpgpeafmlijfkaaGreatDoor

namespace Go.Proofs.YtpgpeafmlijfkaaGreatDoor
open Go.RowKit
set_option maxRecDepth 100000
set_option linter.unusedVariables false
set_option linter.unusedSimpArgs false

/-- the texts' part of BkW -/
structure BkV (col : Nat → Nat) (w : World) (B b : Nat) (iv iv0 rv rv0 : Value) (V V0 : List Value) (X : Nat → List ByteArray) : Prop where
  bb : BkT w b iv iv0 rv rv0
  i1 : J1 col w B iv V X
  o0 : Ow eV 1 28 col 36 w B iv0 V0
  r0 : RwG eT 1 9 (fun j => 8 * j + 2) col w B (fun _ => True) V0 X
  len : V0.length = V.length
  cb : col b = 14
  few : V.length ≤ 1000000000000
  sh : ∀ j, (X j).length ≤ 1000000000000
theorem Ow.neB {α : Type} {enc : α → List Value} {k : Nat} {t : TypeId} {col : Nat → Nat} {c : Nat} {w : World} {B : Nat} {v : Value} {L : List α} (h : Ow enc k t col c w B v L) {b : Nat} {cs : Array Value} {u : TypeId} {fr : Nat × Nat} (hb : w.heap[b]? = some (.cells cs u fr)) (hne : u ≠ t) : v.ownBlock ≠ some b := by
  rcases h.1.2 with ⟨rfl, _⟩ | ⟨g, cap, cur, rfl, _, hg, _⟩
  · simp [Value.ownBlock]
  · intro e
    have : g = b := by simpa [Value.ownBlock] using e
    subst this
    have h1 := hg.symm.trans hb
    injection h1 with h2
    injection h2 with _ h3 _
    exact hne h3.symm
theorem run_appD {α : Type} {enc : α → List Value} {k : Nat} {t : TypeId} {col : Nat → Nat} {c : Nat} {w : World} {base : Nat} {v : Value} {L : List α} {st : TypeId} {z : Value} {bytes : Nat} (inf : (Tryz.prog.info? t).map (fun i => (i.zero, i.size, i.bytes)) = some (some z, k, bytes)) (hst : Tryz.prog.underlying st = some (.slice t)) (hzs : z.cells.size = k) (hk0 : 0 < k) (hk : ∀ x, (enc x).length = k)
    (hown : Ow enc k t col c w base v L) (xv : Value) (M : List α) (hx : (xv = .slice none 0 0 ∧ M = []) ∨ ∃ ad cp, xv = .slice (some ad) M.length cp ∧ ∀ j u, (M.flatMap enc)[j]? = some u → w.cell? (ad.add j) = some u) (h1 : ∀ x ∈ M, ∀ u ∈ enc x, u.oneCell' = true)
    (hlen : (L.length + M.length) * bytes ≤ 140737488355328) (hlen2 : L.length + M.length ≤ maxLen) (hbase : base ≤ w.heap.size) (ty : TypeId) :
    ∃ v' w' col', (Builtin.append_ #[st, st] ty #[v, xv]).run Tryz.prog w = .ok v' w' ∧ Ow enc k t col' c w' base v' (L ++ M) ∧ (∀ u c2 (L2 : List α), Ow enc k t col c2 w base u L2 → L2.length ≤ L.length → Ow enc k t col' c2 w' base u L2) ∧ w.grownBy w' v.ownBlock ∧ (∀ g, v.ownBlock = some g → col g = c ∧ g < w.heap.size) ∧ (∀ g, g < w.heap.size → col' g = col g) := by
  obtain ⟨i, hi, hz, hsz, hby⟩ := info_parts inf
  rcases hx with ⟨rfl, rfl⟩ | ⟨ad, cp, rfl, hnews⟩
  · have hr := run_append_owned_none (P := Tryz.prog) (w := w) base st ty t i k hst hi v L.length (L.flatMap enc) hown.1
    exact ⟨v, w, col, hr, by rw [List.append_nil]; exact hown, fun u c2 L2 hu _ => hu, ⟨rfl, rfl, rfl, Nat.le_refl _, fun _ _ _ => rfl⟩, fun g hg => ⟨hown.2 g hg, (hown.lt g hg).2⟩, fun _ _ => rfl⟩
  obtain ⟨v', w', hr, h2, h3, h5, h6⟩ := run_append_keep2 (P := Tryz.prog) w base st ty t i z k bytes hst hi hz hsz hby hzs hk0 v L.length (L.flatMap enc) hown.1 ad M.length cp (M.flatMap enc) (fl_len hk M) hnews (fun u hu => by obtain ⟨y, hy1, hy⟩ := List.mem_flatMap.1 hu; exact h1 y hy1 u hy) hlen2 hlen hbase
  have hcol : ∀ g, g < w.heap.size → (fun g => if g = w.heap.size then c else col g) g = col g := fun g hg => by show (if g = w.heap.size then c else col g) = col g; rw [if_neg (by omega)]
  exact ⟨v', w', (fun g => if g = w.heap.size then c else col g), hr, ⟨by rw [List.flatMap_append, List.length_append]; exact h2, fun g hg => by
      rcases h5 with h5 | h5
      · rw [h5] at hg
        rw [hcol g (hown.lt g hg).2]
        exact hown.2 g hg
      · rw [h5] at hg
        cases hg
        show (if w.heap.size = w.heap.size then c else col w.heap.size) = c
        rw [if_pos rfl]⟩, (fun u c2 L2 hu hl => ⟨h6 u _ _ hu.1 hl, fun g hg => by rw [hcol g (hu.lt g hg).2]; exact hu.2 g hg⟩), h3, (fun g hg => ⟨hown.2 g hg, (hown.lt g hg).2⟩), hcol⟩
/-- a list as a source -/
theorem Ow.srcT {col : Nat → Nat} {c : Nat} {w : World} {B : Nat} {v : Value} {L : List ByteArray} (h : Ow eT 1 9 col c w B v L) : (v = .slice none 0 0 ∧ L = []) ∨ ∃ ad cp, v = .slice (some ad) L.length cp ∧ ∀ j u, (L.flatMap eT)[j]? = some u → w.cell? (ad.add j) = some u := by
  have hc := fun g hg => World.ownsRow.cells h.1 (g := g) hg
  rcases h.1.2 with ⟨rfl, h0⟩ | ⟨g, cap, cur, rfl, _⟩
  · exact .inl ⟨rfl, List.eq_nil_of_length_eq_zero h0⟩
  · exact .inr ⟨_, cap, rfl, hc g rfl⟩
/-- what Texts leaves -/
structure FrB (col : Nat → Nat) (b : Nat) (w w' : World) : Prop where
  os : w'.os = w.os
  tape : w'.tape = w.tape
  output : w'.output = w.output
  size : w.heap.size ≤ w'.heap.size
  block : ∀ g, g < w.heap.size → g ≠ b → col g ≠ 4 → col g ≠ 36 → w'.heap[g]? = w.heap[g]?
def TextsA (col : Nat → Nat) (w : World) (B b : Nat) (V : List Value) (X : Nat → List ByteArray) (rv rv0 l : Value) (L : List ByteArray) (e : Ending) (w' : World) : Prop :=
  ∃ col' iv' iv0' V0', e = .returned (.tuple #[]) ∧ BkV col' w' B b iv' iv0' rv rv0 (V ++ [l]) V0' (fun j => if j = V.length then L else X j) ∧ (∀ g, g < w.heap.size → col' g = col g) ∧ FrB col b w w'
/-- all lists of Books, a list ahead of being held beside them -/
structure Bk4 (col : Nat → Nat) (w : World) (B b : Nat) (V V0 : List Value) (X : Nat → List ByteArray) (iv iv0 rv rv0 l : Value) (L : List ByteArray) (n : Nat) : Prop where
  bb : BkT w b iv iv0 rv rv0
  o : Ow eV 1 28 col 4 w B iv V
  r : RwG eT 1 9 (fun j => 8 * j) col w B (fun j => j < n) V X
  o0 : Ow eV 1 28 col 36 w B iv0 V0
  r0 : RwG eT 1 9 (fun j => 8 * j + 2) col w B (fun j => j < n) V0 X
  ol : Ow eT 1 9 col (8 * n) w B l L
  cb : col b = 14
section
variable {col col' : Nat → Nat} {w w' : World} {B b : Nat} {V V0 : List Value} {X : Nat → List ByteArray} {iv iv0 rv rv0 l : Value} {L : List ByteArray} {n : Nat}
theorem Bk4.later (h : Bk4 col w B b V V0 X iv iv0 rv rv0 l L n) (hb : Below w.heap.size w w') : Bk4 col w' B b V V0 X iv iv0 rv rv0 l L n :=
  ⟨h.bb.later hb, h.o.later hb, h.r.later hb, h.o0.later hb, h.r0.later hb, h.ol.later hb, h.cb⟩
theorem Bk4.recol (h : Bk4 col w B b V V0 X iv iv0 rv rv0 l L n) (hc : ∀ g, g < w.heap.size → col' g = col g) : Bk4 col' w B b V V0 X iv iv0 rv rv0 l L n :=
  ⟨h.bb, h.o.recol hc, h.r.recol hc, h.o0.recol hc, h.r0.recol hc, h.ol.recol hc, (hc b h.bb.lt).trans h.cb⟩
end
def apII (a : Array Value) : Sem Value := Builtin.append_ #[30, 30] 30 a
theorem apII_op (a : Array Value) : Builtin.append_ #[30, 30] 30 a = apII a := rfl
def apI (a : Array Value) : Sem Value := Builtin.append_ #[28, 28] 28 a
theorem apI_op (a : Array Value) : Builtin.append_ #[28, 28] 28 a = apI a := rfl
attribute [local go_sem ↓] apII_op apI_op
set_option maxHeartbeats 8000000 in
theorem texts_any (w : World) (B b : Nat) (col : Nat → Nat) (iv iv0 rv rv0 l : Value) (V V0 : List Value) (X : Nat → List ByteArray) (L : List ByteArray) (h : BkV col w B b iv iv0 rv rv0 V V0 X) (hl : Ow eT 1 9 col (8 * V.length) w B l L) (hB : B ≤ w.heap.size) (hL : L.length ≤ 1000000000000) (hn : V.length + 1 ≤ 1000000000000) :
    Calls Tryz.prog 33 #[.pointer (some ⟨b, 0, none⟩), l] w fun e w' => TextsA col w B b V X rv rv0 l L e w' := by
  obtain ⟨lo, lc, hlv⟩ := hl.sl
  subst hlv
  obtain ⟨io, ic, hiv⟩ := h.i1.1.sl
  subst hiv
  obtain ⟨jo, jc, hjv⟩ := h.o0.sl
  rw [h.len] at hjv
  subst hjv
  have c4 := h.bb.c6
  -- the first append
  obtain ⟨wa, hwa⟩ : ∃ wa, w.alloc (.cells #[.slice lo L.length lc] 28) = wa := ⟨_, rfl⟩
  have ba : Below w.heap.size w wa := by rw [← hwa]; exact (Below.refl _ _).alloc (Nat.le_refl _) _
  have hza : wa.heap.size = w.heap.size + 1 := by rw [← hwa]; simp
  have hna : ∀ j u, (([.slice lo L.length lc] : List Value).flatMap eV)[j]? = some u → wa.cell? ((⟨w.heap.size, 0, none⟩ : Addr).add j) = some u := by rw [← hwa]; exact cell_newV w _ _
  have hBa : B ≤ wa.heap.size := by omega
  obtain ⟨v1, w2, col2, hap1, ho1, hk1, hg1, hr1, hc1⟩ := run_appD stinf Tryz.underlying30 rfl (by decide) eV_len (h.i1.1.later ba) (.slice (some ⟨w.heap.size, 0, none⟩) 1 1) [.slice lo L.length lc] (.inr ⟨_, 1, rfl, hna⟩) (fun x hx => by simp at hx; subst hx; simp [eV, Value.oneCell']) (by simp; omega) (by unfold maxLen; simp; omega) hBa 30
  have hba := h.bb.later ba
  have hcb1 : col2 b = 14 := (hc1 b hba.lt).trans h.cb
  have hbb2 : BkT w2 b (.slice io V.length ic) (.slice jo V.length jc) rv rv0 := (hg1.block b hba.lt (fun e => (h.i1.1.later ba).neB hba (by decide) e.symm)).trans hba
  have ne14 : ∀ {α : Type} {enc : α → List Value} {k : Nat} {t : TypeId} {cl : Nat → Nat} {c : Nat} {W : World} {v : Value} {M : List α} (o : Nat) (u : Value), cl b = 14 → c ≠ 14 → Ow enc k t cl c W B v M → Ow enc k t cl c (W.setCell ⟨b, o, none⟩ u) B v M := fun o u hcl hne ho => ho.other (gb_set _ b o u) (fun g e => by cases e; exact hcl) hne
  obtain ⟨w3, hw3⟩ : ∃ w3, w2.setCell ⟨b, 6, none⟩ v1 = w3 := ⟨_, rfl⟩
  have H3 : Bk4 col2 w3 B b (V ++ [.slice lo L.length lc]) V0 X v1 (.slice jo V.length jc) rv rv0 (.slice lo L.length lc) L V.length := by
    rw [← hw3]
    refine ⟨hbb2.set6 v1, ne14 6 v1 hcb1 (by decide) ho1, fun j hj hp => ?_, ne14 6 v1 hcb1 (by decide) ((h.o0.later ba).app hg1 hr1 hc1 (by decide)), fun j hj hp => ne14 6 v1 hcb1 (by (try dsimp only); omega) ((h.r0.later ba j hj trivial).app hg1 hr1 hc1 (by (try dsimp only); omega)), ne14 6 v1 hcb1 (by omega) ((hl.later ba).app hg1 hr1 hc1 (by omega)), hcb1⟩
    have hj' : j < V.length := hp
    rw [List.getElem_append_left hj']
    exact ne14 6 v1 hcb1 (by (try dsimp only); omega) ((h.i1.2.later ba j hj' trivial).app hg1 hr1 hc1 (by (try dsimp only); omega))
  have hz2 : w.heap.size + 1 ≤ w2.heap.size := by have := hg1.size; omega
  have hz3 : w3.heap.size = w2.heap.size := by rw [← hw3]; simp
  -- the copy
  obtain ⟨w4, hw4⟩ : ∃ w4, (w3.alloc (.cells #[] 9)).drew = w4 := ⟨_, rfl⟩
  have b4 : Below w3.heap.size w3 w4 := by rw [← hw4]; exact ((Below.refl _ _).alloc (Nat.le_refl _) _).drew
  have hz4 : w4.heap.size = w3.heap.size + 1 := by rw [← hw4]; show (w3.alloc _).heap.size = _; simp
  obtain ⟨col4, hcol4⟩ : ∃ c4, c4 = (fun g => if g = w3.heap.size then 8 * V.length + 2 else col2 g) := ⟨_, rfl⟩
  have hc4 : ∀ g, g < w3.heap.size → col4 g = col2 g := fun g hg => by rw [hcol4]; show (if g = w3.heap.size then _ else col2 g) = col2 g; rw [if_neg (by omega)]
  have H4 := (H3.recol hc4).later b4
  have hE : Ow eT 1 9 col4 (8 * V.length + 2) w4 B (.slice (some ⟨w3.heap.size, 0, none⟩) 0 0) [] := by
    refine ⟨?_, fun g hg => ?_⟩
    · have := World.ownsRow_made (base := B) (e := 9) (size := 1) w3 #[] 0 (by omega) (by unfold maxLen; omega) rfl
      rw [← hw4]
      exact this
    · have : g = w3.heap.size := by simpa [Value.ownBlock] using hg.symm
      subst this
      rw [hcol4]
      show (if w3.heap.size = w3.heap.size then _ else _) = _
      rw [if_pos rfl]
  obtain ⟨v5, w5, col5, hap2, ho5, hk5, hg5, hr5, hc5⟩ := run_appD txinf Tryz.underlying28 rfl (by decide) eT_len hE (.slice lo L.length lc) L H4.ol.srcT (fun x hx => eT_one x) (by simp; omega) (by unfold maxLen; simp; omega) (by omega) 28
  rw [List.nil_append] at ho5
  have hbb5 : BkT w5 b v1 (.slice jo V.length jc) rv rv0 := (hg5.block b H4.bb.lt (fun e => hE.neB H4.bb (by decide) e.symm)).trans H4.bb
  have H5 : Bk4 col5 w5 B b (V ++ [.slice lo L.length lc]) V0 X v1 (.slice jo V.length jc) rv rv0 (.slice lo L.length lc) L V.length :=
    ⟨hbb5, H4.o.app hg5 hr5 hc5 (by omega), fun j hj hp => (H4.r j hj hp).app hg5 hr5 hc5 (by (try dsimp only); omega), H4.o0.app hg5 hr5 hc5 (by omega), fun j hj hp => (H4.r0 j hj hp).app hg5 hr5 hc5 (by (try dsimp only); have : j < V.length := hp; omega), H4.ol.app hg5 hr5 hc5 (by omega), (hc5 b H4.bb.lt).trans H4.cb⟩
  obtain ⟨o5, c5, hv5⟩ := ho5.sl
  subst hv5
  obtain ⟨w6, hw6⟩ : ∃ w6, w5.alloc (.cells #[.slice o5 L.length c5] 28) = w6 := ⟨_, rfl⟩
  have b6 : Below w5.heap.size w5 w6 := by rw [← hw6]; exact (Below.refl _ _).alloc (Nat.le_refl _) _
  have hz6 : w6.heap.size = w5.heap.size + 1 := by rw [← hw6]; simp
  have hz5 : w4.heap.size ≤ w5.heap.size := hg5.size
  have hn6 : ∀ j u, (([.slice o5 L.length c5] : List Value).flatMap eV)[j]? = some u → w6.cell? ((⟨w5.heap.size, 0, none⟩ : Addr).add j) = some u := by rw [← hw6]; exact cell_newV w5 _ _
  have H6 := H5.later b6
  have ho6 := ho5.later b6
  obtain ⟨v7, w7, col7, hap3, ho7, hk7, hg7, hr7, hc7⟩ := run_appD stinf Tryz.underlying30 rfl (by decide) eV_len H6.o0 (.slice (some ⟨w5.heap.size, 0, none⟩) 1 1) [.slice o5 L.length c5] (.inr ⟨_, 1, rfl, hn6⟩) (fun x hx => by simp at hx; subst hx; simp [eV, Value.oneCell']) (by have := h.len; simp; omega) (by have := h.len; unfold maxLen; simp; omega) (by omega) 30
  have hbb7 : BkT w7 b v1 (.slice jo V.length jc) rv rv0 := (hg7.block b H6.bb.lt (fun e => H6.o0.neB H6.bb (by decide) e.symm)).trans H6.bb
  have hcb7 : col7 b = 14 := (hc7 b H6.bb.lt).trans H6.cb
  obtain ⟨w8, hw8⟩ : ∃ w8, w7.setCell ⟨b, 7, none⟩ v7 = w8 := ⟨_, rfl⟩
  have HR : BkV col7 w8 B b v1 v7 rv rv0 (V ++ [.slice lo L.length lc]) (V0 ++ [.slice o5 L.length c5]) (fun j => if j = V.length then L else X j) := by
    rw [← hw8]
    have hlen := h.len
    refine ⟨hbb7.set7 v7, ⟨ne14 7 v7 hcb7 (by decide) (H6.o.app hg7 hr7 hc7 (by decide)), fun j hj _ => ?_⟩, ne14 7 v7 hcb7 (by decide) ho7, fun j hj _ => ?_, by simp [hlen], hcb7, by simp; omega, fun j => ?_⟩
    · by_cases e : j = V.length
      · subst e
        have e1 : (V ++ [Value.slice lo L.length lc])[V.length]'hj = .slice lo L.length lc := by simp
        rw [e1]
        show Ow eT 1 9 col7 (8 * V.length) _ B _ (if V.length = V.length then L else X V.length)
        rw [if_pos rfl]
        exact ne14 7 v7 hcb7 (by omega) (H6.ol.app hg7 hr7 hc7 (by omega))
      · have hj' : j < V.length := by simp at hj; omega
        show Ow eT 1 9 col7 (8 * j) _ B _ (if j = V.length then L else X j)
        rw [if_neg e]
        exact ne14 7 v7 hcb7 (by (try dsimp only); omega) ((H6.r j hj hj').app hg7 hr7 hc7 (by (try dsimp only); omega))
    · by_cases e : j = V.length
      · subst e
        have e1 : (V0 ++ [Value.slice o5 L.length c5])[V.length]'hj = .slice o5 L.length c5 := by simp [← hlen]
        rw [e1]
        show Ow eT 1 9 col7 (8 * V.length + 2) _ B _ (if V.length = V.length then L else X V.length)
        rw [if_pos rfl]
        exact ne14 7 v7 hcb7 (by omega) (ho6.app hg7 hr7 hc7 (by omega))
      · have hj' : j < V.length := by simp [hlen] at hj; omega
        have hj0 : j < V0.length := by rw [hlen]; exact hj'
        show Ow eT 1 9 col7 (8 * j + 2) _ B _ (if j = V.length then L else X j)
        rw [if_neg e, List.getElem_append_left hj0]
        exact ne14 7 v7 hcb7 (by (try dsimp only); omega) ((H6.r0 j hj0 hj').app hg7 hr7 hc7 (by (try dsimp only); omega))
    · show (if j = V.length then L else X j).length ≤ _
      split
      · exact hL
      · exact h.sh j
  have HC : ∀ g, g < w.heap.size → col7 g = col g := fun g hg => by rw [hc7 g (by omega), hc5 g (by omega), hc4 g (by omega), hc1 g (by omega)]
  have HF : FrB col b w w8 := by
    refine ⟨?_, ?_, ?_, ?_, fun g hg hgb h2 h6 => ?_⟩
    · rw [← hw8]
      show w7.os = _
      rw [hg7.os, b6.os, hg5.os, b4.os, ← hw3]
      show w2.os = _
      rw [hg1.os, ba.os]
    · rw [← hw8]
      show w7.tape = _
      rw [hg7.tape, b6.tape, hg5.tape, b4.tape, ← hw3]
      show w2.tape = _
      rw [hg1.tape, ba.tape]
    · rw [← hw8]
      show w7.output = _
      rw [hg7.output, b6.output, hg5.output, b4.output, ← hw3]
      show w2.output = _
      rw [hg1.output, ba.output]
    · have : w8.heap.size = w7.heap.size := by rw [← hw8]; simp
      have := hg7.size
      omega
    · have e8 : w8.heap[g]? = w7.heap[g]? := by rw [← hw8]; exact (gb_set w7 b 7 v7).block g (by have := hg7.size; omega) (fun e => by injection e with e; exact hgb e)
      have e7 : w7.heap[g]? = w6.heap[g]? := hg7.block g (by omega) (fun e => by have := (hr7 g e.symm).1; rw [hc5 g (by omega), hc4 g (by omega), hc1 g (by omega)] at this; exact h6 this)
      have e6 : w6.heap[g]? = w5.heap[g]? := b6.block g (by omega)
      have e5 : w5.heap[g]? = w4.heap[g]? := hg5.block g (by omega) (fun e => by have := (Option.some.inj (show some g = some w3.heap.size from by simpa [Value.ownBlock] using e)); omega)
      have e4 : w4.heap[g]? = w3.heap[g]? := b4.block g (by omega)
      have e3 : w3.heap[g]? = w2.heap[g]? := by rw [← hw3]; exact (gb_set w2 b 6 v1).block g (by omega) (fun e => by injection e with e; exact hgb e)
      have e2 : w2.heap[g]? = wa.heap[g]? := hg1.block g (by omega) (fun e => h2 ((hr1 g e.symm).1))
      rw [e8, e7, e6, e5, e4, e3, e2]
      exact ba.block g hg
  have HRes := hib (And.intro HR (And.intro HC HF))
  have f4 := hbb2.fr 6
  have d4 := hbb2.c6
  have k3 : w3.drew.cell? ⟨b, 7, none⟩ = some (.slice jo V.length jc) := H3.bb.c7
  have k4 := H4.bb.c7
  have k5 := H5.bb.c7
  have k6 := H6.bb.c7
  have k7 := hbb7.c7
  have f7 := hbb7.fr 7
  obtain ⟨o1, c1', hv1⟩ := ho1.sl
  subst hv1
  obtain ⟨o7, c7', hv7⟩ := ho7.sl
  subst hv7
  rw [apII_op] at hap1 hap3
  rw [apI_op] at hap2
  generalize (V ++ [Value.slice lo L.length lc]).length = n1 at *
  generalize (V0 ++ [Value.slice o5 L.length c5]).length = n7 at *
  clear h hl HR HC HF ba hza hna hBa ho1 hk1 hg1 hr1 hc1 hba hcb1 hbb2 ne14 H3 hz2 hz3 b4 hz4 hcol4 hc4 H4 hE ho5 hk5 hg5 hr5 hc5 hbb5 H5 b6 hz6 hz5 hn6 H6 ho6 ho7 hk7 hg7 hr7 hc7 hbb7 hcb7
  go_enter Tryz.func33, Tryz.ntmps33
  go_wp2_with fail
  go_region
  all_goals go_wp2
  all_goals go_end0
  all_goals exact ⟨col7, _, _, _, rfl, HRes.out.1, HRes.out.2.1, HRes.out.2.2⟩
end Go.Proofs.YtpgpeafmlijfkaaGreatDoor

namespace Go.Proofs.YtpgpeafmlijfkaaGreatDoor
open Go.RowKit
set_option maxRecDepth 100000
set_option linter.unusedVariables false
set_option linter.unusedSimpArgs false

/-- all that the Books of texts and rows hold, the rows by where their texts lie -/
structure BkR (col : Nat → Nat) (w : World) (B b : Nat) (tv tv0 rv rv0 : Value) (V V0 P : List Value) (X : Nat → List ByteArray) (Q : Nat → List Value) (T0 : List ByteArray) (R : Nat → List (List ByteArray)) : Prop where
  bv : BkV col w B b tv tv0 rv rv0 V V0 X
  r1 : R1 col w B rv P Q
  p0 : Ow eT 1 9 col 44 w B rv0 T0
  plen : T0.length = P.length
  pfew : P.length ≤ 5000000000000
  qr : ∀ j, (Q j).length = (R j).length
  idx : ∀ j, j < P.length → ∀ i (hi : i < (Q j).length) (hi' : i < (R j).length), ∃ k, ∃ hk : k < V.length, V[k] = (Q j)[i] ∧ X k = (R j)[i]
  told : ∀ j (h : j < T0.length), T0[j] = tld (R j)
  rsh : ∀ j, (R j).length ≤ 1000000000000 ∧ (∀ i (hi : i < (R j).length), (R j)[i].length ≤ 1000000000000) ∧ (tld (R j)).size ≤ 4611686018427387904
theorem Ow.txc {col : Nat → Nat} {c : Nat} {w : World} {B : Nat} {v : Value} {L : List ByteArray} (h : Ow eT 1 9 col c w B v L) : TxC w v L := by
  obtain ⟨ao, cap, hv⟩ := h.sl
  by_cases h0 : L.length = 0
  · exact ⟨ao, cap, hv, by omega, fun j hj => by omega⟩
  · obtain ⟨g, cap', hv', h1, _⟩ := h.atT 0 (by omega)
    refine ⟨some ⟨g, 0, none⟩, cap', hv', h1, fun j hj => ?_⟩
    obtain ⟨g2, c2, hv2, _, h2, _⟩ := h.atT j hj
    rw [hv'] at hv2
    injection hv2 with e
    injection e with e
    injection e with e
    subst e
    exact ⟨g, 0, rfl, by rw [Nat.zero_add]; exact h2⟩
theorem rwc_of {col : Nat → Nat} {c : Nat} {w : World} {B : Nat} {v : Value} {L : List Value} {R : List (List ByteArray)} (h : Ow eV 1 28 col c w B v L) (hl : L.length = R.length) (ht : ∀ i (hi : i < L.length) (hi' : i < R.length), TxC w L[i] R[i]) : RwC w v R := by
  obtain ⟨ao, cap, hv⟩ := h.sl
  by_cases h0 : L.length = 0
  · exact ⟨ao, cap, by rw [← hl]; exact hv, by omega, fun j hj => by omega⟩
  · obtain ⟨g, cap', hv', h1, _⟩ := h.cellV 0 (by omega)
    refine ⟨some ⟨g, 0, none⟩, cap', by rw [← hl]; exact hv', by omega, fun j hj => ?_⟩
    have hjl : j < L.length := by omega
    obtain ⟨g2, c2, hv2, _, h2⟩ := h.cellV j hjl
    rw [hv'] at hv2
    injection hv2 with e
    injection e with e
    injection e with e
    subst e
    exact ⟨g, 0, _, rfl, by simpa using h2, ht j hjl hj⟩
theorem BkR.whole {col : Nat → Nat} {w : World} {B b : Nat} {tv tv0 rv rv0 : Value} {V V0 P : List Value} {X : Nat → List ByteArray} {Q : Nat → List Value} {T0 : List ByteArray} {R : Nat → List (List ByteArray)} (h : BkR col w B b tv tv0 rv rv0 V V0 P X Q T0 R) : BkW col w B b tv tv0 rv rv0 V V0 P X T0 R :=
  ⟨h.bv.bb, h.bv.i1, h.bv.o0, h.bv.r0, h.bv.len, h.bv.cb, h.bv.few, h.bv.sh, h.r1.1, h.p0, h.plen, h.pfew, fun j hj => rwc_of (h.r1.2 j hj trivial) (h.qr j) fun i hi hi' => by
    obtain ⟨k, hk, e1, e2⟩ := h.idx j hj i hi hi'
    rw [← e1, ← e2]
    exact (h.bv.i1.2 k hk trivial).txc, h.told, h.rsh⟩
/-- what Rows leaves -/
structure FrR (col : Nat → Nat) (b : Nat) (w w' : World) : Prop where
  os : w'.os = w.os
  tape : w'.tape = w.tape
  output : w'.output = w.output
  size : w.heap.size ≤ w'.heap.size
  block : ∀ g, g < w.heap.size → g ≠ b → col g ≠ 4 → col g ≠ 36 → col g ≠ 12 → col g ≠ 44 → w'.heap[g]? = w.heap[g]?
theorem FrB.refl (col : Nat → Nat) (b : Nat) (w : World) : FrB col b w w := ⟨rfl, rfl, rfl, Nat.le_refl _, fun _ _ _ _ _ => rfl⟩
theorem FrB.trans {col col1 : Nat → Nat} {b : Nat} {w w1 w2 : World} (h : FrB col b w w1) (k : FrB col1 b w1 w2) (hc : ∀ g, g < w.heap.size → col1 g = col g) : FrB col b w w2 :=
  ⟨k.os.trans h.os, k.tape.trans h.tape, k.output.trans h.output, Nat.le_trans h.size k.size, fun g hg a1 a2 a3 => (k.block g (Nat.lt_of_lt_of_le hg h.size) a1 (by rw [hc g hg]; exact a2) (by rw [hc g hg]; exact a3)).trans (h.block g hg a1 a2 a3)⟩
theorem FrB.later {col : Nat → Nat} {b : Nat} {w w1 w2 : World} (h : FrB col b w w1) (k : Below w1.heap.size w1 w2) : FrB col b w w2 :=
  ⟨k.os.trans h.os, k.tape.trans h.tape, k.output.trans h.output, Nat.le_trans h.size k.size, fun g hg a1 a2 a3 => (k.block g (Nat.lt_of_lt_of_le hg h.size)).trans (h.block g hg a1 a2 a3)⟩
theorem Ow.keepB {α : Type} {enc : α → List Value} {k : Nat} {t : TypeId} {col col' : Nat → Nat} {c b : Nat} {w w' : World} {B : Nat} {v : Value} {L : List α} (h : Ow enc k t col c w B v L) (hf : FrB col b w w') (hb : col b = 14) (hc : ∀ g, g < w.heap.size → col' g = col g) (h4 : c ≠ 4 ∧ c ≠ 36 ∧ c ≠ 14) : Ow enc k t col' c w' B v L := by
  have hk : ∀ g, v.ownBlock = some g → w'.heap[g]? = w.heap[g]? := fun g e => hf.block g (h.lt g e).2 (fun e2 => by have := h.2 g e; rw [e2, hb] at this; exact h4.2.2 this.symm) (by rw [h.2 g e]; exact h4.1) (by rw [h.2 g e]; exact h4.2.1)
  refine ⟨⟨h.1.1, ?_⟩, fun g hg => by rw [hc g (h.lt g hg).2]; exact h.2 g hg⟩
  rcases h.1.2 with hn | ⟨g, cap, cur, rfl, h0, hg, h1⟩
  · exact .inl hn
  · exact .inr ⟨g, cap, cur, rfl, h0, (hk g rfl).trans hg, h1⟩
/-- between two rounds of Rows -/
def RwI (col : Nat → Nat) (w : World) (B b : Nat) (rv rv0 : Value) (V VL : List Value) (X : Nat → List ByteArray) (T : List (List ByteArray)) (i : Nat) (wr : World) : Prop :=
  ∃ col1 tv tv0 V0 X1, BkV col1 wr B b tv tv0 rv rv0 (V ++ VL.take i) V0 X1 ∧ (∀ j, j < V.length → X1 j = X j) ∧ (∀ j (hj : j < T.length), j < i → X1 (V.length + j) = T[j]) ∧ (∀ g, g < w.heap.size → col1 g = col g) ∧ FrB col b w wr
/-- what Rows answers -/
def RowsA (col : Nat → Nat) (w : World) (B b : Nat) (V VL P : List Value) (l : Value) (e : Ending) (w' : World) : Prop :=
  ∃ col' tv tv0 rv rv0 V0 X Q T0 R, e = .returned (.tuple #[]) ∧ BkR col' w' B b tv tv0 rv rv0 (V ++ VL) V0 (P ++ [l]) X Q T0 R ∧ (∀ g, g < w.heap.size → col' g = col g) ∧ FrR col b w w'
theorem RwI.step {col : Nat → Nat} {w : World} {B b : Nat} {rv rv0 : Value} {V VL : List Value} {X : Nat → List ByteArray} {T : List (List ByteArray)} {i : Nat} {wr w' : World} {e : Ending} {col1 : Nat → Nat} {X1 : Nat → List ByteArray} (hi : i < VL.length) (hT : i < T.length) (h2 : ∀ j, j < V.length → X1 j = X j) (h3 : ∀ j (hj : j < T.length), j < i → X1 (V.length + j) = T[j]) (h4 : ∀ g, g < w.heap.size → col1 g = col g) (h5 : FrB col b w wr)
    (h : TextsA col1 wr B b (V ++ VL.take i) X1 rv rv0 VL[i] T[i] e w') : e = .returned (.tuple #[]) ∧ RwI col w B b rv rv0 V VL X T (i + 1) w' := by
  obtain ⟨col', iv', iv0', V0', he, hb, hc, hf⟩ := h
  have hlen : (V ++ VL.take i).length = V.length + i := by rw [List.length_append, List.length_take, Nat.min_eq_left (by omega)]
  refine ⟨he, col', iv', iv0', V0', (fun j => if j = (V ++ VL.take i).length then T[i] else X1 j), ?_, ?_, ?_, fun g hg => (hc g (Nat.lt_of_lt_of_le hg h5.size)).trans (h4 g hg), h5.trans hf h4⟩
  · rw [List.append_assoc] at hb
    have e2 : VL.take i ++ [VL[i]] = VL.take (i + 1) := by rw [List.take_succ_eq_append_getElem hi]
    rw [e2] at hb
    exact hb
  · intro j hj
    show (if j = (V ++ VL.take i).length then T[i] else X1 j) = X j
    rw [if_neg (by omega)]
    exact h2 j hj
  · intro j hj hji
    show (if V.length + j = (V ++ VL.take i).length then T[i] else X1 (V.length + j)) = T[j]
    by_cases e3 : j = i
    · subst e3
      rw [if_pos (by omega)]
    · rw [if_neg (by omega)]
      exact h3 j hj (by omega)
end Go.Proofs.YtpgpeafmlijfkaaGreatDoor

namespace Go.Proofs.YtpgpeafmlijfkaaGreatDoor
open Go.RowKit
set_option maxRecDepth 100000
set_option linter.unusedVariables false
set_option linter.unusedSimpArgs false

theorem FrB.toR {col : Nat → Nat} {b : Nat} {w w' : World} (h : FrB col b w w') : FrR col b w w' := ⟨h.os, h.tape, h.output, h.size, fun g hg a1 a2 a3 _ _ => h.block g hg a1 a2 a3⟩
theorem FrR.trans {col col1 : Nat → Nat} {b : Nat} {w w1 w2 : World} (h : FrR col b w w1) (k : FrR col1 b w1 w2) (hc : ∀ g, g < w.heap.size → col1 g = col g) : FrR col b w w2 :=
  ⟨k.os.trans h.os, k.tape.trans h.tape, k.output.trans h.output, Nat.le_trans h.size k.size, fun g hg a1 a2 a3 a4 a5 => (k.block g (Nat.lt_of_lt_of_le hg h.size) a1 (by rw [hc g hg]; exact a2) (by rw [hc g hg]; exact a3) (by rw [hc g hg]; exact a4) (by rw [hc g hg]; exact a5)).trans (h.block g hg a1 a2 a3 a4 a5)⟩
theorem FrR.of_below {col : Nat → Nat} {b : Nat} {w w' : World} (h : Below w.heap.size w w') : FrR col b w w' := ⟨h.os, h.tape, h.output, h.size, fun g hg _ _ _ _ _ => h.block g hg⟩
/-- the parts of BkR, a list of rows ahead of being held -/
structure BkE (col : Nat → Nat) (w : World) (B b : Nat) (tv tv0 rv rv0 : Value) (V V0 P : List Value) (X : Nat → List ByteArray) (Q : Nat → List Value) (T0 : List ByteArray) : Prop where
  bv : BkV col w B b tv tv0 rv rv0 V V0 X
  r1 : R1 col w B rv P Q
  p0 : Ow eT 1 9 col 44 w B rv0 T0
section
variable {col col' : Nat → Nat} {w w' : World} {B b : Nat} {tv tv0 rv rv0 : Value} {V V0 P : List Value} {X : Nat → List ByteArray} {Q : Nat → List Value} {T0 : List ByteArray}
theorem BkV.later (h : BkV col w B b tv tv0 rv rv0 V V0 X) (hb : Below w.heap.size w w') : BkV col w' B b tv tv0 rv rv0 V V0 X :=
  ⟨h.bb.later hb, ⟨h.i1.1.later hb, h.i1.2.later hb⟩, h.o0.later hb, h.r0.later hb, h.len, h.cb, h.few, h.sh⟩
theorem BkE.later (h : BkE col w B b tv tv0 rv rv0 V V0 P X Q T0) (hb : Below w.heap.size w w') : BkE col w' B b tv tv0 rv rv0 V V0 P X Q T0 := ⟨h.bv.later hb, h.r1.later hb, h.p0.later hb⟩
theorem ne14R {α : Type} {enc : α → List Value} {k : Nat} {t : TypeId} {cl : Nat → Nat} {c : Nat} {W : World} {v : Value} {M : List α} (o : Nat) (u : Value) (hcl : cl b = 14) (hne : c ≠ 14) (ho : Ow enc k t cl c W B v M) : Ow enc k t cl c (W.setCell ⟨b, o, none⟩ u) B v M := ho.other (gb_set _ b o u) (fun g e => by cases e; exact hcl) hne
/-- b.rows = append(b.rows, l) -/
theorem BkE.push (h : BkE col w B b tv tv0 rv rv0 V V0 P X Q T0) (hB : B ≤ w.heap.size) (hP : P.length + 1 ≤ 5000000000000) {l : Value} {VL : List Value} (hl : Ow eV 1 28 col (8 * P.length + 1) w B l VL) :
    ∃ v1 w2 col2, (Builtin.append_ #[34, 34] 34 #[rv, .slice (some ⟨w.heap.size, 0, none⟩) 1 1]).run Tryz.prog (w.alloc (.cells #[l] 30)) = .ok v1 w2
      ∧ (∃ n o c, v1 = .slice o n c) ∧ BkT w2 b tv tv0 rv rv0 ∧ BkE col2 (w2.setCell ⟨b, 12, none⟩ v1) B b tv tv0 v1 rv0 V V0 (P ++ [l]) X (fun j => if j = P.length then VL else Q j) T0 ∧ (∀ g, g < w.heap.size → col2 g = col g) ∧ FrR col b w (w2.setCell ⟨b, 12, none⟩ v1) ∧ B ≤ w2.heap.size := by
  obtain ⟨wa, hwa⟩ : ∃ wa, w.alloc (.cells #[l] 30) = wa := ⟨_, rfl⟩
  have ba : Below w.heap.size w wa := by rw [← hwa]; exact (Below.refl _ _).alloc (Nat.le_refl _) _
  have hza : wa.heap.size = w.heap.size + 1 := by rw [← hwa]; simp
  have hna : ∀ j u, (([l] : List Value).flatMap eV)[j]? = some u → wa.cell? ((⟨w.heap.size, 0, none⟩ : Addr).add j) = some u := by rw [← hwa]; exact cell_newV w _ _
  have ha := h.later ba
  obtain ⟨lo, lc, hlv⟩ := hl.sl
  obtain ⟨v1, w2, col2, hap, ho1, hk1, hg1, hr1, hc1⟩ := run_appD rtinf Tryz.underlying34 rfl (by decide) eV_len ha.r1.1 (.slice (some ⟨w.heap.size, 0, none⟩) 1 1) [l] (.inr ⟨_, 1, rfl, hna⟩) (fun x hx => by simp at hx; subst hx; rw [hlv]; simp [eV, Value.oneCell']) (by simp; omega) (by unfold maxLen; simp; omega) (by omega) 34
  have hcb : col2 b = 14 := (hc1 b ha.bv.bb.lt).trans ha.bv.cb
  have hbb2 : BkT w2 b tv tv0 rv rv0 := (hg1.block b ha.bv.bb.lt (fun e => ha.r1.1.neB ha.bv.bb (by decide) e.symm)).trans ha.bv.bb
  have hz2 : w.heap.size + 1 ≤ w2.heap.size := by have := hg1.size; omega
  rw [hwa]
  refine ⟨v1, w2, col2, hap, ?_, hbb2, ?_, fun g hg => hc1 g (by omega), ?_, by omega⟩
  · obtain ⟨o, c, e⟩ := ho1.sl
    exact ⟨_, o, c, e⟩
  · have mv : ∀ {α : Type} {enc : α → List Value} {k : Nat} {t : TypeId} {c : Nat} {v : Value} {M : List α}, c ≠ 14 → c ≠ 12 → Ow enc k t col c w B v M → Ow enc k t col2 c (w2.setCell ⟨b, 12, none⟩ v1) B v M := fun h14 h12 ho => ne14R 12 v1 hcb h14 ((ho.later ba).app hg1 hr1 hc1 h12)
    refine ⟨⟨hbb2.set12 v1, ⟨mv (by decide) (by decide) h.bv.i1.1, fun j hj hp => mv (by (try dsimp only); omega) (by (try dsimp only); omega) (h.bv.i1.2 j hj hp)⟩, mv (by decide) (by decide) h.bv.o0, fun j hj hp => mv (by (try dsimp only); omega) (by (try dsimp only); omega) (h.bv.r0 j hj hp), h.bv.len, hcb, h.bv.few, h.bv.sh⟩, ⟨ne14R 12 v1 hcb (by decide) ho1, RwG.snoc (fun j hj hp => ?_) fun _ => ?_⟩, mv (by decide) (by decide) h.p0⟩
    · show Ow _ _ _ _ _ _ _ _ (if j = P.length then VL else Q j)
      rw [if_neg (by omega)]
      exact mv (by (try dsimp only); omega) (by (try dsimp only); omega) (h.r1.2 j hj hp)
    · show Ow _ _ _ _ (8 * P.length + 1) _ _ _ (if P.length = P.length then VL else Q P.length)
      rw [if_pos rfl]
      exact mv (by omega) (by omega) hl
  · refine ⟨hg1.os.trans ba.os, hg1.tape.trans ba.tape, hg1.output.trans ba.output, by simp; omega, fun g hg a1 a2 a3 a4 a5 => ?_⟩
    have e3 : (w2.setCell ⟨b, 12, none⟩ v1).heap[g]? = w2.heap[g]? := (gb_set w2 b 12 v1).block g (by omega) (fun e => by injection e with e; exact a1 e)
    rw [e3, hg1.block g (by omega) (fun e => a4 (hr1 g e.symm).1)]
    exact ba.block g hg
/-- b.rows0 = append(b.rows0, told) -/
theorem BkE.pushT (h : BkE col w B b tv tv0 rv rv0 V V0 P X Q T0) (hB : B ≤ w.heap.size) (hP : T0.length + 1 ≤ 5000000000001) (z : ByteArray) :
    ∃ v1 w2 col2, (Builtin.append_ #[28, 28] 28 #[rv0, .slice (some ⟨w.heap.size, 0, none⟩) 1 1]).run Tryz.prog (w.alloc (.cells #[.string z] 9)) = .ok v1 w2
      ∧ (∃ n o c, v1 = .slice o n c) ∧ BkT w2 b tv tv0 rv rv0 ∧ BkE col2 (w2.setCell ⟨b, 13, none⟩ v1) B b tv tv0 rv v1 V V0 P X Q (T0 ++ [z]) ∧ (∀ g, g < w.heap.size → col2 g = col g) ∧ FrR col b w (w2.setCell ⟨b, 13, none⟩ v1) := by
  obtain ⟨wa, hwa⟩ : ∃ wa, w.alloc (.cells #[.string z] 9) = wa := ⟨_, rfl⟩
  have ba : Below w.heap.size w wa := by rw [← hwa]; exact (Below.refl _ _).alloc (Nat.le_refl _) _
  have hza : wa.heap.size = w.heap.size + 1 := by rw [← hwa]; simp
  have hna : ∀ j u, (([z] : List ByteArray).flatMap eT)[j]? = some u → wa.cell? ((⟨w.heap.size, 0, none⟩ : Addr).add j) = some u := by
    rw [← hwa]
    exact cell_newV w _ _
  have ha := h.later ba
  obtain ⟨v1, w2, col2, hap, ho1, hk1, hg1, hr1, hc1⟩ := run_appD txinf Tryz.underlying28 rfl (by decide) eT_len ha.p0 (.slice (some ⟨w.heap.size, 0, none⟩) 1 1) [z] (.inr ⟨_, 1, rfl, hna⟩) (fun x hx => eT_one x) (by simp; omega) (by unfold maxLen; simp; omega) (by omega) 28
  have hcb : col2 b = 14 := (hc1 b ha.bv.bb.lt).trans ha.bv.cb
  have hbb2 : BkT w2 b tv tv0 rv rv0 := (hg1.block b ha.bv.bb.lt (fun e => ha.p0.neB ha.bv.bb (by decide) e.symm)).trans ha.bv.bb
  have hz2 : w.heap.size + 1 ≤ w2.heap.size := by have := hg1.size; omega
  rw [hwa]
  refine ⟨v1, w2, col2, hap, ?_, hbb2, ?_, fun g hg => hc1 g (by omega), ?_⟩
  · obtain ⟨o, c, e⟩ := ho1.sl
    exact ⟨_, o, c, e⟩
  · have mv : ∀ {α : Type} {enc : α → List Value} {k : Nat} {t : TypeId} {c : Nat} {v : Value} {M : List α}, c ≠ 14 → c ≠ 44 → Ow enc k t col c w B v M → Ow enc k t col2 c (w2.setCell ⟨b, 13, none⟩ v1) B v M := fun h14 h12 ho => ne14R 13 v1 hcb h14 ((ho.later ba).app hg1 hr1 hc1 h12)
    exact ⟨⟨hbb2.set13 v1, ⟨mv (by decide) (by decide) h.bv.i1.1, fun j hj hp => mv (by (try dsimp only); omega) (by (try dsimp only); omega) (h.bv.i1.2 j hj hp)⟩, mv (by decide) (by decide) h.bv.o0, fun j hj hp => mv (by (try dsimp only); omega) (by (try dsimp only); omega) (h.bv.r0 j hj hp), h.bv.len, hcb, h.bv.few, h.bv.sh⟩, ⟨mv (by decide) (by decide) h.r1.1, fun j hj hp => mv (by (try dsimp only); omega) (by (try dsimp only); omega) (h.r1.2 j hj hp)⟩, ne14R 13 v1 hcb (by decide) ho1⟩
  · refine ⟨hg1.os.trans ba.os, hg1.tape.trans ba.tape, hg1.output.trans ba.output, by simp; omega, fun g hg a1 a2 a3 a4 a5 => ?_⟩
    have e3 : (w2.setCell ⟨b, 13, none⟩ v1).heap[g]? = w2.heap[g]? := (gb_set w2 b 13 v1).block g (by omega) (fun e => by injection e with e; exact a1 e)
    rw [e3, hg1.block g (by omega) (fun e => a5 (hr1 g e.symm).1)]
    exact ba.block g hg
end
end Go.Proofs.YtpgpeafmlijfkaaGreatDoor

namespace Go.Proofs.YtpgpeafmlijfkaaGreatDoor
open Go.RowKit
set_option maxRecDepth 100000
set_option linter.unusedVariables false
set_option linter.unusedSimpArgs false

def apR3 (a : Array Value) : Sem Value := Builtin.append_ #[34, 34] 34 a
theorem apR3_op (a : Array Value) : Builtin.append_ #[34, 34] 34 a = apR3 a := rfl
def apT1 (a : Array Value) : Sem Value := Builtin.append_ #[28, 28] 28 a
theorem apT1_op (a : Array Value) : Builtin.append_ #[28, 28] 28 a = apT1 a := rfl
attribute [local go_sem ↓] apR3_op
theorem rows_done {col : Nat → Nat} {w w7 : World} {B b : Nat} {tv tv0 tv1 tv2 rv rv0 rv1 rv2 l : Value} {V V0 V1 VL P : List Value} {X X1 : Nat → List ByteArray} {Q : Nat → List Value} {T0 : List ByteArray} {R : Nat → List (List ByteArray)} {T : List (List ByteArray)} {col1 : Nat → Nat} (h : BkR col w B b tv tv0 rv rv0 V V0 P X Q T0 R) (hT : T.length = VL.length)
    (h2 : ∀ j, j < V.length → X1 j = X j) (h3 : ∀ j (hj : j < T.length), X1 (V.length + j) = T[j]) (hE : BkE col1 w7 B b tv1 tv2 rv1 rv2 (V ++ VL) V1 (P ++ [l]) X1 (fun j => if j = P.length then VL else Q j) (T0 ++ [tld T])) (hP : P.length + 1 ≤ 5000000000000) (hTs : T.length ≤ 1000000000000 ∧ (∀ i (hi : i < T.length), T[i].length ≤ 1000000000000) ∧ (tld T).size ≤ 4611686018427387904) :
    BkR col1 w7 B b tv1 tv2 rv1 rv2 (V ++ VL) V1 (P ++ [l]) X1 (fun j => if j = P.length then VL else Q j) (T0 ++ [tld T]) (fun j => if j = P.length then T else R j) := by
  have hpl := h.plen
  refine ⟨hE.bv, hE.r1, hE.p0, by simp [hpl], by simp; omega, fun j => ?_, fun j hj i hi hi' => ?_, fun j hj => ?_, fun j => ?_⟩
  · show (if j = P.length then VL else Q j).length = (if j = P.length then T else R j).length
    by_cases e : j = P.length
    · rw [if_pos e, if_pos e]; exact hT.symm
    · rw [if_neg e, if_neg e]; exact h.qr j
  · by_cases e : j = P.length
    · simp only [if_pos e] at hi hi' ⊢
      refine ⟨V.length + i, by simp; omega, ?_, h3 i hi'⟩
      rw [List.getElem_append_right (by omega)]
      simp
    · simp only [if_neg e] at hi hi' ⊢
      obtain ⟨k, hk, e1, e2⟩ := h.idx j (by simp at hj; omega) i hi hi'
      refine ⟨k, by simp; omega, ?_, (h2 k hk).trans e2⟩
      rw [List.getElem_append_left hk]
      exact e1
  · show (T0 ++ [tld T])[j] = tld (if j = P.length then T else R j)
    by_cases e : j = P.length
    · rw [if_pos e]
      subst e
      simp [← hpl]
    · rw [if_neg e]
      have hj' : j < T0.length := by simp at hj; omega
      rw [List.getElem_append_left hj']
      exact h.told j hj'
  · show (if j = P.length then T else R j).length ≤ _ ∧ (∀ i (hi : i < (if j = P.length then T else R j).length), (if j = P.length then T else R j)[i].length ≤ _) ∧ (tld (if j = P.length then T else R j)).size ≤ _
    by_cases e : j = P.length
    · simp only [if_pos e]; exact hTs
    · simp only [if_neg e]; exact h.rsh j
set_option maxHeartbeats 4000000 in
theorem rows_any (w : World) (B b : Nat) (col : Nat → Nat) (tv tv0 rv rv0 l : Value) (V V0 P VL : List Value) (X : Nat → List ByteArray) (Q : Nat → List Value) (T0 : List ByteArray) (R : Nat → List (List ByteArray)) (T : List (List ByteArray)) (h : BkR col w B b tv tv0 rv rv0 V V0 P X Q T0 R) (hB : B ≤ w.heap.size)
    (hl : Ow eV 1 28 col (8 * P.length + 1) w B l VL) (hT : T.length = VL.length) (hvl : ∀ i (hi : i < VL.length) (hi' : i < T.length), Ow eT 1 9 col (8 * (V.length + i)) w B VL[i] T[i]) (hn : V.length + VL.length ≤ 1000000000000) (hP : P.length + 1 ≤ 5000000000000) (hTs : T.length ≤ 1000000000000 ∧ (∀ i (hi : i < T.length), T[i].length ≤ 1000000000000) ∧ (tld T).size ≤ 4611686018427387904) :
    Calls Tryz.prog 11 #[.pointer (some ⟨b, 0, none⟩), l] w fun e w' => RowsA col w B b V VL P l e w' := by
  obtain ⟨lo, lc, hlv⟩ := hl.sl
  subst hlv
  have hnl : VL.length ≤ 1000000000000 := by omega
  have H := hib h
  have HL := hib hl
  have HVL := hib hvl
  have HT := hib hT
  have HTs := hib hTs
  have HI := hib (show RwI col w B b rv rv0 V VL X T 0 w from ⟨col, tv, tv0, V0, X, by rw [List.take_zero, List.append_nil]; exact h.bv, fun _ _ => rfl, fun j _ hj => by omega, fun _ _ => rfl, FrB.refl _ _ _⟩)
  clear h hl hvl hT hTs
  go_enter Tryz.func11, Tryz.ntmps11
  go_wp2_with fail
  go_loopg [4] VL.length (fun g s4 wr => ∃ (i : Nat), i ≤ VL.length ∧ VL.length - i ≤ g ∧ s4 = .int .i64 (i : Int) ∧ Hid (RwI col w B b rv rv0 V VL X T i wr))
  case atStart => exact ⟨0, Nat.zero_le _, Nat.le_refl _, rfl, HI⟩
  case round =>
    obtain ⟨i, hi, hm, h4, HJ⟩ := hrel
    subst h4
    obtain ⟨col1, t1, t2, V1, X1, hb, h2, h3, hc1, hf⟩ := HJ.out
    by_cases hlt : i < VL.length
    · have hltI : (i : Int) < (VL.length : Int) := by omega
      have hdI : decide (i < VL.length) = true := by simp; exact hlt
      have hTi : i < T.length := by rw [HT.out]; exact hlt
      have hlen : (V ++ VL.take i).length = V.length + i := by rw [List.length_append, List.length_take, Nat.min_eq_left (by omega)]
      have cbw : col b = 14 := H.out.bv.cb
      have ol := HL.out.keepB hf cbw hc1 ⟨by omega, by omega, by omega⟩
      obtain ⟨g, cap, e, hcap, hcell⟩ := ol.cellV i hlt
      injection e with e1 e2 e3
      subst e1 e3
      have oi := (HVL.out i hlt hTi).keepB hf cbw hc1 ⟨by omega, by omega, by omega⟩
      rw [← hlen] at oi
      have HC := hib (texts_any wr B b col1 t1 t2 rv rv0 VL[i] (V ++ VL.take i) V1 X1 T[i] hb oi (Nat.le_trans hB hf.size) (HTs.out.2.1 i hTi) (by omega))
      have HS := hib (fun e w' (h : TextsA col1 wr B b (V ++ VL.take i) X1 rv rv0 VL[i] T[i] e w') => RwI.step hlt hTi h2 h3 hc1 hf h)
      generalize hu : VL[i] = u at hcell HC HS
      clear hb h2 h3 hc1 hf ol oi hlen HJ hu e2
      go_wp2_with fail
      refine Calls.mono HC.out ?_
      rintro e w2 ht
      obtain ⟨rfl, hs⟩ := HS.out e w2 ht
      have HJ := hib hs
      clear ht hs HS HC hcell
      go_wp2
      go_roundg (gk - 1)
      case measure => omega
      case rel => exact ⟨i + 1, by omega, by omega, by first | rfl | go_num, HJ⟩
    · have hltI : ¬ (i : Int) < (VL.length : Int) := by omega
      have hdI : decide (i < VL.length) = false := by simp; omega
      have hin : i = VL.length := by omega
      have cbw : col b = 14 := H.out.bv.cb
      rw [hin, List.take_length] at hb
      have hBr : B ≤ wr.heap.size := Nat.le_trans hB hf.size
      have hE : BkE col1 wr B b t1 t2 rv rv0 (V ++ VL) V1 P X1 Q T0 := ⟨hb, ⟨H.out.r1.1.keepB hf cbw hc1 ⟨by decide, by decide, by decide⟩, fun j hj hp => (H.out.r1.2 j hj hp).keepB hf cbw hc1 ⟨by (try dsimp only); omega, by (try dsimp only); omega, by (try dsimp only); omega⟩⟩, H.out.p0.keepB hf cbw hc1 ⟨by decide, by decide, by decide⟩⟩
      have ol := HL.out.keepB hf cbw hc1 ⟨by omega, by omega, by omega⟩
      obtain ⟨v1, w2, col2, hap1, ⟨n1, o1, k1, hv1⟩, hbb2, hE2, hc2, hf2, hB2⟩ := hE.push hBr hP ol
      have hrw : RwC (w2.setCell ⟨b, 12, none⟩ v1) (.slice lo VL.length lc) T := by
        have := hE2.r1.2 P.length (by simp) trivial
        have e1 : (P ++ [Value.slice lo VL.length lc])[P.length]'(by simp) = .slice lo VL.length lc := by simp
        rw [e1] at this
        simp only [if_pos] at this
        refine rwc_of this HT.out.symm fun j hj hj' => ?_
        have h9 := hE2.bv.i1.2 (V.length + j) (by simp; omega) trivial
        have e2 : (V ++ VL)[V.length + j]'(by simp; omega) = VL[j] := by rw [List.getElem_append_right (by omega)]; simp
        rw [e2, h3 j hj' (by omega)] at h9
        exact h9.txc
      have HTo := hib (fun wx (hx : LtC (w2.setCell ⟨b, 12, none⟩ v1) wx) => told_any (.slice lo VL.length lc) T wx (hrw.later hx) HTs.out.1 HTs.out.2.1 HTs.out.2.2)
      have HF := hib (show ∀ wx col7 t5 t6 w7, LtC (w2.setCell ⟨b, 12, none⟩ v1) wx → (∀ g, g < wx.heap.size → col7 g = col2 g) → FrR col2 b wx w7 → BkE col7 w7 B b t1 t2 t5 t6 (V ++ VL) V1 (P ++ [.slice lo VL.length lc]) X1 (fun j => if j = P.length then VL else Q j) (T0 ++ [tld T]) → RowsA col w B b V VL P (.slice lo VL.length lc) (.returned (.tuple #[])) w7 from fun wx col7 t5 t6 w7 hx hc7 hf7 h7 => by
        have hzx : wr.heap.size ≤ wx.heap.size := Nat.le_trans hf2.size hx.size
        refine ⟨col7, _, _, _, _, _, _, _, _, _, rfl, rows_done H.out HT.out h2 (fun j hj => h3 j hj (by have := HT.out; omega)) h7 hP HTs.out, fun g hg => ?_, ?_⟩
        · have h8 := hf.size
          rw [hc7 g (by omega), hc2 g (by omega), hc1 g hg]
        · refine (hf.toR.trans hf2 hc1).trans ((FrR.of_below hx).trans hf7 (fun _ _ => rfl)) (fun g hg => ?_)
          have h8 := hf.size
          rw [hc2 g (by omega), hc1 g hg])
      have HPT := hib (fun wx (hx : LtC (w2.setCell ⟨b, 12, none⟩ v1) wx) => (hE2.later hx).pushT (Nat.le_trans (by simpa using hB2) hx.size) (by have := H.out.plen; omega) (tld T))
      have c12 := hE.bv.bb.c12
      have f12 := hbb2.fr 12
      have d12 := hbb2.c12
      have KK := hib (show ∀ wx, LtC (w2.setCell ⟨b, 12, none⟩ v1) wx → wx.cell? ⟨b, 13, none⟩ = some rv0 from fun wx hx => belC hx hE2.bv.bb.c13)
      obtain ⟨so, sc, hsv⟩ := H.out.p0.sl
      obtain ⟨ro, rc, hrv⟩ := H.out.r1.1.sl
      rw [apR3_op] at hap1
      obtain ⟨w3, hw3⟩ : ∃ w3, w2.setCell ⟨b, 12, none⟩ v1 = w3 := ⟨_, rfl⟩
      rw [hw3] at HTo HF HPT KK
      have K0 := LtC.refl w3
      have K1 := LtC.drew w3
      have HW3 := hib hw3
      subst hsv hrv hv1
      clear hb h2 h3 hc1 hf hE ol hbb2 hE2 hc2 hf2 hrw HJ hin hw3 HI
      go_wp2_with fail
      rw [HW3.out]
      have KA := hib (show ∀ wx, LtC w3 wx → ∀ o : Obj, (wx.alloc o).cell? ⟨b, 13, none⟩ = some (.slice so T0.length sc) from fun wx hx o => KK.out _ (LtC.step hx (ltc_alloc wx o)))
      have k0 := KK.out _ K0
      have k1 := KK.out _ K1
      go_region_law (first | (with_reducible change (if Region.wanted { dst := some 33, op := _, type := _, pos := _, after := _, guard := _ } _ = true then _ else _); go_simp; go_wp2_with (go_at_call 34; refine (HTo.out _ (by assumption)).mono ?_; rintro e w5 ⟨rfl, s5⟩; have K5 := LtC.step (by assumption) s5; have k5 := KK.out _ K5; have k5a := KA.out _ K5; obtain ⟨v6, w6, col6, hap6, ⟨n6, o6, c6, hv6⟩, hbb6, hE6, hc6, hf6⟩ := HPT.out _ K5; have HR := hib (HF.out _ _ _ _ _ K5 hc6 hf6 hE6); have d6 := hbb6.c13; have f6 := hbb6.fr 13; subst hv6; clear s5 hbb6 hE6 hc6 hf6)) | refine step_appC rfl (.tmp 31) (.tmp 34) rfl (by rfl) (by rfl) hap6 ?_)
      all_goals go_wp2
      all_goals go_end0
      all_goals exact HR.out
end Go.Proofs.YtpgpeafmlijfkaaGreatDoor

namespace Go.Proofs.YtpgpeafmlijfkaaGreatDoor
open Go.RowKit

/-- the marks behind what is lent -/
def marks : List UInt8 := [208, 209, 210, 211, 212, 213, 214, 215, 216]

theorem marks_len : marks.length = 9 := rfl

theorem marks_at (k : Nat) (h : k < marks.length) : (marks[k]'h).toNat = 208 + k := by
  have : ∀ k : Fin 9, (marks[k.1]'k.2).toNat = 208 + k.1 := by decide
  exact this ⟨k, h⟩

theorem mark_cell {w : World} {b : Nat} {l : List UInt8} (hc : ∀ j (hj : j < (l ++ marks).length), w.cell? ⟨b, j, none⟩ = some (.int .u8 ((l ++ marks)[j].toNat : Int))) (k : Nat) (h : k < 9) :
    w.cell? ⟨b, l.length + k, none⟩ = some (.int .u8 (208 + (k : Int))) := by
  have hk : l.length + k < (l ++ marks).length := by rw [List.length_append, marks_len]; omega
  have e : ((l ++ marks)[l.length + k]'hk).toNat = 208 + k := by
    rw [List.getElem_append_right (by omega), marks_at]
    omega
  rw [hc (l.length + k) hk, e]
  rfl

/-- v is lent: it reads as l, and the marks lie behind it -/
def Lent (w : World) (v : Value) (l : List UInt8) : Prop :=
  ∃ b cap, v = .slice (some ⟨b, 0, none⟩) l.length cap ∧ l.length + 9 ≤ cap ∧ cap ≤ maxLen ∧ ∀ j (hj : j < (l ++ marks).length), w.cell? ⟨b, j, none⟩ = some (.int .u8 ((l ++ marks)[j].toNat : Int))

theorem Lent.reads {w : World} {v : Value} {l : List UInt8} (h : Lent w v l) : Reads w v l := by
  obtain ⟨b, cap, rfl, h1, _, hc⟩ := h
  refine .inr ⟨b, 0, cap, rfl, by omega, fun j hj => ?_⟩
  have := hc j (by simp; omega)
  rw [List.getElem_append_left hj] at this
  rw [Nat.zero_add]
  exact this

theorem Lent.below {w w' : World} {v : Value} {l : List UInt8} (h : Lent w v l) (hb : Below w.heap.size w w') : Lent w' v l := by
  obtain ⟨b, cap, hv, h1, h2, hc⟩ := h
  exact ⟨b, cap, hv, h1, h2, fun j hj => below_cells hb _ _ (hc j hj)⟩

set_option maxRecDepth 100000 in
set_option maxHeartbeats 400000 in
theorem lent_any (v : Value) (l : List UInt8) (w : World) (hr : Reads w v l) (hl : l.length + 9 ≤ 140737488355328) :
    Calls Tryz.prog 12 #[v] w fun e w' => ∃ v', e = .returned v' ∧ Lent w' v' l ∧ Below w.heap.size w w' := by
  obtain ⟨ao, cap, rfl⟩ := hr.form
  go_enter Tryz.func12, Tryz.ntmps12
  go_wp2_with (at_builtin; refine wpList_app rfl (.tmp 5) (.tmp 6) 37 rfl Tryz.underlying37 u8info w.heap.size _ [] rfl (Owns.nil _ _) _ l rfl hr (by simp; omega) (Nat.le_refl _) ?hnext)
  case hnext =>
    intro v1 w1 ho1 hg1
    have hb1 := (Below.refl w.heap.size w).grown hg1 (Nat.le_refl _) (by intro k hk; cases hk)
    clear hr hg1
    go_wp2
    go_loopw [3, 4] (fun v i wr => ∃ k : Nat, k ≤ 9 ∧ i = .int .i64 k ∧ Owns wr w.heap.size v (l ++ marks.take k) ∧ Below w.heap.size w wr) (fun _ i _ => 9 - (intOf i).toNat)
    case atStart => exact ⟨0, by omega, rfl, by simpa using ho1, hb1⟩
    case round =>
      obtain ⟨k, hk, rfl, ho, hbl⟩ := hrel
      have hz := hbl.size
      clear ho1 hb1
      by_cases h : k < 9
      · have hlen : (marks.take k).length = k := by simp [marks]; omega
        go_wp2_with (at_builtin; refine wpList_app rfl (.tmp 12) (.tmp 16) 37 rfl Tryz.underlying37 u8info w.heap.size _ (l ++ marks.take k) rfl (ho.alloc _) _ [marks[k]'h] rfl (reads_one _ _ _ ?hx) ?hlen ?hbase ?hnext2)
        case hx => rw [marks_at k h]; omega
        case hlen => simp [hlen]; omega
        case hbase => simp; omega
        case hnext2 =>
          intro v2 w2 ho2 hg2
          go_wp2
          go_roundw
          case rel =>
            refine ⟨k + 1, by omega, by go_num, ?_, (hbl.alloc (by omega) _).grown hg2 (by simp; omega) ho.block_ge⟩
            rw [List.take_succ_eq_append_getElem h]
            exact ho2
          case measure => simp [intOf]; omega
      · have e9 : k = 9 := by omega
        subst e9
        have hm : marks.take 9 = marks := rfl
        rw [hm] at ho
        obtain ⟨g, cap', hv, hc1, hc2, hcell⟩ := ho.form (by simp [marks])
        have hml : (l ++ marks).length = l.length + 9 := by simp [marks]
        rw [hml] at hv hc1
        subst hv
        have HC : Hid (_) := hcell
        have HM : Hid (_) := hc2
        clear hcell hc2 ho hm
        go_wp2
        go_ret
        refine ⟨_, rfl, ⟨g, cap', ?_, hc1, HM.out, HC.out⟩, hbl⟩
        rfl

set_option maxRecDepth 100000 in
set_option maxHeartbeats 800000 in
theorem kept_any (v p : Value) (l : List UInt8) (w : World) (hv : Lent w v l) (hp : Reads w p l) (hl : l.length + 9 ≤ 140737488355328) :
    Calls Tryz.prog 15 #[v, p] w fun e w' => e = .returned (.bool true) ∧ w' = w := by
  have t1 := run_text (P := Tryz.prog) 37 9 Tryz.underlying37 Tryz.underlying5 Tryz.underlying9 hv.reads
  have t2 := run_text (P := Tryz.prog) 37 9 Tryz.underlying37 Tryz.underlying5 Tryz.underlying9 hp
  obtain ⟨ao, cap, rfl⟩ := hp.form
  obtain ⟨b, cap', rfl, hc1, hc2, hcell⟩ := hv
  have HC : Hid (_) := hcell
  clear hcell hp hc2
  go_enter Tryz.func15, Tryz.ntmps15
  go_wp2
  clear t1 t2
  go_loop [6] (fun i => ∃ k : Nat, k ≤ 9 ∧ i = .int .i64 k) (fun i => 9 - (intOf i).toNat)
  case atStart => exact ⟨0, by omega, rfl⟩
  case round =>
    obtain ⟨k, hk, rfl⟩ := hrel
    by_cases h : k < 9
    · have hc := mark_cell HC.out k h
      go_wp2
      go_round
      case rel => exact ⟨k + 1, by omega, by go_num⟩
      case measure => simp [intOf]; omega
    · go_wp2
      go_ret
      exact ⟨rfl, rfl⟩
end Go.Proofs.YtpgpeafmlijfkaaGreatDoor
