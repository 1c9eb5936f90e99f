/-
  Sheets: the errors of reading, as package-level variables hold them.
-/
import Derived.Test.YtpgpeafmlijfkaaGreatDoorSf1
import Derived.Stop.LaidErr
namespace Go.Proofs.YtpgpeafmlijfkaaGreatDoor
open Go.RowKit Go.ChangeShapes
set_option maxRecDepth 100000
set_option linter.unusedVariables false

theorem laid_one {P : Program} {n nm : String} {text : List UInt8} {r : List (String × DataW Unit)} {W : World} {g : Nat} {ti tp te ts : TypeId} {ms : Array (String × TypeId)} {f : Field}
    (h : laidMet P ((n, .iface nm (.ptr (.agg [.lit (.string text)]))) :: r) W)
    (hg : P.globalNamed n = some g) (ht : (P.globals[g]?).map (·.type) = some ti) (hi : P.underlying ti = some (.interface ms)) (hrow : ∀ u, P.typeName? 3 u = some nm → u = tp)
    (hp : P.underlying tp = some (.pointer te)) (he : P.underlying te = some (.struct #[f])) (hft : f.type = ts) (hfo : f.offset = 0) (hs : P.underlying ts = some .string) (hc : P.cellsOf te = 1) (hcs : P.cellsOf ts = 1) :
    ∃ (a : Addr) (s : ByteArray) (c : Array Value) (t : TypeId), W.cell? ⟨g, 0, none⟩ = some (.iface tp (.pointer (some a))) ∧ W.cell? a = some (.string s) ∧ s.data.toList = text ∧ W.heap[a.block]? = some (.cells c t (0, 0)) := by
  obtain ⟨ps, ⟨g0, t0, cs0, f0, p0, q0, hg0, ht0, hv0, hd0, _, e0⟩, _, hrows⟩ := h
  obtain rfl := Option.some.inj (hg.symm.trans hg0)
  obtain rfl := Option.some.inj (ht.symm.trans ht0)
  subst e0
  obtain ⟨l0⟩ := cs0
  have ok0 : ∀ u v, l0 = [.iface u v] → Value.okWide P W .any 0 u v := fun u v e => by
    subst e
    exact (hrows g 0 (by simp [MemPlace.row])).2 u v (by simpa using World.var?_cell hg0 hv0 0)
  obtain ⟨a0, s0, rfl, hc0, hs0, hz0, rfl⟩ := errorString_of_trod hi hrow hp he hft hfo hs hc hcs hd0 ok0
  obtain ⟨c0, t0, hb0⟩ := (hrows a0.block a0.off (by simp [MemPlace.row])).1
  exact ⟨a0, s0, c0, t0, by simpa using World.var?_cell hg0 hv0 0, hc0, hs0, hb0⟩

theorem starE : "*" ++ "errors.errorString" = "*errors.errorString" := by decide
theorem rowE (u : TypeId) (h : Tryz.prog.typeName? 3 u = some "*errors.errorString") : u = 208 :=
  typeName_ptr_named (nm := "errors.errorString") (by rw [starE]; kernel_rfl) (by kernel_rfl) (by decide) u (by rw [starE]; exact h)

/-- variable g holds an error of errors.New's make with this text, at a -/
def SE (w : World) (g : Nat) (a : Addr) (l : List UInt8) : Prop :=
  w.cell? ⟨g, 0, none⟩ = some (.iface 208 (.pointer (some a))) ∧ (∃ s : ByteArray, w.cell? a = some (.string s) ∧ s.data.toList = l) ∧ ∃ c t, w.heap[a.block]? = some (.cells c t (0, 0))

theorem sent_of {n : String} {text : List UInt8} {r : List (String × DataW Unit)} {W : World} {g : Nat} (h : laidMet Tryz.prog ((n, .iface "*errors.errorString" (.ptr (.agg [.lit (.string text)]))) :: r) W)
    (hg : Tryz.prog.globalNamed n = some g) (ht : (Tryz.prog.globals[g]?).map (·.type) = some 41) : ∃ a, SE W g a text := by
  obtain ⟨a, s, c, t, h1, h2, h3, h4⟩ := laid_one h hg ht Tryz.underlying41 rowE Tryz.underlying208 Tryz.underlying226 rfl rfl Tryz.underlying9 (by kernel_rfl) (by kernel_rfl)
  exact ⟨a, h1, ⟨s, h2, h3⟩, c, t, h4⟩

theorem SE.below {w w' : World} {g : Nat} {a : Addr} {l : List UInt8} (h : SE w g a l) (hb : Below w.heap.size w w') : SE w' g a l := by
  obtain ⟨h1, ⟨s, h2, h3⟩, c, t, h4⟩ := h
  exact ⟨(hb.cell (p := ⟨g, 0, none⟩) (World.block_lt_of_cell? _ _ h1)).trans h1, ⟨s, (hb.cell (p := a) (World.block_lt_of_cell? _ _ h2)).trans h2, h3⟩, c, t, (hb.block _ (Array.getElem?_eq_some_iff.1 h4).1).trans h4⟩
theorem SE.ne {w : World} {g g' : Nat} {a a' : Addr} {l l' : List UInt8} (h : SE w g a l) (h' : SE w g' a' l') (hl : l ≠ l') : a ≠ a' := by
  rintro rfl
  obtain ⟨_, ⟨s, h2, h3⟩, _⟩ := h
  obtain ⟨_, ⟨s', h2', h3'⟩, _⟩ := h'
  rw [h2] at h2'
  have : s = s' := by simpa using h2'
  subst this
  exact hl (h3.symm.trans h3')

/-- the variable of a fault's code, its text -/
def gSh (c : Nat) : Nat := if c = 1 then 2 else if c = 2 then 6 else if c = 3 then 1 else if c = 4 then 7 else if c = 5 then 8 else if c = 6 then 9 else if c = 7 then 10 else if c = 8 then 3 else if c = 9 then 4 else 0
def tSh (c : Nat) : List UInt8 := if c = 1 then [97, 32, 113, 117, 111, 116, 101, 100, 32, 99, 101, 108, 108, 32, 105, 115, 32, 110, 111, 116, 32, 99, 108, 111, 115, 101, 100] else if c = 2 then [97, 32, 113, 117, 111, 116, 101, 32, 109, 97, 121, 32, 110, 111, 116, 32, 115, 116, 97, 110, 100, 32, 104, 101, 114, 101] else if c = 3 then [97, 32, 108, 105, 110, 101, 32, 109, 97, 121, 32, 110, 111, 116, 32, 101, 110, 100, 32, 115, 111] else if c = 4 then [116, 104, 105, 115, 32, 98, 121, 116, 101, 32, 109, 97, 121, 32, 110, 111, 116, 32, 115, 116, 97, 110, 100, 32, 104, 101, 114, 101] else if c = 5 then [116, 104, 101, 32, 99, 101, 108, 108, 32, 105, 115, 32, 116, 111, 111, 32, 108, 111, 110, 103] else if c = 6 then [116, 111, 111, 32, 109, 97, 110, 121, 32, 99, 101, 108, 108, 115] else if c = 7 then [116, 111, 111, 32, 109, 97, 110, 121, 32, 114, 111, 119, 115] else if c = 8 then [110, 111, 116, 32, 97, 115, 32, 109, 97, 110, 121, 32, 99, 101, 108, 108, 115, 32, 97, 115, 32, 116, 104, 101, 32, 102, 105, 114, 115, 116, 32, 114, 111, 119, 32, 104, 97, 115] else if c = 9 then [116, 104, 101, 32, 114, 101, 97, 100, 101, 114, 32, 104, 97, 115, 32, 101, 110, 100, 101, 100] else [116, 104, 101, 32, 116, 101, 120, 116, 32, 105, 115, 32, 116, 111, 111, 32, 108, 111, 110, 103]
theorem cod_cases {c : Nat} (h : Cod c) : c = 1 ∨ c = 2 ∨ c = 3 ∨ c = 4 ∨ c = 5 ∨ c = 6 ∨ c = 7 ∨ c = 8 ∨ c = 9 ∨ c = 20 := by unfold Cod at h; omega
theorem tSh_ne {c d : Nat} (hc : Cod c) (hd : Cod d) (hne : c ≠ d) : tSh c ≠ tSh d := by
  rcases cod_cases hc with rfl | rfl | rfl | rfl | rfl | rfl | rfl | rfl | rfl | rfl <;> rcases cod_cases hd with rfl | rfl | rfl | rfl | rfl | rfl | rfl | rfl | rfl | rfl <;> first | exact absurd rfl hne | decide
theorem apt_of {A : Nat → Addr} {w : World} (h : ∀ c, Cod c → SE w (gSh c) (A c) (tSh c)) : Apt A w :=
  ⟨fun c d hc hd e => Decidable.byContradiction fun hne => (h c hc).ne (h d hd) (tSh_ne hc hd hne) e, fun c hc => by obtain ⟨_, _, x, t, hl⟩ := h c hc; exact ⟨x, t, hl⟩⟩
theorem he_of {A : Nat → Addr} {w : World} (h : ∀ c, Cod c → SE w (gSh c) (A c) (tSh c)) : HE A w :=
  ⟨(h 1 (by unfold Cod; omega)).1, (h 2 (by unfold Cod; omega)).1, (h 3 (by unfold Cod; omega)).1, (h 4 (by unfold Cod; omega)).1, (h 5 (by unfold Cod; omega)).1, (h 6 (by unfold Cod; omega)).1, (h 7 (by unfold Cod; omega)).1, (h 8 (by unfold Cod; omega)).1, (h 9 (by unfold Cod; omega)).1, (h 20 (by unfold Cod; omega)).1⟩
end Go.Proofs.YtpgpeafmlijfkaaGreatDoor
