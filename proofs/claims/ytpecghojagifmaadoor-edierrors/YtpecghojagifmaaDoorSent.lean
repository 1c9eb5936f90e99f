/-
  Errors of errors.New's make that package-level variables hold.
-/
import Derived.Test.YtpecghojagifmaaDoorIs
import Derived.Stop.LaidErr
namespace Go.Proofs.YtpecghojagifmaaDoor
open Go.RowKit Go.ChangeShapes
set_option maxRecDepth 100000

theorem laid_one {P : Program} {n nm : String} {text : List UInt8} {r : List (String × DataW Unit)} {W : World} {g : Nat} {ti tp te ts : TypeId} {ms : Array (String × TypeId)} {f : Field}
    (h : laidMet P ((n, .iface nm (.ptr (.agg [.lit (.string text)]))) :: r) W)
    (hg : P.globalNamed n = some g) (ht : (P.globals[g]?).map (·.type) = some ti) (hi : P.underlying ti = some (.interface ms)) (hrow : ∀ u, P.typeName? 3 u = some nm → u = tp)
    (hp : P.underlying tp = some (.pointer te)) (he : P.underlying te = some (.struct #[f])) (hft : f.type = ts) (hfo : f.offset = 0) (hs : P.underlying ts = some .string) (hc : P.cellsOf te = 1) (hcs : P.cellsOf ts = 1) :
    ∃ (a : Addr) (s : ByteArray) (c : Array Value) (t : TypeId), W.cell? ⟨g, 0, none⟩ = some (.iface tp (.pointer (some a))) ∧ W.cell? a = some (.string s) ∧ s.data.toList = text ∧ W.heap[a.block]? = some (.cells c t (0, 0)) := by
  obtain ⟨ps, ⟨g0, t0, cs0, f0, p0, q0, hg0, ht0, hv0, hd0, _, e0⟩, _, hrows⟩ := h
  obtain rfl := Option.some.inj (hg.symm.trans hg0)
  obtain rfl := Option.some.inj (ht.symm.trans ht0)
  subst e0
  obtain ⟨l0⟩ := cs0
  have ok0 : ∀ u v, l0 = [.iface u v] → Value.okWide P W .any 0 u v := fun u v e => by
    subst e
    exact (hrows g 0 (by simp [MemPlace.row])).2 u v (by simpa using World.var?_cell hg0 hv0 0)
  obtain ⟨a0, s0, rfl, hc0, hs0, hz0, rfl⟩ := errorString_of_trod hi hrow hp he hft hfo hs hc hcs hd0 ok0
  obtain ⟨c0, t0, hb0⟩ := (hrows a0.block a0.off (by simp [MemPlace.row])).1
  exact ⟨a0, s0, c0, t0, by simpa using World.var?_cell hg0 hv0 0, hc0, hs0, hb0⟩

theorem starE : "*" ++ "errors.errorString" = "*errors.errorString" := by decide
theorem rowE (u : TypeId) (h : Tryd.prog.typeName? 3 u = some "*errors.errorString") : u = 66 :=
  typeName_ptr_named (nm := "errors.errorString") (by rw [starE]; kernel_rfl) (by kernel_rfl) (by decide) u (by rw [starE]; exact h)

/-- variable g holds an error of errors.New's make with this text, at a -/
def SE (w : World) (g : Nat) (a : Addr) (l : List UInt8) : Prop :=
  w.cell? ⟨g, 0, none⟩ = some (.iface 66 (.pointer (some a))) ∧ (∃ s : ByteArray, w.cell? a = some (.string s) ∧ s.data.toList = l) ∧ ∃ c t, w.heap[a.block]? = some (.cells c t (0, 0))

theorem sent_of {n : String} {text : List UInt8} {r : List (String × DataW Unit)} {W : World} {g : Nat} (h : laidMet Tryd.prog ((n, .iface "*errors.errorString" (.ptr (.agg [.lit (.string text)]))) :: r) W)
    (hg : Tryd.prog.globalNamed n = some g) (ht : (Tryd.prog.globals[g]?).map (·.type) = some 23) : ∃ a, SE W g a text := by
  obtain ⟨a, s, c, t, h1, h2, h3, h4⟩ := laid_one h hg ht Tryd.underlying23 rowE Tryd.underlying66 Tryd.underlying90 rfl rfl Tryd.underlying9 (by kernel_rfl) (by kernel_rfl)
  exact ⟨a, h1, ⟨s, h2, h3⟩, c, t, h4⟩

theorem SE.below {w w' : World} {g : Nat} {a : Addr} {l : List UInt8} (h : SE w g a l) (hb : Below w.heap.size w w') : SE w' g a l := by
  obtain ⟨h1, ⟨s, h2, h3⟩, c, t, h4⟩ := h
  exact ⟨(hb.cell (p := ⟨g, 0, none⟩) (World.block_lt_of_cell? _ _ h1)).trans h1, ⟨s, (hb.cell (p := a) (World.block_lt_of_cell? _ _ h2)).trans h2, h3⟩, c, t, (hb.block _ (Array.getElem?_eq_some_iff.1 h4).1).trans h4⟩
theorem SE.ne {w : World} {g g' : Nat} {a a' : Addr} {l l' : List UInt8} (h : SE w g a l) (h' : SE w g' a' l') (hl : l ≠ l') : a ≠ a' := by
  rintro rfl
  obtain ⟨_, ⟨s, h2, h3⟩, _⟩ := h
  obtain ⟨_, ⟨s', h2', h3'⟩, _⟩ := h'
  rw [h2] at h2'
  have : s = s' := by simpa using h2'
  subst this
  exact hl (h3.symm.trans h3')
theorem isS_same {w : World} {g : Nat} {a : Addr} {l : List UInt8} (_ : SE w g a l) :
    Calls Tryd.prog 5 #[.iface 66 (.pointer (some a)), .iface 66 (.pointer (some a))] w fun e w' => e = .returned (.bool true) ∧ w' = w := is_same a w
theorem isS_other {w : World} {g g' : Nat} {a a' : Addr} {l l' : List UInt8} (h : SE w g a l) (h' : SE w g' a' l') (hl : l ≠ l') :
    Calls Tryd.prog 5 #[.iface 66 (.pointer (some a)), .iface 66 (.pointer (some a'))] w fun e w' => e = .returned (.bool false) ∧ w' = w := by
  have hne := h.ne h' hl
  obtain ⟨_, _, c, t, h4⟩ := h
  obtain ⟨_, _, c', t', h4'⟩ := h'
  exact is_other a a' c c' t t' w hne h4 h4'
end Go.Proofs.YtpecghojagifmaaDoor
