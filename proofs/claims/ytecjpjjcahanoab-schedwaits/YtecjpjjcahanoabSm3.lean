/-
  The document's Block of Mixed.
-/
import Derived.Test.YtecjpjjcahanoabSm1
import Derived.Test.YtecjpjjcahanoabRg
namespace Go.Proofs.Ytecjpjjcahanoab
open Go.RowKit Go.Shelf
set_option maxRecDepth 100000

theorem Chg.set1 {b i : Nat} (A : World) (v : Value) : Chg b 1 A (A.setCell ⟨b, i, none⟩ v) :=
  ⟨rfl, rfl, rfl, by simp, fun k _ hk => heap_setCell_other A ⟨b, i, none⟩ k v (fun e => hk (by simp at e; omega))⟩
theorem OI.other {w : World} {base : Nat} {v : Value} {R : List Int} (h : OI w base v R) (p : Addr) (u : Value) (hp : p.block < base) : OI (w.setCell p u) base v R := by
  refine World.ownsRow.kept h (row := some p.block) ⟨rfl, rfl, rfl, by simp, fun k _ hk => heap_setCell_other w p k u (fun e => hk (by rw [e]))⟩ (.inr fun e => ?_)
  have := h.block_ge p.block e
  omega
theorem grown_chg {b : Nat} {w A A' : World} {r : Option Nat} (hc : Chg b 1 w A) (hg : A.grownBy A' r) (hr : ∀ k, r = some k → w.heap.size ≤ k) : Chg b 1 w A' :=
  ⟨hg.os.trans hc.os, hg.tape.trans hc.tape, hg.output.trans hc.output, Nat.le_trans hc.size hg.size, fun k hk hn =>
    (hg.block k (by have := hc.size; omega) (fun e => by have := hr k e.symm; omega)).trans (hc.block k hk hn)⟩
theorem UBox.grown {t : TypeId} {A A' : World} {b : Nat} {v : Int} {r : Option Nat} (h : UBox t A b v) (hg : A.grownBy A' r) (hr : ∀ k, r = some k → b ≠ k) : UBox t A' b v :=
  (hg.block b h.facts.2.2 (fun e => hr b e.symm rfl)).trans h

end Go.Proofs.Ytecjpjjcahanoab
