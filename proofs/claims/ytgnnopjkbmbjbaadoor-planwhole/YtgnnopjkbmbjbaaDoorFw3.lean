/-
  plan: four complex numbers kept whole (Fq5's, where the document's pairs are not there).
-/
import Derived.Test.YtgnnopjkbmbjbaaDoorFq2
import Derived.Test.YtgnnopjkbmbjbaaDoorFs3
import Derived.Test.YtgnnopjkbmbjbaaDoorFs4
import Derived.Test.YtgnnopjkbmbjbaaDoorFw2
import Derived.Test.YtgnnopjkbmbjbaaDoorPq8
namespace Go.Proofs.YtgnnopjkbmbjbaaDoor
open Go.RowKit
set_option maxRecDepth 100000
set_option linter.unusedSimpArgs false

def cpLd (a : Addr) : Sem Value := loadVar 30 a
theorem cpLd_op (a : Addr) : loadVar 30 a = cpLd a := rfl
def cpSt (a : Addr) (v : Value) : Sem Unit := storeVar 30 a v
theorem cpSt_op (a : Addr) (v : Value) : storeVar 30 a v = cpSt a v := rfl
theorem cpsize : (Tryd.prog.info? 30).map (·.size) = some 4 := by kernel_rfl
/-- four complex numbers in a block -/
def CB (w : World) (b : Nat) (f : Nat → Nat × Nat) : Prop := w.heap[b]? = some (.cells (pA f 4) 30 (0, 0))
theorem CB.later {w w' : World} {b : Nat} {f : Nat → Nat × Nat} (h : CB w b f) (hb : Below w.heap.size w w') : CB w' b f := (hb.block b (Array.getElem?_eq_some_iff.1 h).1).trans h
theorem CB.keep {w w' : World} {b : Nat} {f : Nat → Nat × Nat} {row : Option Nat} (h : CB w b f) (hg : w.grownBy w' row) (hr : row ≠ some b) : CB w' b f := (hg.block b (Array.getElem?_eq_some_iff.1 h).1 (fun e => hr e.symm)).trans h
theorem CB.lt {w : World} {b : Nat} {f : Nat → Nat × Nat} (h : CB w b f) : b < w.heap.size := (Array.getElem?_eq_some_iff.1 h).1
theorem CB.new (w : World) : CB (w.alloc (.cells #[.complex .f64 0 0, .complex .f64 0 0, .complex .f64 0 0, .complex .f64 0 0] 30)) w.heap.size (fun _ => (0, 0)) := heap_alloc_new w _
theorem CB.load {w : World} {b : Nat} {f : Nat → Nat × Nat} (h : CB w b f) : (cpLd ⟨b, 0, none⟩).run Tryd.prog w = .ok (cp4 f) w :=
  run_loadVar_row _ _ _ _ (pA f 4) (0, 0) _ h Tryd.underlying30 rfl cpsize
theorem CB.store {w : World} {b : Nat} {f : Nat → Nat × Nat} (h : CB w b f) (g : Nat → Nat × Nat) : ∃ W, (cpSt ⟨b, 0, none⟩ (cp4 g)).run Tryd.prog w = .ok () W ∧ CB W b g ∧ w.grownBy W (some b) := by
  refine ⟨w.setRow b (pA g 4), run_storeVar_row w b _ _ (pA f 4) (pA g 4) h cpsize rfl (by simp [pA]; simp [Value.oneCell']), ?_, ⟨rfl, rfl, rfl, by simp [World.setRow], fun k _ hk => ?_⟩⟩
  · show (w.setRow b (pA g 4)).heap[b]? = _
    have h' : w.heap[b]? = some (.cells (pA f 4) 30 (0, 0)) := h
    simp [World.setRow, Array.getElem?_modify, h']
  · have : b ≠ k := fun e => hk (by rw [e])
    simp [World.setRow, Array.getElem?_modify, this]
theorem NN.nan {b c : Nat} (h : NN b c) : nanB b = false := by
  obtain ⟨s, v, hv, _⟩ := h
  exact hv.nan
def I64 (n : Int) : Prop := -9223372036854775808 ≤ n ∧ n ≤ 9223372036854775807
end Go.Proofs.YtgnnopjkbmbjbaaDoor
