/-
  Rounds: its closure and what it goes over; the closure that goes over nothing.
-/
import Derived.RangeFuncNested
import Derived.RangeFuncBound
import Derived.RangeFuncCalls
import Derived.RangeFuncLeaves
import Derived.Shelf.Abstract
import Derived.Shelf.RegionOpen
import Derived.OwnWalkIn
import Derived.TacticsInMore
import Derived.LoopNIn
import Derived.LoopIn
import Derived.Laws.EntriesVeiled
import Derived.Deep.RegionHeld
import Derived.Test.YtaiccmbhdgecgaaSc1
namespace Go.Proofs.Ytaiccmbhdgecgaa
open Go.RowKit Go.Shelf
set_option maxRecDepth 100000
attribute [local go_sem] Oper.semAt_some

theorem alloc_below (w : World) (o : Obj) : Below w.heap.size w (w.alloc o) := (Below.refl _ _).alloc (Nat.le_refl _) _
/-- a number lies in block b -/
def IBox (w : World) (b : Nat) (v : Int) : Prop := w.heap[b]? = some (.cells #[.int .i64 v] 3 (0, 0))
theorem IBox.facts {w : World} {b : Nat} {v : Int} (h : IBox w b v) : w.cell? ⟨b, 0, none⟩ = some (.int .i64 v) ∧ w.frozen? ⟨b, 0, none⟩ = false ∧ b < w.heap.size :=
  ⟨by rw [Lib.cell_of_heap h]; rfl, Lib.frozen_of_heap h 0, (Array.getElem?_eq_some_iff.1 h).1⟩
theorem IBox.later {w w' : World} {b : Nat} {v : Int} (h : IBox w b v) (hb : Below w.heap.size w w') : IBox w' b v := (hb.block b h.facts.2.2).trans h
/-- all blocks ahead of B0 lie as they lay -/
def KpB (B0 : Nat) (A B : World) : Prop := ∀ k : Nat, k < B0 → B.heap[k]? = A.heap[k]?
theorem KpB.refl (B0 : Nat) (A : World) : KpB B0 A A := fun _ _ => rfl
theorem KpB.trans {B0 : Nat} {A B C : World} (h : KpB B0 A B) (k : KpB B0 B C) : KpB B0 A C := fun i hi => (k i hi).trans (h i hi)
theorem KpB.box {B0 g : Nat} {A B : World} {v : Int} (h : KpB B0 A B) (hg : g < B0) (hx : IBox A g v) : IBox B g v := (h g hg).trans hx

/-- the first k picks of Rounds -/
def rdL (n k : Nat) : List Int := (List.range k).map fun i : Nat => (i : Int) % (n : Int)
theorem rdL_succ (n k : Nat) : rdL n (k + 1) = rdL n k ++ [(k : Int) % (n : Int)] := by unfold rdL; rw [List.range_succ, List.map_append]; rfl
theorem rdL_len (n k : Nat) : (rdL n k).length = k := by unfold rdL; simp
theorem rdL_take (n k m : Nat) (h : k ≤ m) : (rdL n m).take k = rdL n k := by
  unfold rdL
  rw [← List.map_take, List.take_range, Nat.min_eq_left h]

end Go.Proofs.Ytaiccmbhdgecgaa
