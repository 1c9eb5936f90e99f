/-
  The document's own Parse: the Ai ahead.
-/
import Derived.Test.YtjmpkogjilefnaaDoorRefA
import Derived.Test.YtjmpkogjilefnaaDoorPse
import Derived.Test.YtjmpkogjilefnaaDoorRefB
import Derived.Test.YtjmpkogjilefnaaDoorIsDay
import Derived.Test.YtjmpkogjilefnaaDoorFits
namespace Go.Proofs.YtjmpkogjilefnaaDoor
open Go.RowKit
set_option maxRecDepth 100000

/-- the Ais in a block -/
def RS (w : World) (g : Nat) : Prop := ∀ j (hj : j < AL.length), w.cell? ⟨g, j, none⟩ = some (.string ⟨AL[j].toArray⟩)
theorem RS.later {w w' : World} {g : Nat} (h : RS w g) (hb : Below w.heap.size w w') : RS w' g := fun j hj => below_cells hb _ _ (h j hj)
set_option maxHeartbeats 1000000 in
theorem all_any (w : World) : Calls Tryd.prog 31 #[] w fun e w' => (∃ g, e = .returned (.slice (some ⟨g, 0, none⟩) 39 39) ∧ RS w' g) ∧ Below w.heap.size w w' := by
  go_enter Tryd.func31, Tryd.ntmps31
  go_wp2
  go_ret
  refine ⟨⟨w.heap.size, rfl, fun j hj => ?_⟩, (Below.refl _ _).alloc (Nat.le_refl _) _⟩
  rw [Lib.cell_of_heap (heap_alloc_new _ _)]
  have e : ∀ n : Fin 39, ((AL.map fun a => Value.string ⟨a.toArray⟩).toArray)[n.val]? = some (.string ⟨(AL[n.val]'n.isLt).toArray⟩) := fun n => by
    simp
    exact List.getElem?_eq_getElem n.isLt
  exact e ⟨j, hj⟩
/-- what the seeking loop has found -/
def AiR (R : List UInt8) (j : Nat) (l : List UInt8) : Prop := (l = [] ∧ ∀ i (hi : i < AL.length), i < j → AL[i].isPrefixOf R = false) ∨ (l ∈ AL ∧ l.isPrefixOf R = true)
def shB (R : List UInt8) (j : Nat) : Bool := (AL.take j).any (fun a => decide (R.length < a.length) && R.isPrefixOf a)
theorem shB_step (R : List UInt8) (j : Nat) (h : j < AL.length) : shB R (j + 1) = (shB R j || (decide (R.length < AL[j].length) && R.isPrefixOf AL[j])) := by
  unfold shB
  rw [List.take_succ_eq_append_getElem h, List.any_append]
  simp
theorem rk_is (k : Int) (h0 : 0 ≤ k) (h1 : k ≤ 12) : ∃ am, rkOf k = rk (plK k) (decide (k ≤ 8)) (loK k) (hiK k) (decide (k ≤ 2)) (decide (k = 3)) am := by
  have hk : k = 0 ∨ k = 1 ∨ k = 2 ∨ k = 3 ∨ k = 4 ∨ k = 5 ∨ k = 6 ∨ k = 7 ∨ k = 8 ∨ k = 9 ∨ k = 10 ∨ k = 11 ∨ k = 12 := by omega
  rcases hk with rfl | rfl | rfl | rfl | rfl | rfl | rfl | rfl | rfl | rfl | rfl | rfl | rfl <;> exact ⟨_, rfl⟩
theorem AL_le : ∀ a ∈ AL, 2 ≤ a.length ∧ a.length ≤ 4 := by decide +kernel
end Go.Proofs.YtjmpkogjilefnaaDoor
