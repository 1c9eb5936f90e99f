/-
  Worlds behind a world; an element's two texts, boxed; formOf and fault behind a world.
-/
import Derived.Test.YtpplkoilpblpkaaDoorNumber
namespace Go.Proofs.YtpplkoilpblpkaaDoor
open Go.RowKit
set_option maxRecDepth 100000

theorem cell_old' {w w' : World} {p : Addr} {v : Value} (h : w.cell? p = some v) (hb : Below w.heap.size w w') : w'.cell? p = some v :=
  (hb.cell (p := p) (World.block_lt_of_cell? _ _ h)).trans h

/-- a world behind another: nothing old has turned -/
def Later (w w' : World) : Prop := Below w.heap.size w w'

/-- the element's two texts, boxed -/
theorem box_cells (w w1 : World) (a v : ByteArray) (hb : Below (w.alloc (.cells #[.string a, .string v] 36)).heap.size (w.alloc (.cells #[.string a, .string v] 36)) w1) :
    w1.cell? ⟨w.heap.size, 0, none⟩ = some (.string a) ∧ w1.cell? ⟨w.heap.size, 1, none⟩ = some (.string v) ∧ Below w.heap.size w w1 ∧ w.heap.size < w1.heap.size := by
  have h0 : (w.alloc (.cells #[.string a, .string v] 36)).heap.size = w.heap.size + 1 := by simp
  have hz := hb.size
  rw [h0] at hb hz
  refine ⟨?_, ?_, ((Below.refl _ _).alloc (Nat.le_refl _) _).trans (hb.mono (by omega)), by omega⟩
  · rw [hb.cell (p := ⟨w.heap.size, 0, none⟩) (by simp)]; simp
  · rw [hb.cell (p := ⟨w.heap.size, 1, none⟩) (by simp)]; simp

theorem later_cell {w1 : World} {b o : Nat} {u : Value} (h : w1.cell? ⟨b, o, none⟩ = some u) : ∀ wx, Later w1 wx → wx.cell? ⟨b, o, none⟩ = some u := fun _ hb => cell_old' h hb

theorem faultDN_since (k : Int) (least most : Nat) (plain : Bool) (v : ByteArray) (hk : frmOf k = frm least most plain 47 46) (hm : most ≤ 1000) (hv : v.size ≤ 9223372036854775807) (w1 w : World) (h : Later w1 w) :
    Calls Tryd.prog 31 #[frmOf k, .string v] w fun e w' => e = .returned (.int .i64 (fltE least most dF 0 v.data.toList)) ∧ Later w1 w' := by
  rw [hk]
  refine (faultDN least most plain v w hv 0 0 hm (fun _ _ _ w => (noFault_any v w).mono ?_)).mono ?_
  · rintro e w' ⟨rfl, rfl⟩
    exact ⟨rfl, Below.refl _ _⟩
  · rintro e w' ⟨rfl, hb⟩
    exact ⟨rfl, h.trans (hb.mono h.size)⟩

theorem formOf_since (k : Int) (h0 : 0 ≤ k) (h1 : k ≤ 12) (w1 w : World) (h : Later w1 w) :
    Calls Tryd.prog 30 #[.int .i64 k] w fun e w' => e = .returned (frmOf k) ∧ Later w1 w' :=
  (formOf_any k w h0 h1).mono (by rintro e w' ⟨rfl, hb⟩; exact ⟨rfl, h.trans (hb.mono h.size)⟩)
end Go.Proofs.YtpplkoilpblpkaaDoor
