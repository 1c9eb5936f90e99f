/-
  stock: blocks that hold, a new ledger.
-/
import Derived.Test.YtdodockemkmmpaaGreatNw7
import Derived.Carry
namespace Go.Proofs.YtdodockemkmmpaaGreat
open Go.RowKit
set_option maxRecDepth 100000

/-- nothing older than w has turned -/
def LtB (w w' : World) : Prop := Below w.heap.size w w'
theorem LtB.step {w w1 w2 : World} (h : LtB w w1) (k : Below w1.heap.size w1 w2) : LtB w w2 := Below.trans h (k.mono (Below.size h))
theorem LtB.drew {w w1 : World} (h : LtB w w1) : LtB w w1.drew := Below.drew h
theorem LtB.alloc {w w1 : World} (h : LtB w w1) (o : Obj) : LtB w (w1.alloc o) := Below.alloc h (Below.size h) o
/-- block g holds o -/
def Hb (w : World) (g : Nat) (o : Obj) : Prop := w.heap[g]? = some o
theorem Hb.new (w : World) (o : Obj) : Hb (w.alloc o) w.heap.size o := heap_alloc_new w o
theorem Hb.new' (w : World) (o : Obj) {g : Nat} (h : g = w.heap.size) : Hb (w.alloc o) g o := by subst h; exact heap_alloc_new w o
theorem Hb.later {w w' : World} {g : Nat} {o : Obj} (h : Hb w g o) (b : Below w.heap.size w w') : Hb w' g o := (b.block g (Array.getElem?_eq_some_iff.1 h).1).trans h
theorem Hb.alloc {w : World} {g : Nat} {o : Obj} (h : Hb w g o) (x : Obj) : Hb (w.alloc x) g o := h.later ((Below.refl _ _).alloc (Nat.le_refl _) _)
theorem Hb.drew {w : World} {g : Nat} {o : Obj} (h : Hb w g o) : Hb w.drew g o := h
/-- a ledger as New makes it, in block l; it weighs n -/
def LD0 (w : World) (l : Nat) (room n : Int) (L : List Lv) : Prop := ∃ g m1 wh m2, Hb w l (.cells #[.int .i64 room, .int .i64 0, .int .i64 n, .slice (some ⟨g, 0, none⟩) L.length L.length, .map (some m1), .pointer (some ⟨wh, 0, none⟩), .map (some m2)] 71 (0, 0)) ∧ Hb w g (.cells (vc L).toArray 46 (0, 0)) ∧ Hb w m1 (.map #[] 0) ∧ Hb w wh (.cells (whR 0 noR (.map none)) 99 (0, 0)) ∧ Hb w m2 (.map #[] 0)
end Go.Proofs.YtdodockemkmmpaaGreat
