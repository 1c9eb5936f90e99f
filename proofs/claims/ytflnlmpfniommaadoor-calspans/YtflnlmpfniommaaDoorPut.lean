/-
  The document's own put.
-/
import Derived.Test.YtflnlmpfniommaaDoorSpr
namespace Go.Proofs.YtflnlmpfniommaaDoor
open Go.RowKit
set_option maxRecDepth 100000

set_option maxHeartbeats 1000000 in
theorem put_1 (a0 a1 a2 a3 a4 a5 a6 n : Int) (w : World) :
    Calls Tryd.prog 27 #[.agg #[.int .i64 a0, .int .i64 a1, .int .i64 a2, .int .i64 a3, .int .i64 a4, .int .i64 a5, .int .i64 a6], .int .i64 1, .int .i64 n] w fun e w' => e = .returned (lV [n, a1, a2, a3, a4, a5, a6]) ∧ Below w.heap.size w w' := by
  go_enter Tryd.func27, Tryd.ntmps27
  go_wp2
  refine bodyPost_ret (by simp [results, Tryd.results27, go_sem]; try rfl) rfl ?_
  exact ⟨rfl, by
    have hB : ∀ o o' : Obj, Below w.heap.size w ((w.alloc o).alloc o') := fun o o' => ((Below.refl _ _).alloc (Nat.le_refl _) _).alloc (by simp) _
    first | exact hB _ _ | exact (hB _ _).setCell (Nat.le_refl _) _⟩

set_option maxHeartbeats 1000000 in
theorem put_2 (a0 a1 a2 a3 a4 a5 a6 n : Int) (w : World) :
    Calls Tryd.prog 27 #[.agg #[.int .i64 a0, .int .i64 a1, .int .i64 a2, .int .i64 a3, .int .i64 a4, .int .i64 a5, .int .i64 a6], .int .i64 2, .int .i64 n] w fun e w' => e = .returned (lV [a0, n, a2, a3, a4, a5, a6]) ∧ Below w.heap.size w w' := by
  go_enter Tryd.func27, Tryd.ntmps27
  go_wp2
  refine bodyPost_ret (by simp [results, Tryd.results27, go_sem]; try rfl) rfl ?_
  exact ⟨rfl, by
    have hB : ∀ o o' : Obj, Below w.heap.size w ((w.alloc o).alloc o') := fun o o' => ((Below.refl _ _).alloc (Nat.le_refl _) _).alloc (by simp) _
    first | exact hB _ _ | exact (hB _ _).setCell (Nat.le_refl _) _⟩

set_option maxHeartbeats 1000000 in
theorem put_3 (a0 a1 a2 a3 a4 a5 a6 n : Int) (w : World) :
    Calls Tryd.prog 27 #[.agg #[.int .i64 a0, .int .i64 a1, .int .i64 a2, .int .i64 a3, .int .i64 a4, .int .i64 a5, .int .i64 a6], .int .i64 3, .int .i64 n] w fun e w' => e = .returned (lV [a0, a1, a2, n, a4, a5, a6]) ∧ Below w.heap.size w w' := by
  go_enter Tryd.func27, Tryd.ntmps27
  go_wp2
  refine bodyPost_ret (by simp [results, Tryd.results27, go_sem]; try rfl) rfl ?_
  exact ⟨rfl, by
    have hB : ∀ o o' : Obj, Below w.heap.size w ((w.alloc o).alloc o') := fun o o' => ((Below.refl _ _).alloc (Nat.le_refl _) _).alloc (by simp) _
    first | exact hB _ _ | exact (hB _ _).setCell (Nat.le_refl _) _⟩

set_option maxHeartbeats 1000000 in
theorem put_5 (a0 a1 a2 a3 a4 a5 a6 n : Int) (w : World) :
    Calls Tryd.prog 27 #[.agg #[.int .i64 a0, .int .i64 a1, .int .i64 a2, .int .i64 a3, .int .i64 a4, .int .i64 a5, .int .i64 a6], .int .i64 5, .int .i64 n] w fun e w' => e = .returned (lV [a0, a1, a2, a3, n, a5, a6]) ∧ Below w.heap.size w w' := by
  go_enter Tryd.func27, Tryd.ntmps27
  go_wp2
  refine bodyPost_ret (by simp [results, Tryd.results27, go_sem]; try rfl) rfl ?_
  exact ⟨rfl, by
    have hB : ∀ o o' : Obj, Below w.heap.size w ((w.alloc o).alloc o') := fun o o' => ((Below.refl _ _).alloc (Nat.le_refl _) _).alloc (by simp) _
    first | exact hB _ _ | exact (hB _ _).setCell (Nat.le_refl _) _⟩

set_option maxHeartbeats 1000000 in
theorem put_6 (a0 a1 a2 a3 a4 a5 a6 n : Int) (w : World) :
    Calls Tryd.prog 27 #[.agg #[.int .i64 a0, .int .i64 a1, .int .i64 a2, .int .i64 a3, .int .i64 a4, .int .i64 a5, .int .i64 a6], .int .i64 6, .int .i64 n] w fun e w' => e = .returned (lV [a0, a1, a2, a3, a4, n, a6]) ∧ Below w.heap.size w w' := by
  go_enter Tryd.func27, Tryd.ntmps27
  go_wp2
  refine bodyPost_ret (by simp [results, Tryd.results27, go_sem]; try rfl) rfl ?_
  exact ⟨rfl, by
    have hB : ∀ o o' : Obj, Below w.heap.size w ((w.alloc o).alloc o') := fun o o' => ((Below.refl _ _).alloc (Nat.le_refl _) _).alloc (by simp) _
    first | exact hB _ _ | exact (hB _ _).setCell (Nat.le_refl _) _⟩

set_option maxHeartbeats 1000000 in
theorem put_7 (a0 a1 a2 a3 a4 a5 a6 n : Int) (w : World) :
    Calls Tryd.prog 27 #[.agg #[.int .i64 a0, .int .i64 a1, .int .i64 a2, .int .i64 a3, .int .i64 a4, .int .i64 a5, .int .i64 a6], .int .i64 7, .int .i64 n] w fun e w' => e = .returned (lV [a0, a1, a2, a3, a4, a5, n]) ∧ Below w.heap.size w w' := by
  go_enter Tryd.func27, Tryd.ntmps27
  go_wp2
  refine bodyPost_ret (by simp [results, Tryd.results27, go_sem]; try rfl) rfl ?_
  exact ⟨rfl, by
    have hB : ∀ o o' : Obj, Below w.heap.size w ((w.alloc o).alloc o') := fun o o' => ((Below.refl _ _).alloc (Nat.le_refl _) _).alloc (by simp) _
    first | exact hB _ _ | exact (hB _ _).setCell (Nat.le_refl _) _⟩

theorem put_any (s : List Int) (hs : s.length = 7) (k : Nat) (hk : 1 ≤ k ∧ k ≤ 7 ∧ k ≠ 4) (n : Int) (w : World) :
    Calls Tryd.prog 27 #[lV s, .int .i64 (k : Int), .int .i64 n] w fun e w' => e = .returned (lV (s.set (pfl k) n)) ∧ Below w.heap.size w w' := by
  obtain ⟨a0, a1, a2, a3, a4, a5, a6, rfl⟩ := list7 hs
  have : k = 1 ∨ k = 2 ∨ k = 3 ∨ k = 5 ∨ k = 6 ∨ k = 7 := by omega
  rcases this with rfl | rfl | rfl | rfl | rfl | rfl
  · exact put_1 a0 a1 a2 a3 a4 a5 a6 n w
  · exact put_2 a0 a1 a2 a3 a4 a5 a6 n w
  · exact put_3 a0 a1 a2 a3 a4 a5 a6 n w
  · exact put_5 a0 a1 a2 a3 a4 a5 a6 n w
  · exact put_6 a0 a1 a2 a3 a4 a5 a6 n w
  · exact put_7 a0 a1 a2 a3 a4 a5 a6 n w
end Go.Proofs.YtflnlmpfniommaaDoor
