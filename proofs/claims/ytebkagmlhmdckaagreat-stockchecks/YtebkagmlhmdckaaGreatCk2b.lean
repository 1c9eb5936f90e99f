/-
  stock: a kind's rule.
-/
import Derived.Test.YtebkagmlhmdckaaGreatCk2
import Derived.Deep.WholeRow
import Derived.Laws.CopyOwn
import Derived.WalkMore
import Derived.Deep.Cut
namespace Go.Proofs.YtebkagmlhmdckaaGreat
open Go.RowKit
set_option maxRecDepth 100000
set_option linter.unusedSimpArgs false

/-- a kind's rule: which fields, and its three functions -/
def rlV (k : Int) : List Value :=
  if k = 1 then [.bool true, .bool false, .bool false, .bool false, .nilFunc, .func (.func 27) #[] #[], .func (.func 28) #[] #[]]
  else if k = 2 then [.bool true, .bool false, .bool false, .bool false, .nilFunc, .func (.func 29) #[] #[], .func (.func 30) #[] #[]]
  else if k = 3 then [.bool true, .bool false, .bool true, .bool false, .func (.func 31) #[] #[], .func (.func 29) #[] #[], .func (.func 32) #[] #[]]
  else if k = 4 then [.bool false, .bool true, .bool false, .bool false, .func (.func 33) #[] #[], .nilFunc, .func (.func 34) #[] #[]]
  else if k = 5 then [.bool false, .bool true, .bool false, .bool false, .func (.func 33) #[] #[], .nilFunc, .func (.func 35) #[] #[]]
  else if k = 6 then [.bool false, .bool true, .bool true, .bool false, .func (.func 33) #[] #[], .nilFunc, .func (.func 36) #[] #[]]
  else if k = 7 then [.bool true, .bool false, .bool false, .bool false, .nilFunc, .nilFunc, .nilFunc]
  else if k = 8 then [.bool false, .bool false, .bool false, .bool true, .nilFunc, .nilFunc, .func (.func 37) #[] #[]]
  else [.bool false, .bool false, .bool false, .bool false, .nilFunc, .nilFunc, .nilFunc]
def rsStore (a : Addr) (v : Value) : Sem Unit := storeVar 53 a v
theorem storeVar_rs (a : Addr) (v : Value) : storeVar 53 a v = rsStore a v := rfl
def rlStore (a : Addr) (v : Value) : Sem Unit := storeVar 39 a v
theorem storeVar_rl (a : Addr) (v : Value) : storeVar 39 a v = rlStore a v := rfl
attribute [local go_sem ↓] storeVar_rs storeVar_rl
/-- the table of rules -/
def rsR : Array Value := (.bool false :: .bool false :: .bool false :: .bool false :: .nilFunc :: .nilFunc :: .nilFunc :: .bool true :: .bool false :: .bool false :: .bool false :: .nilFunc :: .func (.func 27) #[] #[] :: .func (.func 28) #[] #[] :: .bool true :: .bool false :: .bool false :: .bool false :: .nilFunc :: .func (.func 29) #[] #[] :: .func (.func 30) #[] #[] :: .bool true :: .bool false :: .bool true :: .bool false :: .func (.func 31) #[] #[] :: .func (.func 29) #[] #[] :: .func (.func 32) #[] #[] :: .bool false :: .bool true :: .bool false :: .bool false :: .func (.func 33) #[] #[] :: .nilFunc :: .func (.func 34) #[] #[] :: .bool false :: .bool true :: .bool false :: .bool false :: .func (.func 33) #[] #[] :: .nilFunc :: .func (.func 35) #[] #[] :: .bool false :: .bool true :: .bool true :: .bool false :: .func (.func 33) #[] #[] :: .nilFunc :: .func (.func 36) #[] #[] :: .bool true :: .bool false :: .bool false :: .bool false :: .nilFunc :: .nilFunc :: .nilFunc :: .bool false :: .bool false :: .bool false :: .bool true :: .nilFunc :: .nilFunc :: .func (.func 37) #[] #[] :: .bool false :: .bool false :: .bool false :: .bool false :: .nilFunc :: .nilFunc :: .nilFunc :: []).toArray
theorem rs_info : (Tryz.prog.info? 53).map (·.size) = some 70 := by kernel_rfl
theorem rl_info : (Tryz.prog.info? 39).map (·.size) = some 7 := by kernel_rfl
theorem rs_step (w : World) (b : Nat) (X : Array Value) (hb : w.heap.size = b) (hX : X = rsR) : (rsStore ⟨b, 0, none⟩ (.agg X)).run Tryz.prog (w.alloc (.cells Tryz.zeroCells53 53)) = .ok () (w.alloc (.cells rsR 53)) := by
  subst hX
  subst hb
  unfold rsStore
  exact run_storeVar_new w _ _ _ (by rw [rs_info]; rfl) (by kernel_rfl) (by decide +kernel)
theorem rl_step (w : World) (b : Nat) (c : Array Value) (hg : w.heap[b]? = some (.cells #[.bool false, .bool false, .bool false, .bool false, .nilFunc, .nilFunc, .nilFunc] 39 (0, 0))) (hc : c.size = 7) (h1 : c.all (·.oneCell') = true) : (rlStore ⟨b, 0, none⟩ (.agg c)).run Tryz.prog w = .ok () (w.setRow b c) := by
  unfold rlStore
  exact run_storeVar_row w b _ _ _ c hg (by rw [rl_info, hc]) (by rw [hc]; rfl) h1
theorem rs_world (w : World) : ∃ W, (w.alloc (.cells #[.bool false, .bool false, .bool false, .bool false, .nilFunc, .nilFunc, .nilFunc] 39)).alloc (.cells rsR 53) = W ∧ W.heap[w.heap.size]? = some (.cells #[.bool false, .bool false, .bool false, .bool false, .nilFunc, .nilFunc, .nilFunc] 39 (0, 0)) ∧ W.heap[w.heap.size + 1]? = some (.cells rsR 53 (0, 0)) ∧ Below w.heap.size w W := by
  refine ⟨_, rfl, ?_, ?_, ((Below.refl _ _).alloc (Nat.le_refl _) _).alloc (by simp) _⟩
  · exact (((Below.refl (w.alloc (.cells #[.bool false, .bool false, .bool false, .bool false, .nilFunc, .nilFunc, .nilFunc] 39)).heap.size _).alloc (Nat.le_refl _) _).block w.heap.size (by simp)).trans (heap_alloc_new w _)
  · have h := heap_alloc_new (w.alloc (.cells #[.bool false, .bool false, .bool false, .bool false, .nilFunc, .nilFunc, .nilFunc] 39)) (.cells rsR 53)
    rw [World.size_alloc] at h
    exact h
set_option maxHeartbeats 4000000 in
theorem ruleOf_1 (w : World) : Calls Tryz.prog 14 #[.int .i64 1] w fun e w' => e = .returned (.tuple #[.agg #[.bool true, .bool false, .bool false, .bool false, .nilFunc, .func (.func 27) #[] #[], .func (.func 28) #[] #[]], .bool true]) ∧ Below w.heap.size w w' := by
  obtain ⟨W, hW, H1, H2, BW⟩ := rs_world w
  obtain ⟨W4, hW4⟩ : ∃ W4, W.setRow w.heap.size #[.bool true, .bool false, .bool false, .bool false, .nilFunc, .func (.func 27) #[] #[], .func (.func 28) #[] #[]] = W4 := ⟨_, rfl⟩
  have hst : (rlStore ⟨w.heap.size, 0, none⟩ (.agg #[.bool true, .bool false, .bool false, .bool false, .nilFunc, .func (.func 27) #[] #[], .func (.func 28) #[] #[]])).run Tryz.prog W = .ok () W4 := by rw [← hW4]; exact rl_step W _ _ H1 rfl (by decide +kernel)
  have H4 : W4.heap[w.heap.size]? = some (.cells #[.bool true, .bool false, .bool false, .bool false, .nilFunc, .func (.func 27) #[] #[], .func (.func 28) #[] #[]] 39 (0, 0)) := by rw [← hW4]; exact setRow_heap W _ _ _ _ _ H1
  have B4 := hid (show Below w.heap.size w W4 by rw [← hW4]; exact below_setRow BW (Nat.le_refl _) _)
  have c0 : W.cell? ⟨w.heap.size + 1, 7, none⟩ = some (.bool true) := by rw [Lib.cell_of_heap H2]; rfl
  have c1 : W.cell? ⟨w.heap.size + 1, 8, none⟩ = some (.bool false) := by rw [Lib.cell_of_heap H2]; rfl
  have c2 : W.cell? ⟨w.heap.size + 1, 9, none⟩ = some (.bool false) := by rw [Lib.cell_of_heap H2]; rfl
  have c3 : W.cell? ⟨w.heap.size + 1, 10, none⟩ = some (.bool false) := by rw [Lib.cell_of_heap H2]; rfl
  have c4 : W.cell? ⟨w.heap.size + 1, 11, none⟩ = some (.nilFunc) := by rw [Lib.cell_of_heap H2]; rfl
  have c5 : W.cell? ⟨w.heap.size + 1, 12, none⟩ = some (.func (.func 27) #[] #[]) := by rw [Lib.cell_of_heap H2]; rfl
  have c6 : W.cell? ⟨w.heap.size + 1, 13, none⟩ = some (.func (.func 28) #[] #[]) := by rw [Lib.cell_of_heap H2]; rfl
  have e0 : W4.cell? ⟨w.heap.size, 0, none⟩ = some (.bool true) := by rw [Lib.cell_of_heap H4]; rfl
  have e1 : W4.cell? ⟨w.heap.size, 1, none⟩ = some (.bool false) := by rw [Lib.cell_of_heap H4]; rfl
  have e2 : W4.cell? ⟨w.heap.size, 2, none⟩ = some (.bool false) := by rw [Lib.cell_of_heap H4]; rfl
  have e3 : W4.cell? ⟨w.heap.size, 3, none⟩ = some (.bool false) := by rw [Lib.cell_of_heap H4]; rfl
  have e4 : W4.cell? ⟨w.heap.size, 4, none⟩ = some (.nilFunc) := by rw [Lib.cell_of_heap H4]; rfl
  have e5 : W4.cell? ⟨w.heap.size, 5, none⟩ = some (.func (.func 27) #[] #[]) := by rw [Lib.cell_of_heap H4]; rfl
  have e6 : W4.cell? ⟨w.heap.size, 6, none⟩ = some (.func (.func 28) #[] #[]) := by rw [Lib.cell_of_heap H4]; rfl
  have HW := hid hW
  clear hW hW4 H1 H2 H4 BW
  go_enter Tryz.func14, Tryz.ntmps14
  go_wp2_with fail
  rw [rs_step _ _ _ (World.size_alloc _ _) (by kernel_rfl)]
  rw [HW.out]
  go_wp2_with fail
  refine bodyPost_ret (by simp [results, Tryz.results14, go_sem, e0, e1, e2, e3, e4, e5, e6]; try rfl) rfl ?_
  exact ⟨rfl, B4.out⟩
set_option maxHeartbeats 4000000 in
theorem ruleOf_2 (w : World) : Calls Tryz.prog 14 #[.int .i64 2] w fun e w' => e = .returned (.tuple #[.agg #[.bool true, .bool false, .bool false, .bool false, .nilFunc, .func (.func 29) #[] #[], .func (.func 30) #[] #[]], .bool true]) ∧ Below w.heap.size w w' := by
  obtain ⟨W, hW, H1, H2, BW⟩ := rs_world w
  obtain ⟨W4, hW4⟩ : ∃ W4, W.setRow w.heap.size #[.bool true, .bool false, .bool false, .bool false, .nilFunc, .func (.func 29) #[] #[], .func (.func 30) #[] #[]] = W4 := ⟨_, rfl⟩
  have hst : (rlStore ⟨w.heap.size, 0, none⟩ (.agg #[.bool true, .bool false, .bool false, .bool false, .nilFunc, .func (.func 29) #[] #[], .func (.func 30) #[] #[]])).run Tryz.prog W = .ok () W4 := by rw [← hW4]; exact rl_step W _ _ H1 rfl (by decide +kernel)
  have H4 : W4.heap[w.heap.size]? = some (.cells #[.bool true, .bool false, .bool false, .bool false, .nilFunc, .func (.func 29) #[] #[], .func (.func 30) #[] #[]] 39 (0, 0)) := by rw [← hW4]; exact setRow_heap W _ _ _ _ _ H1
  have B4 := hid (show Below w.heap.size w W4 by rw [← hW4]; exact below_setRow BW (Nat.le_refl _) _)
  have c0 : W.cell? ⟨w.heap.size + 1, 14, none⟩ = some (.bool true) := by rw [Lib.cell_of_heap H2]; rfl
  have c1 : W.cell? ⟨w.heap.size + 1, 15, none⟩ = some (.bool false) := by rw [Lib.cell_of_heap H2]; rfl
  have c2 : W.cell? ⟨w.heap.size + 1, 16, none⟩ = some (.bool false) := by rw [Lib.cell_of_heap H2]; rfl
  have c3 : W.cell? ⟨w.heap.size + 1, 17, none⟩ = some (.bool false) := by rw [Lib.cell_of_heap H2]; rfl
  have c4 : W.cell? ⟨w.heap.size + 1, 18, none⟩ = some (.nilFunc) := by rw [Lib.cell_of_heap H2]; rfl
  have c5 : W.cell? ⟨w.heap.size + 1, 19, none⟩ = some (.func (.func 29) #[] #[]) := by rw [Lib.cell_of_heap H2]; rfl
  have c6 : W.cell? ⟨w.heap.size + 1, 20, none⟩ = some (.func (.func 30) #[] #[]) := by rw [Lib.cell_of_heap H2]; rfl
  have e0 : W4.cell? ⟨w.heap.size, 0, none⟩ = some (.bool true) := by rw [Lib.cell_of_heap H4]; rfl
  have e1 : W4.cell? ⟨w.heap.size, 1, none⟩ = some (.bool false) := by rw [Lib.cell_of_heap H4]; rfl
  have e2 : W4.cell? ⟨w.heap.size, 2, none⟩ = some (.bool false) := by rw [Lib.cell_of_heap H4]; rfl
  have e3 : W4.cell? ⟨w.heap.size, 3, none⟩ = some (.bool false) := by rw [Lib.cell_of_heap H4]; rfl
  have e4 : W4.cell? ⟨w.heap.size, 4, none⟩ = some (.nilFunc) := by rw [Lib.cell_of_heap H4]; rfl
  have e5 : W4.cell? ⟨w.heap.size, 5, none⟩ = some (.func (.func 29) #[] #[]) := by rw [Lib.cell_of_heap H4]; rfl
  have e6 : W4.cell? ⟨w.heap.size, 6, none⟩ = some (.func (.func 30) #[] #[]) := by rw [Lib.cell_of_heap H4]; rfl
  have HW := hid hW
  clear hW hW4 H1 H2 H4 BW
  go_enter Tryz.func14, Tryz.ntmps14
  go_wp2_with fail
  rw [rs_step _ _ _ (World.size_alloc _ _) (by kernel_rfl)]
  rw [HW.out]
  go_wp2_with fail
  refine bodyPost_ret (by simp [results, Tryz.results14, go_sem, e0, e1, e2, e3, e4, e5, e6]; try rfl) rfl ?_
  exact ⟨rfl, B4.out⟩
set_option maxHeartbeats 4000000 in
theorem ruleOf_3 (w : World) : Calls Tryz.prog 14 #[.int .i64 3] w fun e w' => e = .returned (.tuple #[.agg #[.bool true, .bool false, .bool true, .bool false, .func (.func 31) #[] #[], .func (.func 29) #[] #[], .func (.func 32) #[] #[]], .bool true]) ∧ Below w.heap.size w w' := by
  obtain ⟨W, hW, H1, H2, BW⟩ := rs_world w
  obtain ⟨W4, hW4⟩ : ∃ W4, W.setRow w.heap.size #[.bool true, .bool false, .bool true, .bool false, .func (.func 31) #[] #[], .func (.func 29) #[] #[], .func (.func 32) #[] #[]] = W4 := ⟨_, rfl⟩
  have hst : (rlStore ⟨w.heap.size, 0, none⟩ (.agg #[.bool true, .bool false, .bool true, .bool false, .func (.func 31) #[] #[], .func (.func 29) #[] #[], .func (.func 32) #[] #[]])).run Tryz.prog W = .ok () W4 := by rw [← hW4]; exact rl_step W _ _ H1 rfl (by decide +kernel)
  have H4 : W4.heap[w.heap.size]? = some (.cells #[.bool true, .bool false, .bool true, .bool false, .func (.func 31) #[] #[], .func (.func 29) #[] #[], .func (.func 32) #[] #[]] 39 (0, 0)) := by rw [← hW4]; exact setRow_heap W _ _ _ _ _ H1
  have B4 := hid (show Below w.heap.size w W4 by rw [← hW4]; exact below_setRow BW (Nat.le_refl _) _)
  have c0 : W.cell? ⟨w.heap.size + 1, 21, none⟩ = some (.bool true) := by rw [Lib.cell_of_heap H2]; rfl
  have c1 : W.cell? ⟨w.heap.size + 1, 22, none⟩ = some (.bool false) := by rw [Lib.cell_of_heap H2]; rfl
  have c2 : W.cell? ⟨w.heap.size + 1, 23, none⟩ = some (.bool true) := by rw [Lib.cell_of_heap H2]; rfl
  have c3 : W.cell? ⟨w.heap.size + 1, 24, none⟩ = some (.bool false) := by rw [Lib.cell_of_heap H2]; rfl
  have c4 : W.cell? ⟨w.heap.size + 1, 25, none⟩ = some (.func (.func 31) #[] #[]) := by rw [Lib.cell_of_heap H2]; rfl
  have c5 : W.cell? ⟨w.heap.size + 1, 26, none⟩ = some (.func (.func 29) #[] #[]) := by rw [Lib.cell_of_heap H2]; rfl
  have c6 : W.cell? ⟨w.heap.size + 1, 27, none⟩ = some (.func (.func 32) #[] #[]) := by rw [Lib.cell_of_heap H2]; rfl
  have e0 : W4.cell? ⟨w.heap.size, 0, none⟩ = some (.bool true) := by rw [Lib.cell_of_heap H4]; rfl
  have e1 : W4.cell? ⟨w.heap.size, 1, none⟩ = some (.bool false) := by rw [Lib.cell_of_heap H4]; rfl
  have e2 : W4.cell? ⟨w.heap.size, 2, none⟩ = some (.bool true) := by rw [Lib.cell_of_heap H4]; rfl
  have e3 : W4.cell? ⟨w.heap.size, 3, none⟩ = some (.bool false) := by rw [Lib.cell_of_heap H4]; rfl
  have e4 : W4.cell? ⟨w.heap.size, 4, none⟩ = some (.func (.func 31) #[] #[]) := by rw [Lib.cell_of_heap H4]; rfl
  have e5 : W4.cell? ⟨w.heap.size, 5, none⟩ = some (.func (.func 29) #[] #[]) := by rw [Lib.cell_of_heap H4]; rfl
  have e6 : W4.cell? ⟨w.heap.size, 6, none⟩ = some (.func (.func 32) #[] #[]) := by rw [Lib.cell_of_heap H4]; rfl
  have HW := hid hW
  clear hW hW4 H1 H2 H4 BW
  go_enter Tryz.func14, Tryz.ntmps14
  go_wp2_with fail
  rw [rs_step _ _ _ (World.size_alloc _ _) (by kernel_rfl)]
  rw [HW.out]
  go_wp2_with fail
  refine bodyPost_ret (by simp [results, Tryz.results14, go_sem, e0, e1, e2, e3, e4, e5, e6]; try rfl) rfl ?_
  exact ⟨rfl, B4.out⟩
set_option maxHeartbeats 4000000 in
theorem ruleOf_4 (w : World) : Calls Tryz.prog 14 #[.int .i64 4] w fun e w' => e = .returned (.tuple #[.agg #[.bool false, .bool true, .bool false, .bool false, .func (.func 33) #[] #[], .nilFunc, .func (.func 34) #[] #[]], .bool true]) ∧ Below w.heap.size w w' := by
  obtain ⟨W, hW, H1, H2, BW⟩ := rs_world w
  obtain ⟨W4, hW4⟩ : ∃ W4, W.setRow w.heap.size #[.bool false, .bool true, .bool false, .bool false, .func (.func 33) #[] #[], .nilFunc, .func (.func 34) #[] #[]] = W4 := ⟨_, rfl⟩
  have hst : (rlStore ⟨w.heap.size, 0, none⟩ (.agg #[.bool false, .bool true, .bool false, .bool false, .func (.func 33) #[] #[], .nilFunc, .func (.func 34) #[] #[]])).run Tryz.prog W = .ok () W4 := by rw [← hW4]; exact rl_step W _ _ H1 rfl (by decide +kernel)
  have H4 : W4.heap[w.heap.size]? = some (.cells #[.bool false, .bool true, .bool false, .bool false, .func (.func 33) #[] #[], .nilFunc, .func (.func 34) #[] #[]] 39 (0, 0)) := by rw [← hW4]; exact setRow_heap W _ _ _ _ _ H1
  have B4 := hid (show Below w.heap.size w W4 by rw [← hW4]; exact below_setRow BW (Nat.le_refl _) _)
  have c0 : W.cell? ⟨w.heap.size + 1, 28, none⟩ = some (.bool false) := by rw [Lib.cell_of_heap H2]; rfl
  have c1 : W.cell? ⟨w.heap.size + 1, 29, none⟩ = some (.bool true) := by rw [Lib.cell_of_heap H2]; rfl
  have c2 : W.cell? ⟨w.heap.size + 1, 30, none⟩ = some (.bool false) := by rw [Lib.cell_of_heap H2]; rfl
  have c3 : W.cell? ⟨w.heap.size + 1, 31, none⟩ = some (.bool false) := by rw [Lib.cell_of_heap H2]; rfl
  have c4 : W.cell? ⟨w.heap.size + 1, 32, none⟩ = some (.func (.func 33) #[] #[]) := by rw [Lib.cell_of_heap H2]; rfl
  have c5 : W.cell? ⟨w.heap.size + 1, 33, none⟩ = some (.nilFunc) := by rw [Lib.cell_of_heap H2]; rfl
  have c6 : W.cell? ⟨w.heap.size + 1, 34, none⟩ = some (.func (.func 34) #[] #[]) := by rw [Lib.cell_of_heap H2]; rfl
  have e0 : W4.cell? ⟨w.heap.size, 0, none⟩ = some (.bool false) := by rw [Lib.cell_of_heap H4]; rfl
  have e1 : W4.cell? ⟨w.heap.size, 1, none⟩ = some (.bool true) := by rw [Lib.cell_of_heap H4]; rfl
  have e2 : W4.cell? ⟨w.heap.size, 2, none⟩ = some (.bool false) := by rw [Lib.cell_of_heap H4]; rfl
  have e3 : W4.cell? ⟨w.heap.size, 3, none⟩ = some (.bool false) := by rw [Lib.cell_of_heap H4]; rfl
  have e4 : W4.cell? ⟨w.heap.size, 4, none⟩ = some (.func (.func 33) #[] #[]) := by rw [Lib.cell_of_heap H4]; rfl
  have e5 : W4.cell? ⟨w.heap.size, 5, none⟩ = some (.nilFunc) := by rw [Lib.cell_of_heap H4]; rfl
  have e6 : W4.cell? ⟨w.heap.size, 6, none⟩ = some (.func (.func 34) #[] #[]) := by rw [Lib.cell_of_heap H4]; rfl
  have HW := hid hW
  clear hW hW4 H1 H2 H4 BW
  go_enter Tryz.func14, Tryz.ntmps14
  go_wp2_with fail
  rw [rs_step _ _ _ (World.size_alloc _ _) (by kernel_rfl)]
  rw [HW.out]
  go_wp2_with fail
  refine bodyPost_ret (by simp [results, Tryz.results14, go_sem, e0, e1, e2, e3, e4, e5, e6]; try rfl) rfl ?_
  exact ⟨rfl, B4.out⟩
set_option maxHeartbeats 4000000 in
theorem ruleOf_5 (w : World) : Calls Tryz.prog 14 #[.int .i64 5] w fun e w' => e = .returned (.tuple #[.agg #[.bool false, .bool true, .bool false, .bool false, .func (.func 33) #[] #[], .nilFunc, .func (.func 35) #[] #[]], .bool true]) ∧ Below w.heap.size w w' := by
  obtain ⟨W, hW, H1, H2, BW⟩ := rs_world w
  obtain ⟨W4, hW4⟩ : ∃ W4, W.setRow w.heap.size #[.bool false, .bool true, .bool false, .bool false, .func (.func 33) #[] #[], .nilFunc, .func (.func 35) #[] #[]] = W4 := ⟨_, rfl⟩
  have hst : (rlStore ⟨w.heap.size, 0, none⟩ (.agg #[.bool false, .bool true, .bool false, .bool false, .func (.func 33) #[] #[], .nilFunc, .func (.func 35) #[] #[]])).run Tryz.prog W = .ok () W4 := by rw [← hW4]; exact rl_step W _ _ H1 rfl (by decide +kernel)
  have H4 : W4.heap[w.heap.size]? = some (.cells #[.bool false, .bool true, .bool false, .bool false, .func (.func 33) #[] #[], .nilFunc, .func (.func 35) #[] #[]] 39 (0, 0)) := by rw [← hW4]; exact setRow_heap W _ _ _ _ _ H1
  have B4 := hid (show Below w.heap.size w W4 by rw [← hW4]; exact below_setRow BW (Nat.le_refl _) _)
  have c0 : W.cell? ⟨w.heap.size + 1, 35, none⟩ = some (.bool false) := by rw [Lib.cell_of_heap H2]; rfl
  have c1 : W.cell? ⟨w.heap.size + 1, 36, none⟩ = some (.bool true) := by rw [Lib.cell_of_heap H2]; rfl
  have c2 : W.cell? ⟨w.heap.size + 1, 37, none⟩ = some (.bool false) := by rw [Lib.cell_of_heap H2]; rfl
  have c3 : W.cell? ⟨w.heap.size + 1, 38, none⟩ = some (.bool false) := by rw [Lib.cell_of_heap H2]; rfl
  have c4 : W.cell? ⟨w.heap.size + 1, 39, none⟩ = some (.func (.func 33) #[] #[]) := by rw [Lib.cell_of_heap H2]; rfl
  have c5 : W.cell? ⟨w.heap.size + 1, 40, none⟩ = some (.nilFunc) := by rw [Lib.cell_of_heap H2]; rfl
  have c6 : W.cell? ⟨w.heap.size + 1, 41, none⟩ = some (.func (.func 35) #[] #[]) := by rw [Lib.cell_of_heap H2]; rfl
  have e0 : W4.cell? ⟨w.heap.size, 0, none⟩ = some (.bool false) := by rw [Lib.cell_of_heap H4]; rfl
  have e1 : W4.cell? ⟨w.heap.size, 1, none⟩ = some (.bool true) := by rw [Lib.cell_of_heap H4]; rfl
  have e2 : W4.cell? ⟨w.heap.size, 2, none⟩ = some (.bool false) := by rw [Lib.cell_of_heap H4]; rfl
  have e3 : W4.cell? ⟨w.heap.size, 3, none⟩ = some (.bool false) := by rw [Lib.cell_of_heap H4]; rfl
  have e4 : W4.cell? ⟨w.heap.size, 4, none⟩ = some (.func (.func 33) #[] #[]) := by rw [Lib.cell_of_heap H4]; rfl
  have e5 : W4.cell? ⟨w.heap.size, 5, none⟩ = some (.nilFunc) := by rw [Lib.cell_of_heap H4]; rfl
  have e6 : W4.cell? ⟨w.heap.size, 6, none⟩ = some (.func (.func 35) #[] #[]) := by rw [Lib.cell_of_heap H4]; rfl
  have HW := hid hW
  clear hW hW4 H1 H2 H4 BW
  go_enter Tryz.func14, Tryz.ntmps14
  go_wp2_with fail
  rw [rs_step _ _ _ (World.size_alloc _ _) (by kernel_rfl)]
  rw [HW.out]
  go_wp2_with fail
  refine bodyPost_ret (by simp [results, Tryz.results14, go_sem, e0, e1, e2, e3, e4, e5, e6]; try rfl) rfl ?_
  exact ⟨rfl, B4.out⟩
set_option maxHeartbeats 4000000 in
theorem ruleOf_6 (w : World) : Calls Tryz.prog 14 #[.int .i64 6] w fun e w' => e = .returned (.tuple #[.agg #[.bool false, .bool true, .bool true, .bool false, .func (.func 33) #[] #[], .nilFunc, .func (.func 36) #[] #[]], .bool true]) ∧ Below w.heap.size w w' := by
  obtain ⟨W, hW, H1, H2, BW⟩ := rs_world w
  obtain ⟨W4, hW4⟩ : ∃ W4, W.setRow w.heap.size #[.bool false, .bool true, .bool true, .bool false, .func (.func 33) #[] #[], .nilFunc, .func (.func 36) #[] #[]] = W4 := ⟨_, rfl⟩
  have hst : (rlStore ⟨w.heap.size, 0, none⟩ (.agg #[.bool false, .bool true, .bool true, .bool false, .func (.func 33) #[] #[], .nilFunc, .func (.func 36) #[] #[]])).run Tryz.prog W = .ok () W4 := by rw [← hW4]; exact rl_step W _ _ H1 rfl (by decide +kernel)
  have H4 : W4.heap[w.heap.size]? = some (.cells #[.bool false, .bool true, .bool true, .bool false, .func (.func 33) #[] #[], .nilFunc, .func (.func 36) #[] #[]] 39 (0, 0)) := by rw [← hW4]; exact setRow_heap W _ _ _ _ _ H1
  have B4 := hid (show Below w.heap.size w W4 by rw [← hW4]; exact below_setRow BW (Nat.le_refl _) _)
  have c0 : W.cell? ⟨w.heap.size + 1, 42, none⟩ = some (.bool false) := by rw [Lib.cell_of_heap H2]; rfl
  have c1 : W.cell? ⟨w.heap.size + 1, 43, none⟩ = some (.bool true) := by rw [Lib.cell_of_heap H2]; rfl
  have c2 : W.cell? ⟨w.heap.size + 1, 44, none⟩ = some (.bool true) := by rw [Lib.cell_of_heap H2]; rfl
  have c3 : W.cell? ⟨w.heap.size + 1, 45, none⟩ = some (.bool false) := by rw [Lib.cell_of_heap H2]; rfl
  have c4 : W.cell? ⟨w.heap.size + 1, 46, none⟩ = some (.func (.func 33) #[] #[]) := by rw [Lib.cell_of_heap H2]; rfl
  have c5 : W.cell? ⟨w.heap.size + 1, 47, none⟩ = some (.nilFunc) := by rw [Lib.cell_of_heap H2]; rfl
  have c6 : W.cell? ⟨w.heap.size + 1, 48, none⟩ = some (.func (.func 36) #[] #[]) := by rw [Lib.cell_of_heap H2]; rfl
  have e0 : W4.cell? ⟨w.heap.size, 0, none⟩ = some (.bool false) := by rw [Lib.cell_of_heap H4]; rfl
  have e1 : W4.cell? ⟨w.heap.size, 1, none⟩ = some (.bool true) := by rw [Lib.cell_of_heap H4]; rfl
  have e2 : W4.cell? ⟨w.heap.size, 2, none⟩ = some (.bool true) := by rw [Lib.cell_of_heap H4]; rfl
  have e3 : W4.cell? ⟨w.heap.size, 3, none⟩ = some (.bool false) := by rw [Lib.cell_of_heap H4]; rfl
  have e4 : W4.cell? ⟨w.heap.size, 4, none⟩ = some (.func (.func 33) #[] #[]) := by rw [Lib.cell_of_heap H4]; rfl
  have e5 : W4.cell? ⟨w.heap.size, 5, none⟩ = some (.nilFunc) := by rw [Lib.cell_of_heap H4]; rfl
  have e6 : W4.cell? ⟨w.heap.size, 6, none⟩ = some (.func (.func 36) #[] #[]) := by rw [Lib.cell_of_heap H4]; rfl
  have HW := hid hW
  clear hW hW4 H1 H2 H4 BW
  go_enter Tryz.func14, Tryz.ntmps14
  go_wp2_with fail
  rw [rs_step _ _ _ (World.size_alloc _ _) (by kernel_rfl)]
  rw [HW.out]
  go_wp2_with fail
  refine bodyPost_ret (by simp [results, Tryz.results14, go_sem, e0, e1, e2, e3, e4, e5, e6]; try rfl) rfl ?_
  exact ⟨rfl, B4.out⟩
set_option maxHeartbeats 4000000 in
theorem ruleOf_7 (w : World) : Calls Tryz.prog 14 #[.int .i64 7] w fun e w' => e = .returned (.tuple #[.agg #[.bool true, .bool false, .bool false, .bool false, .nilFunc, .nilFunc, .nilFunc], .bool true]) ∧ Below w.heap.size w w' := by
  obtain ⟨W, hW, H1, H2, BW⟩ := rs_world w
  obtain ⟨W4, hW4⟩ : ∃ W4, W.setRow w.heap.size #[.bool true, .bool false, .bool false, .bool false, .nilFunc, .nilFunc, .nilFunc] = W4 := ⟨_, rfl⟩
  have hst : (rlStore ⟨w.heap.size, 0, none⟩ (.agg #[.bool true, .bool false, .bool false, .bool false, .nilFunc, .nilFunc, .nilFunc])).run Tryz.prog W = .ok () W4 := by rw [← hW4]; exact rl_step W _ _ H1 rfl (by decide +kernel)
  have H4 : W4.heap[w.heap.size]? = some (.cells #[.bool true, .bool false, .bool false, .bool false, .nilFunc, .nilFunc, .nilFunc] 39 (0, 0)) := by rw [← hW4]; exact setRow_heap W _ _ _ _ _ H1
  have B4 := hid (show Below w.heap.size w W4 by rw [← hW4]; exact below_setRow BW (Nat.le_refl _) _)
  have c0 : W.cell? ⟨w.heap.size + 1, 49, none⟩ = some (.bool true) := by rw [Lib.cell_of_heap H2]; rfl
  have c1 : W.cell? ⟨w.heap.size + 1, 50, none⟩ = some (.bool false) := by rw [Lib.cell_of_heap H2]; rfl
  have c2 : W.cell? ⟨w.heap.size + 1, 51, none⟩ = some (.bool false) := by rw [Lib.cell_of_heap H2]; rfl
  have c3 : W.cell? ⟨w.heap.size + 1, 52, none⟩ = some (.bool false) := by rw [Lib.cell_of_heap H2]; rfl
  have c4 : W.cell? ⟨w.heap.size + 1, 53, none⟩ = some (.nilFunc) := by rw [Lib.cell_of_heap H2]; rfl
  have c5 : W.cell? ⟨w.heap.size + 1, 54, none⟩ = some (.nilFunc) := by rw [Lib.cell_of_heap H2]; rfl
  have c6 : W.cell? ⟨w.heap.size + 1, 55, none⟩ = some (.nilFunc) := by rw [Lib.cell_of_heap H2]; rfl
  have e0 : W4.cell? ⟨w.heap.size, 0, none⟩ = some (.bool true) := by rw [Lib.cell_of_heap H4]; rfl
  have e1 : W4.cell? ⟨w.heap.size, 1, none⟩ = some (.bool false) := by rw [Lib.cell_of_heap H4]; rfl
  have e2 : W4.cell? ⟨w.heap.size, 2, none⟩ = some (.bool false) := by rw [Lib.cell_of_heap H4]; rfl
  have e3 : W4.cell? ⟨w.heap.size, 3, none⟩ = some (.bool false) := by rw [Lib.cell_of_heap H4]; rfl
  have e4 : W4.cell? ⟨w.heap.size, 4, none⟩ = some (.nilFunc) := by rw [Lib.cell_of_heap H4]; rfl
  have e5 : W4.cell? ⟨w.heap.size, 5, none⟩ = some (.nilFunc) := by rw [Lib.cell_of_heap H4]; rfl
  have e6 : W4.cell? ⟨w.heap.size, 6, none⟩ = some (.nilFunc) := by rw [Lib.cell_of_heap H4]; rfl
  have HW := hid hW
  clear hW hW4 H1 H2 H4 BW
  go_enter Tryz.func14, Tryz.ntmps14
  go_wp2_with fail
  rw [rs_step _ _ _ (World.size_alloc _ _) (by kernel_rfl)]
  rw [HW.out]
  go_wp2_with fail
  refine bodyPost_ret (by simp [results, Tryz.results14, go_sem, e0, e1, e2, e3, e4, e5, e6]; try rfl) rfl ?_
  exact ⟨rfl, B4.out⟩
set_option maxHeartbeats 4000000 in
theorem ruleOf_8 (w : World) : Calls Tryz.prog 14 #[.int .i64 8] w fun e w' => e = .returned (.tuple #[.agg #[.bool false, .bool false, .bool false, .bool true, .nilFunc, .nilFunc, .func (.func 37) #[] #[]], .bool true]) ∧ Below w.heap.size w w' := by
  obtain ⟨W, hW, H1, H2, BW⟩ := rs_world w
  obtain ⟨W4, hW4⟩ : ∃ W4, W.setRow w.heap.size #[.bool false, .bool false, .bool false, .bool true, .nilFunc, .nilFunc, .func (.func 37) #[] #[]] = W4 := ⟨_, rfl⟩
  have hst : (rlStore ⟨w.heap.size, 0, none⟩ (.agg #[.bool false, .bool false, .bool false, .bool true, .nilFunc, .nilFunc, .func (.func 37) #[] #[]])).run Tryz.prog W = .ok () W4 := by rw [← hW4]; exact rl_step W _ _ H1 rfl (by decide +kernel)
  have H4 : W4.heap[w.heap.size]? = some (.cells #[.bool false, .bool false, .bool false, .bool true, .nilFunc, .nilFunc, .func (.func 37) #[] #[]] 39 (0, 0)) := by rw [← hW4]; exact setRow_heap W _ _ _ _ _ H1
  have B4 := hid (show Below w.heap.size w W4 by rw [← hW4]; exact below_setRow BW (Nat.le_refl _) _)
  have c0 : W.cell? ⟨w.heap.size + 1, 56, none⟩ = some (.bool false) := by rw [Lib.cell_of_heap H2]; rfl
  have c1 : W.cell? ⟨w.heap.size + 1, 57, none⟩ = some (.bool false) := by rw [Lib.cell_of_heap H2]; rfl
  have c2 : W.cell? ⟨w.heap.size + 1, 58, none⟩ = some (.bool false) := by rw [Lib.cell_of_heap H2]; rfl
  have c3 : W.cell? ⟨w.heap.size + 1, 59, none⟩ = some (.bool true) := by rw [Lib.cell_of_heap H2]; rfl
  have c4 : W.cell? ⟨w.heap.size + 1, 60, none⟩ = some (.nilFunc) := by rw [Lib.cell_of_heap H2]; rfl
  have c5 : W.cell? ⟨w.heap.size + 1, 61, none⟩ = some (.nilFunc) := by rw [Lib.cell_of_heap H2]; rfl
  have c6 : W.cell? ⟨w.heap.size + 1, 62, none⟩ = some (.func (.func 37) #[] #[]) := by rw [Lib.cell_of_heap H2]; rfl
  have e0 : W4.cell? ⟨w.heap.size, 0, none⟩ = some (.bool false) := by rw [Lib.cell_of_heap H4]; rfl
  have e1 : W4.cell? ⟨w.heap.size, 1, none⟩ = some (.bool false) := by rw [Lib.cell_of_heap H4]; rfl
  have e2 : W4.cell? ⟨w.heap.size, 2, none⟩ = some (.bool false) := by rw [Lib.cell_of_heap H4]; rfl
  have e3 : W4.cell? ⟨w.heap.size, 3, none⟩ = some (.bool true) := by rw [Lib.cell_of_heap H4]; rfl
  have e4 : W4.cell? ⟨w.heap.size, 4, none⟩ = some (.nilFunc) := by rw [Lib.cell_of_heap H4]; rfl
  have e5 : W4.cell? ⟨w.heap.size, 5, none⟩ = some (.nilFunc) := by rw [Lib.cell_of_heap H4]; rfl
  have e6 : W4.cell? ⟨w.heap.size, 6, none⟩ = some (.func (.func 37) #[] #[]) := by rw [Lib.cell_of_heap H4]; rfl
  have HW := hid hW
  clear hW hW4 H1 H2 H4 BW
  go_enter Tryz.func14, Tryz.ntmps14
  go_wp2_with fail
  rw [rs_step _ _ _ (World.size_alloc _ _) (by kernel_rfl)]
  rw [HW.out]
  go_wp2_with fail
  refine bodyPost_ret (by simp [results, Tryz.results14, go_sem, e0, e1, e2, e3, e4, e5, e6]; try rfl) rfl ?_
  exact ⟨rfl, B4.out⟩
set_option maxHeartbeats 4000000 in
theorem ruleOf_9 (w : World) : Calls Tryz.prog 14 #[.int .i64 9] w fun e w' => e = .returned (.tuple #[.agg #[.bool false, .bool false, .bool false, .bool false, .nilFunc, .nilFunc, .nilFunc], .bool true]) ∧ Below w.heap.size w w' := by
  obtain ⟨W, hW, H1, H2, BW⟩ := rs_world w
  obtain ⟨W4, hW4⟩ : ∃ W4, W.setRow w.heap.size #[.bool false, .bool false, .bool false, .bool false, .nilFunc, .nilFunc, .nilFunc] = W4 := ⟨_, rfl⟩
  have hst : (rlStore ⟨w.heap.size, 0, none⟩ (.agg #[.bool false, .bool false, .bool false, .bool false, .nilFunc, .nilFunc, .nilFunc])).run Tryz.prog W = .ok () W4 := by rw [← hW4]; exact rl_step W _ _ H1 rfl (by decide +kernel)
  have H4 : W4.heap[w.heap.size]? = some (.cells #[.bool false, .bool false, .bool false, .bool false, .nilFunc, .nilFunc, .nilFunc] 39 (0, 0)) := by rw [← hW4]; exact setRow_heap W _ _ _ _ _ H1
  have B4 := hid (show Below w.heap.size w W4 by rw [← hW4]; exact below_setRow BW (Nat.le_refl _) _)
  have c0 : W.cell? ⟨w.heap.size + 1, 63, none⟩ = some (.bool false) := by rw [Lib.cell_of_heap H2]; rfl
  have c1 : W.cell? ⟨w.heap.size + 1, 64, none⟩ = some (.bool false) := by rw [Lib.cell_of_heap H2]; rfl
  have c2 : W.cell? ⟨w.heap.size + 1, 65, none⟩ = some (.bool false) := by rw [Lib.cell_of_heap H2]; rfl
  have c3 : W.cell? ⟨w.heap.size + 1, 66, none⟩ = some (.bool false) := by rw [Lib.cell_of_heap H2]; rfl
  have c4 : W.cell? ⟨w.heap.size + 1, 67, none⟩ = some (.nilFunc) := by rw [Lib.cell_of_heap H2]; rfl
  have c5 : W.cell? ⟨w.heap.size + 1, 68, none⟩ = some (.nilFunc) := by rw [Lib.cell_of_heap H2]; rfl
  have c6 : W.cell? ⟨w.heap.size + 1, 69, none⟩ = some (.nilFunc) := by rw [Lib.cell_of_heap H2]; rfl
  have e0 : W4.cell? ⟨w.heap.size, 0, none⟩ = some (.bool false) := by rw [Lib.cell_of_heap H4]; rfl
  have e1 : W4.cell? ⟨w.heap.size, 1, none⟩ = some (.bool false) := by rw [Lib.cell_of_heap H4]; rfl
  have e2 : W4.cell? ⟨w.heap.size, 2, none⟩ = some (.bool false) := by rw [Lib.cell_of_heap H4]; rfl
  have e3 : W4.cell? ⟨w.heap.size, 3, none⟩ = some (.bool false) := by rw [Lib.cell_of_heap H4]; rfl
  have e4 : W4.cell? ⟨w.heap.size, 4, none⟩ = some (.nilFunc) := by rw [Lib.cell_of_heap H4]; rfl
  have e5 : W4.cell? ⟨w.heap.size, 5, none⟩ = some (.nilFunc) := by rw [Lib.cell_of_heap H4]; rfl
  have e6 : W4.cell? ⟨w.heap.size, 6, none⟩ = some (.nilFunc) := by rw [Lib.cell_of_heap H4]; rfl
  have HW := hid hW
  clear hW hW4 H1 H2 H4 BW
  go_enter Tryz.func14, Tryz.ntmps14
  go_wp2_with fail
  rw [rs_step _ _ _ (World.size_alloc _ _) (by kernel_rfl)]
  rw [HW.out]
  go_wp2_with fail
  refine bodyPost_ret (by simp [results, Tryz.results14, go_sem, e0, e1, e2, e3, e4, e5, e6]; try rfl) rfl ?_
  exact ⟨rfl, B4.out⟩
set_option maxHeartbeats 4000000 in
theorem ruleOf_no (k : Int) (w : World) (h : ¬ (1 ≤ k ∧ k ≤ 9)) : Calls Tryz.prog 14 #[.int .i64 k] w fun e w' => e = .returned (.tuple #[.agg #[.bool false, .bool false, .bool false, .bool false, .nilFunc, .nilFunc, .nilFunc], .bool false]) ∧ Below w.heap.size w w' := by
  have H1 := heap_alloc_new w (.cells #[.bool false, .bool false, .bool false, .bool false, .nilFunc, .nilFunc, .nilFunc] 39)
  obtain ⟨W4, hW4⟩ : ∃ W4, (w.alloc (.cells #[.bool false, .bool false, .bool false, .bool false, .nilFunc, .nilFunc, .nilFunc] 39)).setRow w.heap.size #[.bool false, .bool false, .bool false, .bool false, .nilFunc, .nilFunc, .nilFunc] = W4 := ⟨_, rfl⟩
  have hst : (rlStore ⟨w.heap.size, 0, none⟩ (.agg #[.bool false, .bool false, .bool false, .bool false, .nilFunc, .nilFunc, .nilFunc])).run Tryz.prog (w.alloc (.cells #[.bool false, .bool false, .bool false, .bool false, .nilFunc, .nilFunc, .nilFunc] 39)) = .ok () W4 := by rw [← hW4]; exact rl_step _ _ _ H1 rfl (by decide +kernel)
  have H4 : W4.heap[w.heap.size]? = some (.cells #[.bool false, .bool false, .bool false, .bool false, .nilFunc, .nilFunc, .nilFunc] 39 (0, 0)) := by rw [← hW4]; exact setRow_heap _ _ _ _ _ _ H1
  have B4 := hid (show Below w.heap.size w W4 by rw [← hW4]; exact below_setRow ((Below.refl _ _).alloc (Nat.le_refl _) _) (Nat.le_refl _) _)
  have e0 : W4.cell? ⟨w.heap.size, 0, none⟩ = some (.bool false) := by rw [Lib.cell_of_heap H4]; rfl
  have e1 : W4.cell? ⟨w.heap.size, 1, none⟩ = some (.bool false) := by rw [Lib.cell_of_heap H4]; rfl
  have e2 : W4.cell? ⟨w.heap.size, 2, none⟩ = some (.bool false) := by rw [Lib.cell_of_heap H4]; rfl
  have e3 : W4.cell? ⟨w.heap.size, 3, none⟩ = some (.bool false) := by rw [Lib.cell_of_heap H4]; rfl
  have e4 : W4.cell? ⟨w.heap.size, 4, none⟩ = some (.nilFunc) := by rw [Lib.cell_of_heap H4]; rfl
  have e5 : W4.cell? ⟨w.heap.size, 5, none⟩ = some (.nilFunc) := by rw [Lib.cell_of_heap H4]; rfl
  have e6 : W4.cell? ⟨w.heap.size, 6, none⟩ = some (.nilFunc) := by rw [Lib.cell_of_heap H4]; rfl
  clear hW4 H1 H4
  rcases (show k < 1 ∨ (9 < k ∧ ¬ k < 1) by omega) with h1 | ⟨h1, h2⟩
  all_goals
    go_enter Tryz.func14, Tryz.ntmps14
    go_wp2_with fail
    refine bodyPost_ret (by simp [results, Tryz.results14, go_sem, e0, e1, e2, e3, e4, e5, e6]; try rfl) rfl ?_
    exact ⟨rfl, B4.out⟩
theorem ruleOf_any (k : Int) (w : World) :
    Calls Tryz.prog 14 #[.int .i64 k] w fun e w' => e = .returned (.tuple #[.agg (rlV k).toArray, .bool (decide (1 ≤ k ∧ k ≤ 9))]) ∧ Below w.heap.size w w' := by
  by_cases h : 1 ≤ k ∧ k ≤ 9
  · rcases (show k = 1 ∨ k = 2 ∨ k = 3 ∨ k = 4 ∨ k = 5 ∨ k = 6 ∨ k = 7 ∨ k = 8 ∨ k = 9 by omega) with rfl | rfl | rfl | rfl | rfl | rfl | rfl | rfl | rfl
    · exact ruleOf_1 w
    · exact ruleOf_2 w
    · exact ruleOf_3 w
    · exact ruleOf_4 w
    · exact ruleOf_5 w
    · exact ruleOf_6 w
    · exact ruleOf_7 w
    · exact ruleOf_8 w
    · exact ruleOf_9 w
  · have e : decide (1 ≤ k ∧ k ≤ 9) = false := by simpa using h
    rw [e]
    unfold rlV
    rw [if_neg (by omega), if_neg (by omega), if_neg (by omega), if_neg (by omega), if_neg (by omega), if_neg (by omega), if_neg (by omega), if_neg (by omega)]
    exact ruleOf_no k w h
end Go.Proofs.YtebkagmlhmdckaaGreat
