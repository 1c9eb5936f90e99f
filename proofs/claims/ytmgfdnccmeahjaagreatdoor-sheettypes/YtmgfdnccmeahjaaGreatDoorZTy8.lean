/-
  Ty8: Sheets: the program's typedCell. Laid by mkty8.py.
-/
import Derived.Test.YtmgfdnccmeahjaaGreatDoorZTy6
import Derived.Test.YtmgfdnccmeahjaaGreatDoorZTy7
namespace Go.Proofs.YtmgfdnccmeahjaaGreatDoor
open Go.RowKit
set_option maxRecDepth 100000
set_option linter.unusedVariables false
set_option linter.unusedSimpArgs false

theorem set_oldP {w : World} {g g1 o : Nat} {v : Value} {x : _} (h : w.heap[g]? = some x) (hne : g1 ≠ g) : (w.setCell ⟨g1, o, none⟩ v).heap[g]? = some x := by
  rw [heap_setCell_other _ _ _ _ (fun e => hne e.symm)]; exact h
theorem RdP.form {A : Nat → Addr} {k : Nat} {r : Rd} {w w' : World} {e : Ending} (h : RdP A k r w w' e) : ∃ (kk : Nat) (n : Int) (t : ByteArray) (ev : Value), e = .returned (.tuple #[.agg #[.int .i64 (kk : Int), .string t, .int .i64 n], ev]) := by
  rcases h with ⟨_, t, _, rfl⟩ | ⟨_, rfl⟩ | ⟨_, q, rfl, _⟩
  · exact ⟨_, _, _, _, rfl⟩
  · exact ⟨0, _, _, _, rfl⟩
  · exact ⟨0, _, _, _, rfl⟩
theorem RdP.move {A : Nat → Addr} {k : Nat} {r : Rd} {w W w5 w' : World} {e : Ending} (h : RdP A k r W w5 e) (hs : w.heap.size ≤ W.heap.size) (hk : ∀ q x, W.heap.size ≤ q → w5.heap[q]? = some x → w'.heap[q]? = some x) : RdP A k r w w' e := by
  rcases h with h | h | ⟨h1, q, h2, h3, h4⟩
  · exact .inl h
  · exact .inr (.inl h)
  · exact .inr (.inr ⟨h1, q, h2, Nat.le_trans hs h3, hk q _ h3 h4⟩)
theorem alloc_oldP {w : World} {g : Nat} {o : Obj} {x : _} (h : w.heap[g]? = some x) : (w.alloc o).heap[g]? = some x := ((Below.refl w.heap.size w).alloc (Nat.le_refl _) o).block g (Array.getElem?_eq_some_iff.1 h).1 |>.trans h
def kindsA : Array Value := #[.nilFunc, .nilFunc, .func (.func 140) #[] #[], .func (.func 141) #[] #[], .func (.func 142) #[] #[], .func (.func 143) #[] #[], .func (.func 144) #[] #[], .func (.func 145) #[] #[], .func (.func 146) #[] #[], .func (.func 147) #[] #[], .func (.func 148) #[] #[], .func (.func 149) #[] #[], .func (.func 150) #[] #[], .func (.func 151) #[] #[]]
theorem results_kinds {fn : Func} (h : fn.results = #[.cell 0 214]) (tmps : Array Value) (W : World) (g : Nat) (hp : tmps.getD 0 undef = .pointer (some ⟨g, 0, none⟩)) (hW : W.heap[g]? = some (.cells kindsA 214 (0, 0))) :
    (results fn tmps).run Tryz.prog W = .ok (.agg kindsA) W := by
  have hp' : tmps[0]?.getD undef = .pointer (some ⟨g, 0, none⟩) := by simpa using hp
  unfold kindsA at *
  have c := Lib.cell_of_heap hW
  have c0 := c 0
  have c1 := c 1
  have c2 := c 2
  have c3 := c 3
  have c4 := c 4
  have c5 := c 5
  have c6 := c 6
  have c7 := c 7
  have c8 := c 8
  have c9 := c 9
  have c10 := c 10
  have c11 := c 11
  have c12 := c 12
  have c13 := c 13
  simp [results, h, hp', asAddr, go_sem, c0, c1, c2, c3, c4, c5, c6, c7, c8, c9, c10, c11, c12, c13]
set_option maxHeartbeats 400000 in
theorem tkinds_any (w : World) :
    Calls Tryz.prog 113 #[] w fun e w' => e = .returned (.agg kindsA) ∧ Below w.heap.size w w' := by
  go_enter Tryz.func113, Tryz.ntmps113
  go_wp2
  exact ⟨rfl, _, results_kinds rfl _ _ w.heap.size rfl (heap_alloc_new w _), rfl, (Below.refl _ _).alloc (Nat.le_refl _) _⟩
theorem idx1 (w : World) : (Instr.index 214 (.agg #[.nilFunc, .nilFunc, .func (.func 140) #[] #[], .func (.func 141) #[] #[], .func (.func 142) #[] #[], .func (.func 143) #[] #[], .func (.func 144) #[] #[], .func (.func 145) #[] #[], .func (.func 146) #[] #[], .func (.func 147) #[] #[], .func (.func 148) #[] #[], .func (.func 149) #[] #[], .func (.func 150) #[] #[], .func (.func 151) #[] #[]]) (.int .i64 1)).run Tryz.prog w = .ok (.agg #[.func (.func 140) #[] #[], .func (.func 141) #[] #[]]) w := by
  kernel_rfl
theorem fld1 (w : World) : (Instr.field 213 (.agg #[.func (.func 140) #[] #[], .func (.func 141) #[] #[]]) 0).run Tryz.prog w = .ok (.func (.func 140) #[] #[]) w := by
  kernel_rfl
set_option maxHeartbeats 1000000 in
theorem typedCell1_any (A : Nat → Addr) (r : Rd) (s nm : ByteArray) (mu : Bool) (w : World) (h0 : s.data.toList ≠ [])
    (HC : ∀ W, Below w.heap.size w W → Calls Tryz.prog 140 #[.string s] W fun e w' => RdP A 1 r W w' e ∧ Below W.heap.size W w') :
    Calls Tryz.prog 81 #[.string s, .agg #[.string nm, .int .i64 1, .bool mu]] w fun e w' => RdP A 1 r w w' e ∧ Below w.heap.size w w' := by
  have e2 : (s.toList == ([] : List UInt8)) = false := by
    rw [ByteArray.toList_eq]
    cases hh : s.data.toList with
    | nil => exact absurd hh h0
    | cons c r => rfl
  have e2b : s.toList.isEmpty = false := by
    rw [ByteArray.toList_eq]
    cases hh : s.data.toList with
    | nil => exact absurd hh h0
    | cons c r => rfl
  obtain ⟨W, hW⟩ : ∃ W, (w.alloc (.cells #[.string nm, .int .i64 1, .bool mu] 31)).alloc (.cells #[.int .i64 0, .string ⟨#[]⟩, .int .i64 0] 52) = W := ⟨_, rfl⟩
  have HX := hid (show Below w.heap.size w W ∧ W.heap[w.heap.size]? = some (.cells #[.string nm, .int .i64 1, .bool mu] 31 (0, 0)) ∧ W.heap[w.heap.size + 1]? = some (.cells #[.int .i64 0, .string ⟨#[]⟩, .int .i64 0] 52 (0, 0)) by
    have h1 := heap_alloc_new w (.cells #[.string nm, .int .i64 1, .bool mu] 31)
    have b1 := (Below.refl w.heap.size w).alloc (Nat.le_refl _) (.cells #[.string nm, .int .i64 1, .bool mu] 31)
    have s1 : (w.alloc (.cells #[.string nm, .int .i64 1, .bool mu] 31)).heap.size = w.heap.size + 1 := by simp [go_sem]
    rw [← hW]
    generalize w.alloc (.cells #[.string nm, .int .i64 1, .bool mu] 31) = w1 at h1 b1 s1
    have h2 := heap_alloc_new w1 (.cells #[.int .i64 0, .string ⟨#[]⟩, .int .i64 0] 52)
    rw [s1] at h2
    exact ⟨b1.alloc b1.size _, alloc_oldP h1, h2⟩)
  have HWw := hid hW
  have HK := hid (fun w => tkinds_any w)
  have HH := hid HC
  have x1 : W.drew.cell? ⟨w.heap.size, 1, none⟩ = some (.int .i64 1) := Lib.cell_of_heap HX.out.2.1 1
  have HBd := hid HX.out.1.drew
  have HXd := hid (show W.drew.heap[w.heap.size + 1]? = some (.cells #[.int .i64 0, .string ⟨#[]⟩, .int .i64 0] 52 (0, 0)) from HX.out.2.2)
  clear HC hW h0
  go_enter Tryz.func81, Tryz.ntmps81
  go_wp2_with fail
  rw [HWw.out]
  unfold kindsA at HK
  have hix := fun w => idx1 w
  have hfx := fun w => fld1 w
  go_region_with (first
    | (go_at_call 113; refine (HK.out _).mono ?_; rintro e w5 ⟨rfl, b5⟩; have x2 := cell_old x1 b5; have HB5 := hid (HBd.out.trans (b5.mono HBd.out.size)); have HX5 := hid ((b5.block _ (Array.getElem?_eq_some_iff.1 HXd.out).1).trans HXd.out); clear b5)
    | (go_at_call 140; refine (HH.out _ ?_).mono ?_; (first | exact HB5.out | skip); rintro e w6 ⟨hp, b6⟩; obtain ⟨kk, n, t, ev, rfl⟩ := hp.form; have HB6 := hid (HB5.out.trans (b6.mono HB5.out.size)); have HX6 := hid ((b6.block _ (Array.getElem?_eq_some_iff.1 HX5.out).1).trans HX5.out); have HP6 := hid hp; have y0 := Lib.cell_of_heap HX6.out 0; have y1 := Lib.cell_of_heap HX6.out 1; have y2 := Lib.cell_of_heap HX6.out 2; have g0 := Lib.frozen_of_heap HX6.out 0; have g1 := Lib.frozen_of_heap HX6.out 1; have g2 := Lib.frozen_of_heap HX6.out 2; clear b6 hp))
  all_goals
    go_wp2
    have hlt5 := (Array.getElem?_eq_some_iff.1 HX5.out).1
    exact rd_close (k := kk) (n := n) (t := t) (g := w.heap.size + 1) rfl rfl (put3 HX6.out _ _ _) rfl ⟨RdP.move HP6.out HB5.out.size (fun q x h1 h2 => set_oldP (set_oldP (set_oldP h2 (by omega)) (by omega)) (by omega)), below3 HB6.out (by omega) _ _ _⟩
theorem idx2 (w : World) : (Instr.index 214 (.agg #[.nilFunc, .nilFunc, .func (.func 140) #[] #[], .func (.func 141) #[] #[], .func (.func 142) #[] #[], .func (.func 143) #[] #[], .func (.func 144) #[] #[], .func (.func 145) #[] #[], .func (.func 146) #[] #[], .func (.func 147) #[] #[], .func (.func 148) #[] #[], .func (.func 149) #[] #[], .func (.func 150) #[] #[], .func (.func 151) #[] #[]]) (.int .i64 2)).run Tryz.prog w = .ok (.agg #[.func (.func 142) #[] #[], .func (.func 143) #[] #[]]) w := by
  kernel_rfl
theorem fld2 (w : World) : (Instr.field 213 (.agg #[.func (.func 142) #[] #[], .func (.func 143) #[] #[]]) 0).run Tryz.prog w = .ok (.func (.func 142) #[] #[]) w := by
  kernel_rfl
set_option maxHeartbeats 1000000 in
theorem typedCell2_any (A : Nat → Addr) (r : Rd) (s nm : ByteArray) (mu : Bool) (w : World) (h0 : s.data.toList ≠ [])
    (HC : ∀ W, Below w.heap.size w W → Calls Tryz.prog 142 #[.string s] W fun e w' => RdP A 2 r W w' e ∧ Below W.heap.size W w') :
    Calls Tryz.prog 81 #[.string s, .agg #[.string nm, .int .i64 2, .bool mu]] w fun e w' => RdP A 2 r w w' e ∧ Below w.heap.size w w' := by
  have e2 : (s.toList == ([] : List UInt8)) = false := by
    rw [ByteArray.toList_eq]
    cases hh : s.data.toList with
    | nil => exact absurd hh h0
    | cons c r => rfl
  have e2b : s.toList.isEmpty = false := by
    rw [ByteArray.toList_eq]
    cases hh : s.data.toList with
    | nil => exact absurd hh h0
    | cons c r => rfl
  obtain ⟨W, hW⟩ : ∃ W, (w.alloc (.cells #[.string nm, .int .i64 2, .bool mu] 31)).alloc (.cells #[.int .i64 0, .string ⟨#[]⟩, .int .i64 0] 52) = W := ⟨_, rfl⟩
  have HX := hid (show Below w.heap.size w W ∧ W.heap[w.heap.size]? = some (.cells #[.string nm, .int .i64 2, .bool mu] 31 (0, 0)) ∧ W.heap[w.heap.size + 1]? = some (.cells #[.int .i64 0, .string ⟨#[]⟩, .int .i64 0] 52 (0, 0)) by
    have h1 := heap_alloc_new w (.cells #[.string nm, .int .i64 2, .bool mu] 31)
    have b1 := (Below.refl w.heap.size w).alloc (Nat.le_refl _) (.cells #[.string nm, .int .i64 2, .bool mu] 31)
    have s1 : (w.alloc (.cells #[.string nm, .int .i64 2, .bool mu] 31)).heap.size = w.heap.size + 1 := by simp [go_sem]
    rw [← hW]
    generalize w.alloc (.cells #[.string nm, .int .i64 2, .bool mu] 31) = w1 at h1 b1 s1
    have h2 := heap_alloc_new w1 (.cells #[.int .i64 0, .string ⟨#[]⟩, .int .i64 0] 52)
    rw [s1] at h2
    exact ⟨b1.alloc b1.size _, alloc_oldP h1, h2⟩)
  have HWw := hid hW
  have HK := hid (fun w => tkinds_any w)
  have HH := hid HC
  have x1 : W.drew.cell? ⟨w.heap.size, 1, none⟩ = some (.int .i64 2) := Lib.cell_of_heap HX.out.2.1 1
  have HBd := hid HX.out.1.drew
  have HXd := hid (show W.drew.heap[w.heap.size + 1]? = some (.cells #[.int .i64 0, .string ⟨#[]⟩, .int .i64 0] 52 (0, 0)) from HX.out.2.2)
  clear HC hW h0
  go_enter Tryz.func81, Tryz.ntmps81
  go_wp2_with fail
  rw [HWw.out]
  unfold kindsA at HK
  have hix := fun w => idx2 w
  have hfx := fun w => fld2 w
  go_region_with (first
    | (go_at_call 113; refine (HK.out _).mono ?_; rintro e w5 ⟨rfl, b5⟩; have x2 := cell_old x1 b5; have HB5 := hid (HBd.out.trans (b5.mono HBd.out.size)); have HX5 := hid ((b5.block _ (Array.getElem?_eq_some_iff.1 HXd.out).1).trans HXd.out); clear b5)
    | (go_at_call 142; refine (HH.out _ ?_).mono ?_; (first | exact HB5.out | skip); rintro e w6 ⟨hp, b6⟩; obtain ⟨kk, n, t, ev, rfl⟩ := hp.form; have HB6 := hid (HB5.out.trans (b6.mono HB5.out.size)); have HX6 := hid ((b6.block _ (Array.getElem?_eq_some_iff.1 HX5.out).1).trans HX5.out); have HP6 := hid hp; have y0 := Lib.cell_of_heap HX6.out 0; have y1 := Lib.cell_of_heap HX6.out 1; have y2 := Lib.cell_of_heap HX6.out 2; have g0 := Lib.frozen_of_heap HX6.out 0; have g1 := Lib.frozen_of_heap HX6.out 1; have g2 := Lib.frozen_of_heap HX6.out 2; clear b6 hp))
  all_goals
    go_wp2
    have hlt5 := (Array.getElem?_eq_some_iff.1 HX5.out).1
    exact rd_close (k := kk) (n := n) (t := t) (g := w.heap.size + 1) rfl rfl (put3 HX6.out _ _ _) rfl ⟨RdP.move HP6.out HB5.out.size (fun q x h1 h2 => set_oldP (set_oldP (set_oldP h2 (by omega)) (by omega)) (by omega)), below3 HB6.out (by omega) _ _ _⟩
theorem idx3 (w : World) : (Instr.index 214 (.agg #[.nilFunc, .nilFunc, .func (.func 140) #[] #[], .func (.func 141) #[] #[], .func (.func 142) #[] #[], .func (.func 143) #[] #[], .func (.func 144) #[] #[], .func (.func 145) #[] #[], .func (.func 146) #[] #[], .func (.func 147) #[] #[], .func (.func 148) #[] #[], .func (.func 149) #[] #[], .func (.func 150) #[] #[], .func (.func 151) #[] #[]]) (.int .i64 3)).run Tryz.prog w = .ok (.agg #[.func (.func 144) #[] #[], .func (.func 145) #[] #[]]) w := by
  kernel_rfl
theorem fld3 (w : World) : (Instr.field 213 (.agg #[.func (.func 144) #[] #[], .func (.func 145) #[] #[]]) 0).run Tryz.prog w = .ok (.func (.func 144) #[] #[]) w := by
  kernel_rfl
set_option maxHeartbeats 1000000 in
theorem typedCell3_any (A : Nat → Addr) (r : Rd) (s nm : ByteArray) (mu : Bool) (w : World) (h0 : s.data.toList ≠ [])
    (HC : ∀ W, Below w.heap.size w W → Calls Tryz.prog 144 #[.string s] W fun e w' => RdP A 3 r W w' e ∧ Below W.heap.size W w') :
    Calls Tryz.prog 81 #[.string s, .agg #[.string nm, .int .i64 3, .bool mu]] w fun e w' => RdP A 3 r w w' e ∧ Below w.heap.size w w' := by
  have e2 : (s.toList == ([] : List UInt8)) = false := by
    rw [ByteArray.toList_eq]
    cases hh : s.data.toList with
    | nil => exact absurd hh h0
    | cons c r => rfl
  have e2b : s.toList.isEmpty = false := by
    rw [ByteArray.toList_eq]
    cases hh : s.data.toList with
    | nil => exact absurd hh h0
    | cons c r => rfl
  obtain ⟨W, hW⟩ : ∃ W, (w.alloc (.cells #[.string nm, .int .i64 3, .bool mu] 31)).alloc (.cells #[.int .i64 0, .string ⟨#[]⟩, .int .i64 0] 52) = W := ⟨_, rfl⟩
  have HX := hid (show Below w.heap.size w W ∧ W.heap[w.heap.size]? = some (.cells #[.string nm, .int .i64 3, .bool mu] 31 (0, 0)) ∧ W.heap[w.heap.size + 1]? = some (.cells #[.int .i64 0, .string ⟨#[]⟩, .int .i64 0] 52 (0, 0)) by
    have h1 := heap_alloc_new w (.cells #[.string nm, .int .i64 3, .bool mu] 31)
    have b1 := (Below.refl w.heap.size w).alloc (Nat.le_refl _) (.cells #[.string nm, .int .i64 3, .bool mu] 31)
    have s1 : (w.alloc (.cells #[.string nm, .int .i64 3, .bool mu] 31)).heap.size = w.heap.size + 1 := by simp [go_sem]
    rw [← hW]
    generalize w.alloc (.cells #[.string nm, .int .i64 3, .bool mu] 31) = w1 at h1 b1 s1
    have h2 := heap_alloc_new w1 (.cells #[.int .i64 0, .string ⟨#[]⟩, .int .i64 0] 52)
    rw [s1] at h2
    exact ⟨b1.alloc b1.size _, alloc_oldP h1, h2⟩)
  have HWw := hid hW
  have HK := hid (fun w => tkinds_any w)
  have HH := hid HC
  have x1 : W.drew.cell? ⟨w.heap.size, 1, none⟩ = some (.int .i64 3) := Lib.cell_of_heap HX.out.2.1 1
  have HBd := hid HX.out.1.drew
  have HXd := hid (show W.drew.heap[w.heap.size + 1]? = some (.cells #[.int .i64 0, .string ⟨#[]⟩, .int .i64 0] 52 (0, 0)) from HX.out.2.2)
  clear HC hW h0
  go_enter Tryz.func81, Tryz.ntmps81
  go_wp2_with fail
  rw [HWw.out]
  unfold kindsA at HK
  have hix := fun w => idx3 w
  have hfx := fun w => fld3 w
  go_region_with (first
    | (go_at_call 113; refine (HK.out _).mono ?_; rintro e w5 ⟨rfl, b5⟩; have x2 := cell_old x1 b5; have HB5 := hid (HBd.out.trans (b5.mono HBd.out.size)); have HX5 := hid ((b5.block _ (Array.getElem?_eq_some_iff.1 HXd.out).1).trans HXd.out); clear b5)
    | (go_at_call 144; refine (HH.out _ ?_).mono ?_; (first | exact HB5.out | skip); rintro e w6 ⟨hp, b6⟩; obtain ⟨kk, n, t, ev, rfl⟩ := hp.form; have HB6 := hid (HB5.out.trans (b6.mono HB5.out.size)); have HX6 := hid ((b6.block _ (Array.getElem?_eq_some_iff.1 HX5.out).1).trans HX5.out); have HP6 := hid hp; have y0 := Lib.cell_of_heap HX6.out 0; have y1 := Lib.cell_of_heap HX6.out 1; have y2 := Lib.cell_of_heap HX6.out 2; have g0 := Lib.frozen_of_heap HX6.out 0; have g1 := Lib.frozen_of_heap HX6.out 1; have g2 := Lib.frozen_of_heap HX6.out 2; clear b6 hp))
  all_goals
    go_wp2
    have hlt5 := (Array.getElem?_eq_some_iff.1 HX5.out).1
    exact rd_close (k := kk) (n := n) (t := t) (g := w.heap.size + 1) rfl rfl (put3 HX6.out _ _ _) rfl ⟨RdP.move HP6.out HB5.out.size (fun q x h1 h2 => set_oldP (set_oldP (set_oldP h2 (by omega)) (by omega)) (by omega)), below3 HB6.out (by omega) _ _ _⟩
theorem idx4 (w : World) : (Instr.index 214 (.agg #[.nilFunc, .nilFunc, .func (.func 140) #[] #[], .func (.func 141) #[] #[], .func (.func 142) #[] #[], .func (.func 143) #[] #[], .func (.func 144) #[] #[], .func (.func 145) #[] #[], .func (.func 146) #[] #[], .func (.func 147) #[] #[], .func (.func 148) #[] #[], .func (.func 149) #[] #[], .func (.func 150) #[] #[], .func (.func 151) #[] #[]]) (.int .i64 4)).run Tryz.prog w = .ok (.agg #[.func (.func 146) #[] #[], .func (.func 147) #[] #[]]) w := by
  kernel_rfl
theorem fld4 (w : World) : (Instr.field 213 (.agg #[.func (.func 146) #[] #[], .func (.func 147) #[] #[]]) 0).run Tryz.prog w = .ok (.func (.func 146) #[] #[]) w := by
  kernel_rfl
set_option maxHeartbeats 1000000 in
theorem typedCell4_any (A : Nat → Addr) (r : Rd) (s nm : ByteArray) (mu : Bool) (w : World) (h0 : s.data.toList ≠ [])
    (HC : ∀ W, Below w.heap.size w W → Calls Tryz.prog 146 #[.string s] W fun e w' => RdP A 4 r W w' e ∧ Below W.heap.size W w') :
    Calls Tryz.prog 81 #[.string s, .agg #[.string nm, .int .i64 4, .bool mu]] w fun e w' => RdP A 4 r w w' e ∧ Below w.heap.size w w' := by
  have e2 : (s.toList == ([] : List UInt8)) = false := by
    rw [ByteArray.toList_eq]
    cases hh : s.data.toList with
    | nil => exact absurd hh h0
    | cons c r => rfl
  have e2b : s.toList.isEmpty = false := by
    rw [ByteArray.toList_eq]
    cases hh : s.data.toList with
    | nil => exact absurd hh h0
    | cons c r => rfl
  obtain ⟨W, hW⟩ : ∃ W, (w.alloc (.cells #[.string nm, .int .i64 4, .bool mu] 31)).alloc (.cells #[.int .i64 0, .string ⟨#[]⟩, .int .i64 0] 52) = W := ⟨_, rfl⟩
  have HX := hid (show Below w.heap.size w W ∧ W.heap[w.heap.size]? = some (.cells #[.string nm, .int .i64 4, .bool mu] 31 (0, 0)) ∧ W.heap[w.heap.size + 1]? = some (.cells #[.int .i64 0, .string ⟨#[]⟩, .int .i64 0] 52 (0, 0)) by
    have h1 := heap_alloc_new w (.cells #[.string nm, .int .i64 4, .bool mu] 31)
    have b1 := (Below.refl w.heap.size w).alloc (Nat.le_refl _) (.cells #[.string nm, .int .i64 4, .bool mu] 31)
    have s1 : (w.alloc (.cells #[.string nm, .int .i64 4, .bool mu] 31)).heap.size = w.heap.size + 1 := by simp [go_sem]
    rw [← hW]
    generalize w.alloc (.cells #[.string nm, .int .i64 4, .bool mu] 31) = w1 at h1 b1 s1
    have h2 := heap_alloc_new w1 (.cells #[.int .i64 0, .string ⟨#[]⟩, .int .i64 0] 52)
    rw [s1] at h2
    exact ⟨b1.alloc b1.size _, alloc_oldP h1, h2⟩)
  have HWw := hid hW
  have HK := hid (fun w => tkinds_any w)
  have HH := hid HC
  have x1 : W.drew.cell? ⟨w.heap.size, 1, none⟩ = some (.int .i64 4) := Lib.cell_of_heap HX.out.2.1 1
  have HBd := hid HX.out.1.drew
  have HXd := hid (show W.drew.heap[w.heap.size + 1]? = some (.cells #[.int .i64 0, .string ⟨#[]⟩, .int .i64 0] 52 (0, 0)) from HX.out.2.2)
  clear HC hW h0
  go_enter Tryz.func81, Tryz.ntmps81
  go_wp2_with fail
  rw [HWw.out]
  unfold kindsA at HK
  have hix := fun w => idx4 w
  have hfx := fun w => fld4 w
  go_region_with (first
    | (go_at_call 113; refine (HK.out _).mono ?_; rintro e w5 ⟨rfl, b5⟩; have x2 := cell_old x1 b5; have HB5 := hid (HBd.out.trans (b5.mono HBd.out.size)); have HX5 := hid ((b5.block _ (Array.getElem?_eq_some_iff.1 HXd.out).1).trans HXd.out); clear b5)
    | (go_at_call 146; refine (HH.out _ ?_).mono ?_; (first | exact HB5.out | skip); rintro e w6 ⟨hp, b6⟩; obtain ⟨kk, n, t, ev, rfl⟩ := hp.form; have HB6 := hid (HB5.out.trans (b6.mono HB5.out.size)); have HX6 := hid ((b6.block _ (Array.getElem?_eq_some_iff.1 HX5.out).1).trans HX5.out); have HP6 := hid hp; have y0 := Lib.cell_of_heap HX6.out 0; have y1 := Lib.cell_of_heap HX6.out 1; have y2 := Lib.cell_of_heap HX6.out 2; have g0 := Lib.frozen_of_heap HX6.out 0; have g1 := Lib.frozen_of_heap HX6.out 1; have g2 := Lib.frozen_of_heap HX6.out 2; clear b6 hp))
  all_goals
    go_wp2
    have hlt5 := (Array.getElem?_eq_some_iff.1 HX5.out).1
    exact rd_close (k := kk) (n := n) (t := t) (g := w.heap.size + 1) rfl rfl (put3 HX6.out _ _ _) rfl ⟨RdP.move HP6.out HB5.out.size (fun q x h1 h2 => set_oldP (set_oldP (set_oldP h2 (by omega)) (by omega)) (by omega)), below3 HB6.out (by omega) _ _ _⟩
theorem idx5 (w : World) : (Instr.index 214 (.agg #[.nilFunc, .nilFunc, .func (.func 140) #[] #[], .func (.func 141) #[] #[], .func (.func 142) #[] #[], .func (.func 143) #[] #[], .func (.func 144) #[] #[], .func (.func 145) #[] #[], .func (.func 146) #[] #[], .func (.func 147) #[] #[], .func (.func 148) #[] #[], .func (.func 149) #[] #[], .func (.func 150) #[] #[], .func (.func 151) #[] #[]]) (.int .i64 5)).run Tryz.prog w = .ok (.agg #[.func (.func 148) #[] #[], .func (.func 149) #[] #[]]) w := by
  kernel_rfl
theorem fld5 (w : World) : (Instr.field 213 (.agg #[.func (.func 148) #[] #[], .func (.func 149) #[] #[]]) 0).run Tryz.prog w = .ok (.func (.func 148) #[] #[]) w := by
  kernel_rfl
set_option maxHeartbeats 1000000 in
theorem typedCell5_any (A : Nat → Addr) (r : Rd) (s nm : ByteArray) (mu : Bool) (w : World) (h0 : s.data.toList ≠ [])
    (HC : ∀ W, Below w.heap.size w W → Calls Tryz.prog 148 #[.string s] W fun e w' => RdP A 5 r W w' e ∧ Below W.heap.size W w') :
    Calls Tryz.prog 81 #[.string s, .agg #[.string nm, .int .i64 5, .bool mu]] w fun e w' => RdP A 5 r w w' e ∧ Below w.heap.size w w' := by
  have e2 : (s.toList == ([] : List UInt8)) = false := by
    rw [ByteArray.toList_eq]
    cases hh : s.data.toList with
    | nil => exact absurd hh h0
    | cons c r => rfl
  have e2b : s.toList.isEmpty = false := by
    rw [ByteArray.toList_eq]
    cases hh : s.data.toList with
    | nil => exact absurd hh h0
    | cons c r => rfl
  obtain ⟨W, hW⟩ : ∃ W, (w.alloc (.cells #[.string nm, .int .i64 5, .bool mu] 31)).alloc (.cells #[.int .i64 0, .string ⟨#[]⟩, .int .i64 0] 52) = W := ⟨_, rfl⟩
  have HX := hid (show Below w.heap.size w W ∧ W.heap[w.heap.size]? = some (.cells #[.string nm, .int .i64 5, .bool mu] 31 (0, 0)) ∧ W.heap[w.heap.size + 1]? = some (.cells #[.int .i64 0, .string ⟨#[]⟩, .int .i64 0] 52 (0, 0)) by
    have h1 := heap_alloc_new w (.cells #[.string nm, .int .i64 5, .bool mu] 31)
    have b1 := (Below.refl w.heap.size w).alloc (Nat.le_refl _) (.cells #[.string nm, .int .i64 5, .bool mu] 31)
    have s1 : (w.alloc (.cells #[.string nm, .int .i64 5, .bool mu] 31)).heap.size = w.heap.size + 1 := by simp [go_sem]
    rw [← hW]
    generalize w.alloc (.cells #[.string nm, .int .i64 5, .bool mu] 31) = w1 at h1 b1 s1
    have h2 := heap_alloc_new w1 (.cells #[.int .i64 0, .string ⟨#[]⟩, .int .i64 0] 52)
    rw [s1] at h2
    exact ⟨b1.alloc b1.size _, alloc_oldP h1, h2⟩)
  have HWw := hid hW
  have HK := hid (fun w => tkinds_any w)
  have HH := hid HC
  have x1 : W.drew.cell? ⟨w.heap.size, 1, none⟩ = some (.int .i64 5) := Lib.cell_of_heap HX.out.2.1 1
  have HBd := hid HX.out.1.drew
  have HXd := hid (show W.drew.heap[w.heap.size + 1]? = some (.cells #[.int .i64 0, .string ⟨#[]⟩, .int .i64 0] 52 (0, 0)) from HX.out.2.2)
  clear HC hW h0
  go_enter Tryz.func81, Tryz.ntmps81
  go_wp2_with fail
  rw [HWw.out]
  unfold kindsA at HK
  have hix := fun w => idx5 w
  have hfx := fun w => fld5 w
  go_region_with (first
    | (go_at_call 113; refine (HK.out _).mono ?_; rintro e w5 ⟨rfl, b5⟩; have x2 := cell_old x1 b5; have HB5 := hid (HBd.out.trans (b5.mono HBd.out.size)); have HX5 := hid ((b5.block _ (Array.getElem?_eq_some_iff.1 HXd.out).1).trans HXd.out); clear b5)
    | (go_at_call 148; refine (HH.out _ ?_).mono ?_; (first | exact HB5.out | skip); rintro e w6 ⟨hp, b6⟩; obtain ⟨kk, n, t, ev, rfl⟩ := hp.form; have HB6 := hid (HB5.out.trans (b6.mono HB5.out.size)); have HX6 := hid ((b6.block _ (Array.getElem?_eq_some_iff.1 HX5.out).1).trans HX5.out); have HP6 := hid hp; have y0 := Lib.cell_of_heap HX6.out 0; have y1 := Lib.cell_of_heap HX6.out 1; have y2 := Lib.cell_of_heap HX6.out 2; have g0 := Lib.frozen_of_heap HX6.out 0; have g1 := Lib.frozen_of_heap HX6.out 1; have g2 := Lib.frozen_of_heap HX6.out 2; clear b6 hp))
  all_goals
    go_wp2
    have hlt5 := (Array.getElem?_eq_some_iff.1 HX5.out).1
    exact rd_close (k := kk) (n := n) (t := t) (g := w.heap.size + 1) rfl rfl (put3 HX6.out _ _ _) rfl ⟨RdP.move HP6.out HB5.out.size (fun q x h1 h2 => set_oldP (set_oldP (set_oldP h2 (by omega)) (by omega)) (by omega)), below3 HB6.out (by omega) _ _ _⟩
theorem idx6 (w : World) : (Instr.index 214 (.agg #[.nilFunc, .nilFunc, .func (.func 140) #[] #[], .func (.func 141) #[] #[], .func (.func 142) #[] #[], .func (.func 143) #[] #[], .func (.func 144) #[] #[], .func (.func 145) #[] #[], .func (.func 146) #[] #[], .func (.func 147) #[] #[], .func (.func 148) #[] #[], .func (.func 149) #[] #[], .func (.func 150) #[] #[], .func (.func 151) #[] #[]]) (.int .i64 6)).run Tryz.prog w = .ok (.agg #[.func (.func 150) #[] #[], .func (.func 151) #[] #[]]) w := by
  kernel_rfl
theorem fld6 (w : World) : (Instr.field 213 (.agg #[.func (.func 150) #[] #[], .func (.func 151) #[] #[]]) 0).run Tryz.prog w = .ok (.func (.func 150) #[] #[]) w := by
  kernel_rfl
set_option maxHeartbeats 1000000 in
theorem typedCell6_any (A : Nat → Addr) (r : Rd) (s nm : ByteArray) (mu : Bool) (w : World) (h0 : s.data.toList ≠ [])
    (HC : ∀ W, Below w.heap.size w W → Calls Tryz.prog 150 #[.string s] W fun e w' => RdP A 6 r W w' e ∧ Below W.heap.size W w') :
    Calls Tryz.prog 81 #[.string s, .agg #[.string nm, .int .i64 6, .bool mu]] w fun e w' => RdP A 6 r w w' e ∧ Below w.heap.size w w' := by
  have e2 : (s.toList == ([] : List UInt8)) = false := by
    rw [ByteArray.toList_eq]
    cases hh : s.data.toList with
    | nil => exact absurd hh h0
    | cons c r => rfl
  have e2b : s.toList.isEmpty = false := by
    rw [ByteArray.toList_eq]
    cases hh : s.data.toList with
    | nil => exact absurd hh h0
    | cons c r => rfl
  obtain ⟨W, hW⟩ : ∃ W, (w.alloc (.cells #[.string nm, .int .i64 6, .bool mu] 31)).alloc (.cells #[.int .i64 0, .string ⟨#[]⟩, .int .i64 0] 52) = W := ⟨_, rfl⟩
  have HX := hid (show Below w.heap.size w W ∧ W.heap[w.heap.size]? = some (.cells #[.string nm, .int .i64 6, .bool mu] 31 (0, 0)) ∧ W.heap[w.heap.size + 1]? = some (.cells #[.int .i64 0, .string ⟨#[]⟩, .int .i64 0] 52 (0, 0)) by
    have h1 := heap_alloc_new w (.cells #[.string nm, .int .i64 6, .bool mu] 31)
    have b1 := (Below.refl w.heap.size w).alloc (Nat.le_refl _) (.cells #[.string nm, .int .i64 6, .bool mu] 31)
    have s1 : (w.alloc (.cells #[.string nm, .int .i64 6, .bool mu] 31)).heap.size = w.heap.size + 1 := by simp [go_sem]
    rw [← hW]
    generalize w.alloc (.cells #[.string nm, .int .i64 6, .bool mu] 31) = w1 at h1 b1 s1
    have h2 := heap_alloc_new w1 (.cells #[.int .i64 0, .string ⟨#[]⟩, .int .i64 0] 52)
    rw [s1] at h2
    exact ⟨b1.alloc b1.size _, alloc_oldP h1, h2⟩)
  have HWw := hid hW
  have HK := hid (fun w => tkinds_any w)
  have HH := hid HC
  have x1 : W.drew.cell? ⟨w.heap.size, 1, none⟩ = some (.int .i64 6) := Lib.cell_of_heap HX.out.2.1 1
  have HBd := hid HX.out.1.drew
  have HXd := hid (show W.drew.heap[w.heap.size + 1]? = some (.cells #[.int .i64 0, .string ⟨#[]⟩, .int .i64 0] 52 (0, 0)) from HX.out.2.2)
  clear HC hW h0
  go_enter Tryz.func81, Tryz.ntmps81
  go_wp2_with fail
  rw [HWw.out]
  unfold kindsA at HK
  have hix := fun w => idx6 w
  have hfx := fun w => fld6 w
  go_region_with (first
    | (go_at_call 113; refine (HK.out _).mono ?_; rintro e w5 ⟨rfl, b5⟩; have x2 := cell_old x1 b5; have HB5 := hid (HBd.out.trans (b5.mono HBd.out.size)); have HX5 := hid ((b5.block _ (Array.getElem?_eq_some_iff.1 HXd.out).1).trans HXd.out); clear b5)
    | (go_at_call 150; refine (HH.out _ ?_).mono ?_; (first | exact HB5.out | skip); rintro e w6 ⟨hp, b6⟩; obtain ⟨kk, n, t, ev, rfl⟩ := hp.form; have HB6 := hid (HB5.out.trans (b6.mono HB5.out.size)); have HX6 := hid ((b6.block _ (Array.getElem?_eq_some_iff.1 HX5.out).1).trans HX5.out); have HP6 := hid hp; have y0 := Lib.cell_of_heap HX6.out 0; have y1 := Lib.cell_of_heap HX6.out 1; have y2 := Lib.cell_of_heap HX6.out 2; have g0 := Lib.frozen_of_heap HX6.out 0; have g1 := Lib.frozen_of_heap HX6.out 1; have g2 := Lib.frozen_of_heap HX6.out 2; clear b6 hp))
  all_goals
    go_wp2
    have hlt5 := (Array.getElem?_eq_some_iff.1 HX5.out).1
    exact rd_close (k := kk) (n := n) (t := t) (g := w.heap.size + 1) rfl rfl (put3 HX6.out _ _ _) rfl ⟨RdP.move HP6.out HB5.out.size (fun q x h1 h2 => set_oldP (set_oldP (set_oldP h2 (by omega)) (by omega)) (by omega)), below3 HB6.out (by omega) _ _ _⟩
/-- an empty cell -/
theorem typedEmpty_any (A : Nat → Addr) (s nm : ByteArray) (k : Int) (mu : Bool) (w : World) (h0 : s.data.toList = []) (hA : Sn A w) :
    Calls Tryz.prog 81 #[.string s, .agg #[.string nm, .int .i64 k, .bool mu]] w fun e w' => RdP A 0 (if mu then (13, 0, [], 0) else (0, 0, [], 0)) w w' e ∧ Below w.heap.size w w' := by
  have e2 : (s.toList == ([] : List UInt8)) = true := by rw [ByteArray.toList_eq, h0]; rfl
  have e2b : s.toList.isEmpty = true := by rw [ByteArray.toList_eq, h0]; rfl
  obtain ⟨W, hW⟩ : ∃ W, (w.alloc (.cells #[.string nm, .int .i64 k, .bool mu] 31)).alloc (.cells #[.int .i64 0, .string ⟨#[]⟩, .int .i64 0] 52) = W := ⟨_, rfl⟩
  have HX := hid (show Below w.heap.size w W ∧ W.heap[w.heap.size]? = some (.cells #[.string nm, .int .i64 k, .bool mu] 31 (0, 0)) ∧ W.heap[w.heap.size + 1]? = some (.cells #[.int .i64 0, .string ⟨#[]⟩, .int .i64 0] 52 (0, 0)) by
    have h1 := heap_alloc_new w (.cells #[.string nm, .int .i64 k, .bool mu] 31)
    have b1 := (Below.refl w.heap.size w).alloc (Nat.le_refl _) (.cells #[.string nm, .int .i64 k, .bool mu] 31)
    have s1 : (w.alloc (.cells #[.string nm, .int .i64 k, .bool mu] 31)).heap.size = w.heap.size + 1 := by simp [go_sem]
    rw [← hW]
    generalize w.alloc (.cells #[.string nm, .int .i64 k, .bool mu] 31) = w1 at h1 b1 s1
    have h2 := heap_alloc_new w1 (.cells #[.int .i64 0, .string ⟨#[]⟩, .int .i64 0] 52)
    rw [s1] at h2
    exact ⟨b1.alloc b1.size _, alloc_oldP h1, h2⟩)
  have hc13 := (hA.below HX.out.1).cellAt (c := 13) (by decide) (by decide)
  rw [show gV 13 = 15 from rfl] at hc13
  have hlt : 15 < w.heap.size := World.block_lt_of_cell? _ _ (hA.cellAt (c := 13) (by decide) (by decide))
  have ne1 : ¬ (15 = w.heap.size) := by omega
  have ne2 : ¬ (15 = w.heap.size + 1) := by omega
  have ne3 : ¬ (w.heap.size = 15) := by omega
  have ne4 : ¬ (w.heap.size + 1 = 15) := by omega
  have x2 : W.cell? ⟨w.heap.size, 2, none⟩ = some (.bool mu) := Lib.cell_of_heap HX.out.2.1 2
  have y0 := Lib.cell_of_heap HX.out.2.2 0
  have y1 := Lib.cell_of_heap HX.out.2.2 1
  have y2 := Lib.cell_of_heap HX.out.2.2 2
  have g0 := Lib.frozen_of_heap HX.out.2.2 0
  have g1 := Lib.frozen_of_heap HX.out.2.2 1
  have g2 := Lib.frozen_of_heap HX.out.2.2 2
  have HWw := hid hW
  have HPut := hid (put3 HX.out.2.2 (.int .i64 0) (.string ⟨#[]⟩) (.int .i64 0))
  have HBe := hid (below3 HX.out.1 (Nat.le_succ _) (.int .i64 0) (.string ⟨#[]⟩) (.int .i64 0))
  clear hW h0 hA hlt
  cases mu with
  | true =>
    go_enter Tryz.func81, Tryz.ntmps81
    go_upto_region 4 with fail
    rw [HWw.out]
    go_region
    all_goals
      go_wp2
      exact rd_close (k := 0) (g := w.heap.size + 1) rfl rfl HPut.out rfl ⟨.inr (.inl ⟨by decide, rfl⟩), HBe.out.drew⟩
  | false =>
    go_enter Tryz.func81, Tryz.ntmps81
    go_wp2
    rw [HWw.out]
    exact rd_close (k := 0) (g := w.heap.size + 1) rfl rfl HX.out.2.2 rfl ⟨.inl ⟨rfl, ⟨#[]⟩, rfl, rfl⟩, HX.out.1⟩
end Go.Proofs.YtmgfdnccmeahjaaGreatDoor
