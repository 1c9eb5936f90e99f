/-
  Kn1: Sheets: known, of a Fault with a Why inside; literals of rows, of cells, of columns; what is told of cells that are no days.
-/
import Derived.Test.YtmgfdnccmeahjaaGreatDoorYWy2
import Derived.Test.YtmgfdnccmeahjaaGreatDoorYCx1
namespace Go.Proofs.YtmgfdnccmeahjaaGreatDoor
open Go.RowKit
set_option maxRecDepth 100000
set_option linter.unusedVariables false
set_option linter.unusedSimpArgs false
variable {rf : ByteArray → Nat → Rd}

set_option maxHeartbeats 2000000 in
theorem knownw_is (A : Nat → Addr) (f g c : Nat) (x y : Int) (n : Value) (w : World) (hT : ErT w) (h : FYw A f g c (.int .i64 x) (.int .i64 y) n w) (hA : Sn A w) (hc : 1 ≤ c ∧ c ≤ 20) :
    Calls Tryz.prog 20 #[.iface 38 (.pointer (some ⟨f, 0, none⟩)), .iface 312 (.pointer (some (A c))), .int .i64 x, .int .i64 y] w fun e w' => e = .returned (.bool true) ∧ Below w.heap.size w w' := by
  have hfl : f < w.heap.size := (Array.getElem?_eq_some_iff.1 h.1).1
  have b0 : Below w.heap.size w (w.alloc (.cells #[.pointer none] 38)) := (Below.refl _ _).alloc (Nat.le_refl _) _
  have HS := hid (as_hit ⟨f, 0, none⟩ ⟨w.heap.size, 0, none⟩ (.pointer none) (w.alloc (.cells #[.pointer none] 38)) (hT.below b0) (by simp) (by simp))
  have HH := hid h
  have HA := hid hA
  clear h hA hT b0
  go_enter Tryz.func20, Tryz.ntmps20
  go_wp2_with fail
  refine Calls.mono HS.out ?_
  rintro e w1 ⟨rfl, hw1⟩
  have kB : Below w.heap.size w w1 := by
    rw [hw1]
    exact ((((((Below.refl w.heap.size w).alloc (Nat.le_refl _) _).alloc (by simp) _).alloc (by simp; omega) _).alloc (by simp; omega) _).alloc (by simp; omega) _).setCell (p := ⟨w.heap.size, 0, none⟩) (Nat.le_refl _) _
  have c1 : w1.cell? ⟨w.heap.size, 0, none⟩ = some (.pointer (some ⟨f, 0, none⟩)) := by
    rw [hw1]
    exact World.cell?_setCell_same _ _ _ (cellA (cellA (cellA (cellA (show (w.alloc (.cells #[.pointer none] 38)).cell? ⟨w.heap.size, 0, none⟩ = some (.pointer none) by simp) _) _) _) _)
  have hf1 := HH.out.below kB
  have hi := isw_at A f g c c _ _ _ w1 hf1 (HA.out.below kB) hc hc
  rw [decide_eq_true rfl] at hi
  have HI := hid hi
  have HK := hid (kindsw_any A f g c _ _ _ w1 hf1 (HA.out.below kB) hc)
  have HF := hid hf1
  have HB := hid kB
  have hfl1 : f < w1.heap.size := (Array.getElem?_eq_some_iff.1 hf1.1).1
  clear hw1 kB hi hf1
  go_wp2_with fail
  refine Calls.mono HI.out ?_
  rintro e w2 ⟨rfl, hw⟩
  replace hw := hw.symm
  subst hw
  go_wp2_with fail
  refine Calls.mono HK.out ?_
  rintro e w3 ⟨rfl, hb3⟩
  have c3 : w3.cell? ⟨w.heap.size, 0, none⟩ = some (.pointer (some ⟨f, 0, none⟩)) := cellB hb3 c1
  have hf3 := (hb3.block f hfl1).trans HF.out.1
  have d0 : w3.cell? ⟨f, 0, none⟩ = some (.int .i64 x) := by rw [Lib.cell_of_heap hf3]; rfl
  have d1 : w3.cell? ⟨f, 1, none⟩ = some (.int .i64 y) := by rw [Lib.cell_of_heap hf3]; rfl
  have HB3 := hid (HB.out.trans (hb3.mono HB.out.size))
  clear hf3 hb3
  go_wp2
  go_ret
  exact ⟨rfl, HB3.out⟩

theorem cellN {w : World} {cs : Array Value} {t : TypeId} {g j : Nat} {u : Value} (hg : g = w.heap.size) (hj : cs[j]? = some u) : (w.alloc (.cells cs t)).cell? ⟨g, j, none⟩ = some u := by
  subst hg
  rw [Lib.cell_of_heap (heap_alloc_new w (.cells cs t)) j]
  exact hj
theorem sizeN (w : World) (o : Obj) : (w.alloc o).heap.size = w.heap.size + 1 := by simp
/-- a row of texts, laid at once -/
theorem Tx.lit (w : World) (T : List (List UInt8)) (g : Nat) (hg : g = w.heap.size) (hl : T.length ≤ 1000) : Tx (w.alloc (.cells (T.map fun t => Value.string ⟨t.toArray⟩).toArray 9)) (.slice (some ⟨g, 0, none⟩) T.length T.length) T := by
  refine ⟨_, T.length, rfl, Nat.le_refl _, by omega, fun j hj => ⟨g, 0, rfl, ?_⟩⟩
  rw [Nat.zero_add]
  exact cellN hg (by simp [hj])
/-- rows, laid at once: their rows lie there -/
theorem Rw.lit {w : World} (us : List Value) (R : List (List (List UInt8))) (g : Nat) (hg : g = w.heap.size) (hl : us.length = R.length) (h1 : R.length ≤ 1000) (h : ∀ i (h1 : i < us.length) (h2 : i < R.length), Tx w us[i] R[i]) : Rw (w.alloc (.cells us.toArray 32)) (.slice (some ⟨g, 0, none⟩) R.length R.length) R := by
  refine ⟨_, R.length, rfl, Nat.le_refl _, by omega, fun j hj => ⟨g, 0, us[j]'(by omega), rfl, ?_, (h j (by omega) hj).below ((Below.refl _ _).alloc (Nat.le_refl _) _)⟩⟩
  rw [Nat.zero_add]
  exact cellN hg (by simp [show j < us.length by omega])
theorem Rw.two (w : World) (T1 T2 : List (List UInt8)) (n : Nat) (h1 : T1.length = n) (h2 : T2.length = n) (hn : n ≤ 1000) :
    Rw (((w.alloc (.cells (T1.map fun t => Value.string ⟨t.toArray⟩).toArray 9)).alloc (.cells (T2.map fun t => Value.string ⟨t.toArray⟩).toArray 9)).alloc (.cells #[.slice (some ⟨w.heap.size, 0, none⟩) n n, .slice (some ⟨w.heap.size + 1, 0, none⟩) n n] 32)) (.slice (some ⟨w.heap.size + 1 + 1, 0, none⟩) 2 2) [T1, T2] := by
  have t1 := Tx.lit w T1 w.heap.size rfl (by omega)
  have t2 := Tx.lit (w.alloc (.cells (T1.map fun t => Value.string ⟨t.toArray⟩).toArray 9)) T2 (w.heap.size + 1) (sizeN _ _).symm (by omega)
  rw [h1] at t1
  rw [h2] at t2
  refine Rw.lit [.slice (some ⟨w.heap.size, 0, none⟩) n n, .slice (some ⟨w.heap.size + 1, 0, none⟩) n n] [T1, T2] (w.heap.size + 1 + 1) (by rw [sizeN, sizeN]) rfl (by simp) fun i q1 q2 => ?_
  match i, q1, q2 with
  | 0, _, _ => exact t1.below ((Below.refl _ _).alloc (Nat.le_refl _) _)
  | 1, _, _ => exact t2
theorem Rw.three (w : World) (T1 T2 T3 : List (List UInt8)) (n : Nat) (h1 : T1.length = n) (h2 : T2.length = n) (h3 : T3.length = n) (hn : n ≤ 1000) :
    Rw ((((w.alloc (.cells (T1.map fun t => Value.string ⟨t.toArray⟩).toArray 9)).alloc (.cells (T2.map fun t => Value.string ⟨t.toArray⟩).toArray 9)).alloc (.cells (T3.map fun t => Value.string ⟨t.toArray⟩).toArray 9)).alloc (.cells #[.slice (some ⟨w.heap.size, 0, none⟩) n n, .slice (some ⟨w.heap.size + 1, 0, none⟩) n n, .slice (some ⟨w.heap.size + 1 + 1, 0, none⟩) n n] 32)) (.slice (some ⟨w.heap.size + 1 + 1 + 1, 0, none⟩) 3 3) [T1, T2, T3] := by
  have t1 := Tx.lit w T1 w.heap.size rfl (by omega)
  have t2 := Tx.lit (w.alloc (.cells (T1.map fun t => Value.string ⟨t.toArray⟩).toArray 9)) T2 (w.heap.size + 1) (sizeN _ _).symm (by omega)
  have t3 := Tx.lit ((w.alloc (.cells (T1.map fun t => Value.string ⟨t.toArray⟩).toArray 9)).alloc (.cells (T2.map fun t => Value.string ⟨t.toArray⟩).toArray 9)) T3 (w.heap.size + 1 + 1) (by rw [sizeN, sizeN]) (by omega)
  rw [h1] at t1
  rw [h2] at t2
  rw [h3] at t3
  refine Rw.lit [.slice (some ⟨w.heap.size, 0, none⟩) n n, .slice (some ⟨w.heap.size + 1, 0, none⟩) n n, .slice (some ⟨w.heap.size + 1 + 1, 0, none⟩) n n] [T1, T2, T3] (w.heap.size + 1 + 1 + 1) (by rw [sizeN, sizeN, sizeN]) rfl (by simp) fun i q1 q2 => ?_
  match i, q1, q2 with
  | 0, _, _ => exact (t1.below ((Below.refl _ _).alloc (Nat.le_refl _) _)).below ((Below.refl _ _).alloc (Nat.le_refl _) _)
  | 1, _, _ => exact t2.below ((Below.refl _ _).alloc (Nat.le_refl _) _)
  | 2, _, _ => exact t3
/-- a row of two cells, laid at once -/
theorem CX.lit (w : World) (a b : Cl) (g : Nat) (hg : g = w.heap.size) : CX (w.alloc (.cells #[.int .i64 a.kd, .string a.tx, .int .i64 a.nu, .int .i64 b.kd, .string b.tx, .int .i64 b.nu] 52)) (.slice (some ⟨g, 0, none⟩) 2 2) [a, b] := by
  refine ⟨_, 2, rfl, Nat.le_refl _, by omega, fun j hj => ⟨g, 0, rfl, ?_⟩⟩
  match j, hj with
  | 0, _ => exact ⟨cellN hg rfl, cellN hg rfl, cellN hg rfl⟩
  | 1, _ => exact ⟨cellN hg rfl, cellN hg rfl, cellN hg rfl⟩
theorem RKc.two (w : World) (a b c d : Cl) :
    RKc (((w.alloc (.cells #[.int .i64 a.kd, .string a.tx, .int .i64 a.nu, .int .i64 b.kd, .string b.tx, .int .i64 b.nu] 52)).alloc (.cells #[.int .i64 c.kd, .string c.tx, .int .i64 c.nu, .int .i64 d.kd, .string d.tx, .int .i64 d.nu] 52)).alloc (.cells #[.slice (some ⟨w.heap.size, 0, none⟩) 2 2, .slice (some ⟨w.heap.size + 1, 0, none⟩) 2 2] 53)) (.slice (some ⟨w.heap.size + 1 + 1, 0, none⟩) 2 2) [[a, b], [c, d]] := by
  have t1 := CX.lit w a b w.heap.size rfl
  have t2 := CX.lit (w.alloc (.cells #[.int .i64 a.kd, .string a.tx, .int .i64 a.nu, .int .i64 b.kd, .string b.tx, .int .i64 b.nu] 52)) c d (w.heap.size + 1) (sizeN _ _).symm
  refine ⟨_, 2, rfl, Nat.le_refl _, by omega, fun j hj => ?_⟩
  match j, hj with
  | 0, _ => exact ⟨_, 0, _, rfl, cellN (by rw [sizeN, sizeN]) rfl, (t1.below ((Below.refl _ _).alloc (Nat.le_refl _) _)).below ((Below.refl _ _).alloc (Nat.le_refl _) _)⟩
  | 1, _ => exact ⟨_, 0, _, rfl, cellN (by rw [sizeN, sizeN]) rfl, t2.below ((Below.refl _ _).alloc (Nat.le_refl _) _)⟩
theorem RC.lit (w : World) (a b : Col) : RC (w.alloc (.cells #[.string a.nm, .int .i64 a.kd, .bool a.mu, .string b.nm, .int .i64 b.kd, .bool b.mu] 31)) (.slice (some ⟨w.heap.size, 0, none⟩) 2 2) [a, b] := by
  refine .inr ⟨w.heap.size, 0, 2, rfl, ⟨by simp, by omega⟩, fun j hj => ?_⟩
  match j, hj with
  | 0, _ => exact ⟨cellN rfl rfl, cellN rfl rfl, cellN rfl rfl⟩
  | 1, _ => exact ⟨cellN rfl rfl, cellN rfl rfl, cellN rfl rfl⟩
/-- of kinds but days -/
theorem cR_ne (hrf : RfOk rf) (s : ByteArray) (c : Col) (k : Nat) (h : s.data.toList ≠ []) (hk : c.kd = (k : Int)) (h1 : 1 ≤ k ∧ k ≤ 6) (h4 : k ≠ 4) (hs : s.size ≤ 100000000) : cR rf s c = (k, rdK s k) := by
  unfold cR
  rw [if_neg h, hk, Int.toNat_natCast, (hrf s k h1.1 h1.2 hs).2 h4]
end Go.Proofs.YtmgfdnccmeahjaaGreatDoor
