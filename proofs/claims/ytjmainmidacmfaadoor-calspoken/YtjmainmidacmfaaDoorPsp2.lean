/-
  ParseSpan, out of readSpan.
-/
import Derived.Test.YtjmainmidacmfaaDoorPsp
namespace Go.Proofs.YtjmainmidacmfaaDoor
open Go.RowKit
set_option maxRecDepth 100000

theorem parseSpan_long (t : ByteArray) (ht : 64 < t.size) (w : World) : Calls Tryd.prog 10 #[.string t] w fun e w' => e = .returned (sT zs7 1 0) ∧ Below w.heap.size w w' := by
  have hB := alloc_belowS w (.cells #[.int .i64 0, .int .i64 0, .int .i64 0, .int .i64 0, .int .i64 0, .int .i64 0, .int .i64 0] 23)
  go_enter Tryd.func10, Tryd.ntmps10
  go_wp2
  refine bodyPost_ret (by simp [results, Tryd.results10, go_sem]; try rfl) rfl ?_
  exact ⟨rfl, hB⟩

set_option maxHeartbeats 1000000 in
theorem parseSpan_short (t : ByteArray) (ht : t.size ≤ 64) (h : (spR t.data.toList).2 < t.size) (w : World) (hE : HasES w) : Calls Tryd.prog 10 #[.string t] w fun e w' => e = .returned (sT zs7 34 ((spR t.data.toList).2 : Nat)) ∧ Below w.heap.size w w' := by
  have hEA := hE.below (alloc_belowS w (.cells #[.int .i64 0, .int .i64 0, .int .i64 0, .int .i64 0, .int .i64 0, .int .i64 0, .int .i64 0] 23))
  have HR := hid (readSpan_any t ht (w.alloc (.cells #[.int .i64 0, .int .i64 0, .int .i64 0, .int .i64 0, .int .i64 0, .int .i64 0, .int .i64 0] 23)) hEA)
  obtain ⟨a0, a1, a2, a3, a4, a5, a6, hs⟩ := list7 (spR_len t.data.toList).2
  obtain ⟨r, hr⟩ : ∃ r, r = (spR t.data.toList).2 := ⟨_, rfl⟩
  have hrl := (spR_len t.data.toList).1
  rw [Array.length_toList] at hrl
  have hrl' : (spR t.data.toList).2 ≤ t.size := hrl
  rw [← hr] at HR hrl'
  rw [hs] at HR
  rw [← hr] at h ⊢
  clear hrl hrl' hr hs
  clear hE hEA
  unfold sT lV at *
  simp only [List.map_cons, List.map_nil] at HR ⊢
  go_enter Tryd.func10, Tryd.ntmps10
  go_wp2_with fail
  refine HR.out.mono ?_
  rintro e w1 ⟨rfl, hb⟩
  have HX := hid ((show LBox _ w.heap.size zs7 from heap_alloc_new w (.cells #[.int .i64 0, .int .i64 0, .int .i64 0, .int .i64 0, .int .i64 0, .int .i64 0, .int .i64 0] 23)).later hb)
  have HB1 := hid ((alloc_belowS w (.cells #[.int .i64 0, .int .i64 0, .int .i64 0, .int .i64 0, .int .i64 0, .int .i64 0, .int .i64 0] 23)).trans (hb.mono (by simp)))
  clear hb HR
  have hbx := HX.out.later (alloc_belowS w1 (.cells #[.int .i64 a0, .int .i64 a1, .int .i64 a2, .int .i64 a3, .int .i64 a4, .int .i64 a5, .int .i64 a6] 23))
  have HB := hid (HB1.out.alloc HB1.out.size (.cells #[.int .i64 a0, .int .i64 a1, .int .i64 a2, .int .i64 a3, .int .i64 a4, .int .i64 a5, .int .i64 a6] 23))
  have c0 : World.cell? _ ⟨w.heap.size, 0, none⟩ = some (.int .i64 0) := hbx.cell 0 (show 0 < 7 by omega)
  have z0 := hbx.soft 0
  have c1 : World.cell? _ ⟨w.heap.size, 1, none⟩ = some (.int .i64 0) := hbx.cell 1 (show 1 < 7 by omega)
  have z1 := hbx.soft 1
  have c2 : World.cell? _ ⟨w.heap.size, 2, none⟩ = some (.int .i64 0) := hbx.cell 2 (show 2 < 7 by omega)
  have z2 := hbx.soft 2
  have c3 : World.cell? _ ⟨w.heap.size, 3, none⟩ = some (.int .i64 0) := hbx.cell 3 (show 3 < 7 by omega)
  have z3 := hbx.soft 3
  have c4 : World.cell? _ ⟨w.heap.size, 4, none⟩ = some (.int .i64 0) := hbx.cell 4 (show 4 < 7 by omega)
  have z4 := hbx.soft 4
  have c5 : World.cell? _ ⟨w.heap.size, 5, none⟩ = some (.int .i64 0) := hbx.cell 5 (show 5 < 7 by omega)
  have z5 := hbx.soft 5
  have c6 : World.cell? _ ⟨w.heap.size, 6, none⟩ = some (.int .i64 0) := hbx.cell 6 (show 6 < 7 by omega)
  have z6 := hbx.soft 6
  have q7 := (((((((hbx.put 0 0).put 1 0).put 2 0).put 3 0).put 4 0).put 5 0).put 6 0)
  have d0 : World.cell? _ ⟨w.heap.size, 0, none⟩ = some (.int .i64 0) := q7.cell 0 (show 0 < 7 by omega)
  have d1 : World.cell? _ ⟨w.heap.size, 1, none⟩ = some (.int .i64 0) := q7.cell 1 (show 1 < 7 by omega)
  have d2 : World.cell? _ ⟨w.heap.size, 2, none⟩ = some (.int .i64 0) := q7.cell 2 (show 2 < 7 by omega)
  have d3 : World.cell? _ ⟨w.heap.size, 3, none⟩ = some (.int .i64 0) := q7.cell 3 (show 3 < 7 by omega)
  have d4 : World.cell? _ ⟨w.heap.size, 4, none⟩ = some (.int .i64 0) := q7.cell 4 (show 4 < 7 by omega)
  have d5 : World.cell? _ ⟨w.heap.size, 5, none⟩ = some (.int .i64 0) := q7.cell 5 (show 5 < 7 by omega)
  have d6 : World.cell? _ ⟨w.heap.size, 6, none⟩ = some (.int .i64 0) := q7.cell 6 (show 6 < 7 by omega)
  clear hbx q7
  go_wp2
  refine bodyPost_ret (by simp [results, Tryd.results10, go_sem, d0, d1, d2, d3, d4, d5, d6]; try rfl) rfl ?_
  exact ⟨rfl, ((((((HB.out.setCell (Nat.le_refl _) _).setCell (Nat.le_refl _) _).setCell (Nat.le_refl _) _).setCell (Nat.le_refl _) _).setCell (Nat.le_refl _) _).setCell (Nat.le_refl _) _).setCell (Nat.le_refl _) _⟩

set_option maxHeartbeats 1000000 in
theorem parseSpan_zero (t : ByteArray) (ht : t.size ≤ 64) (h : t.size = 0) (w : World) (hE : HasES w) : Calls Tryd.prog 10 #[.string t] w fun e w' => e = .returned (sT zs7 34 ((spR t.data.toList).2 : Nat)) ∧ Below w.heap.size w w' := by
  have hEA := hE.below (alloc_belowS w (.cells #[.int .i64 0, .int .i64 0, .int .i64 0, .int .i64 0, .int .i64 0, .int .i64 0, .int .i64 0] 23))
  have HR := hid (readSpan_any t ht (w.alloc (.cells #[.int .i64 0, .int .i64 0, .int .i64 0, .int .i64 0, .int .i64 0, .int .i64 0, .int .i64 0] 23)) hEA)
  obtain ⟨a0, a1, a2, a3, a4, a5, a6, hs⟩ := list7 (spR_len t.data.toList).2
  obtain ⟨r, hr⟩ : ∃ r, r = (spR t.data.toList).2 := ⟨_, rfl⟩
  have hrl := (spR_len t.data.toList).1
  rw [Array.length_toList] at hrl
  have hrl' : (spR t.data.toList).2 ≤ t.size := hrl
  rw [← hr] at HR hrl'
  rw [hs] at HR
  have h0 : r = 0 := by omega
  subst h0
  rw [← hr]
  clear hrl hrl' hr hs
  clear hE hEA
  unfold sT lV at *
  simp only [List.map_cons, List.map_nil] at HR ⊢
  go_enter Tryd.func10, Tryd.ntmps10
  go_wp2_with fail
  refine HR.out.mono ?_
  rintro e w1 ⟨rfl, hb⟩
  have HX := hid ((show LBox _ w.heap.size zs7 from heap_alloc_new w (.cells #[.int .i64 0, .int .i64 0, .int .i64 0, .int .i64 0, .int .i64 0, .int .i64 0, .int .i64 0] 23)).later hb)
  have HB1 := hid ((alloc_belowS w (.cells #[.int .i64 0, .int .i64 0, .int .i64 0, .int .i64 0, .int .i64 0, .int .i64 0, .int .i64 0] 23)).trans (hb.mono (by simp)))
  clear hb HR
  have hbx := HX.out.later (alloc_belowS w1 (.cells #[.int .i64 a0, .int .i64 a1, .int .i64 a2, .int .i64 a3, .int .i64 a4, .int .i64 a5, .int .i64 a6] 23))
  have HB := hid (HB1.out.alloc HB1.out.size (.cells #[.int .i64 a0, .int .i64 a1, .int .i64 a2, .int .i64 a3, .int .i64 a4, .int .i64 a5, .int .i64 a6] 23))
  have c0 : World.cell? _ ⟨w.heap.size, 0, none⟩ = some (.int .i64 0) := hbx.cell 0 (show 0 < 7 by omega)
  have z0 := hbx.soft 0
  have c1 : World.cell? _ ⟨w.heap.size, 1, none⟩ = some (.int .i64 0) := hbx.cell 1 (show 1 < 7 by omega)
  have z1 := hbx.soft 1
  have c2 : World.cell? _ ⟨w.heap.size, 2, none⟩ = some (.int .i64 0) := hbx.cell 2 (show 2 < 7 by omega)
  have z2 := hbx.soft 2
  have c3 : World.cell? _ ⟨w.heap.size, 3, none⟩ = some (.int .i64 0) := hbx.cell 3 (show 3 < 7 by omega)
  have z3 := hbx.soft 3
  have c4 : World.cell? _ ⟨w.heap.size, 4, none⟩ = some (.int .i64 0) := hbx.cell 4 (show 4 < 7 by omega)
  have z4 := hbx.soft 4
  have c5 : World.cell? _ ⟨w.heap.size, 5, none⟩ = some (.int .i64 0) := hbx.cell 5 (show 5 < 7 by omega)
  have z5 := hbx.soft 5
  have c6 : World.cell? _ ⟨w.heap.size, 6, none⟩ = some (.int .i64 0) := hbx.cell 6 (show 6 < 7 by omega)
  have z6 := hbx.soft 6
  have q7 := (((((((hbx.put 0 0).put 1 0).put 2 0).put 3 0).put 4 0).put 5 0).put 6 0)
  have d0 : World.cell? _ ⟨w.heap.size, 0, none⟩ = some (.int .i64 0) := q7.cell 0 (show 0 < 7 by omega)
  have d1 : World.cell? _ ⟨w.heap.size, 1, none⟩ = some (.int .i64 0) := q7.cell 1 (show 1 < 7 by omega)
  have d2 : World.cell? _ ⟨w.heap.size, 2, none⟩ = some (.int .i64 0) := q7.cell 2 (show 2 < 7 by omega)
  have d3 : World.cell? _ ⟨w.heap.size, 3, none⟩ = some (.int .i64 0) := q7.cell 3 (show 3 < 7 by omega)
  have d4 : World.cell? _ ⟨w.heap.size, 4, none⟩ = some (.int .i64 0) := q7.cell 4 (show 4 < 7 by omega)
  have d5 : World.cell? _ ⟨w.heap.size, 5, none⟩ = some (.int .i64 0) := q7.cell 5 (show 5 < 7 by omega)
  have d6 : World.cell? _ ⟨w.heap.size, 6, none⟩ = some (.int .i64 0) := q7.cell 6 (show 6 < 7 by omega)
  clear hbx q7
  go_wp2
  refine bodyPost_ret (by simp [results, Tryd.results10, go_sem, d0, d1, d2, d3, d4, d5, d6]; try rfl) rfl ?_
  exact ⟨rfl, ((((((HB.out.setCell (Nat.le_refl _) _).setCell (Nat.le_refl _) _).setCell (Nat.le_refl _) _).setCell (Nat.le_refl _) _).setCell (Nat.le_refl _) _).setCell (Nat.le_refl _) _).setCell (Nat.le_refl _) _⟩

set_option maxHeartbeats 1000000 in
theorem parseSpan_good (t : ByteArray) (ht : t.size ≤ 64) (h0 : 0 < t.size) (h : (spR t.data.toList).2 = t.size) (hm : bt t.data.toList (t.size - 1) ∈ mrk) (w : World) (hE : HasES w) : Calls Tryd.prog 10 #[.string t] w fun e w' => e = .returned (sT (spR t.data.toList).1 0 0) ∧ Below w.heap.size w w' := by
  have hEA := hE.below (alloc_belowS w (.cells #[.int .i64 0, .int .i64 0, .int .i64 0, .int .i64 0, .int .i64 0, .int .i64 0, .int .i64 0] 23))
  have HR := hid (readSpan_any t ht (w.alloc (.cells #[.int .i64 0, .int .i64 0, .int .i64 0, .int .i64 0, .int .i64 0, .int .i64 0, .int .i64 0] 23)) hEA)
  obtain ⟨a0, a1, a2, a3, a4, a5, a6, hs⟩ := list7 (spR_len t.data.toList).2
  obtain ⟨r, hr⟩ : ∃ r, r = (spR t.data.toList).2 := ⟨_, rfl⟩
  have hrl := (spR_len t.data.toList).1
  rw [Array.length_toList] at hrl
  have hrl' : (spR t.data.toList).2 ≤ t.size := hrl
  rw [← hr] at HR hrl'
  rw [hs] at HR
  have hrs : r = t.size := by rw [hr]; exact h
  rw [hrs] at HR
  have hl1 : t.size - 1 < t.size := by omega
  obtain ⟨c, hc⟩ : ∃ c, c = t[t.size - 1]'hl1 := ⟨_, rfl⟩
  have qs : ∀ w, (Instr.slice 9 (.string t) (some (.int .i64 ((t.size : Int) - 1))) none none).run Tryd.prog w = .ok (.string ⟨#[c]⟩) w := fun w => by
    have h1 := run_from t (t.size - 1) (by omega) w
    rw [last_extract t h0, show (((t.size - 1 : Nat)) : Int) = (t.size : Int) - 1 by omega, ← hc] at h1
    exact h1
  have HC := hid (fun w => Tryd.strings_Contains_one mkB c w)
  have hcm : (0 ≤ Lib.indexByte mkB.data.toList c) ↔ c ∈ mrk := ix_mem mrk c
  rw [bt_at t (t.size - 1) hl1, ← hc] at hm
  rw [decide_eq_true (hcm.2 hm)] at HC
  rw [hs]
  clear hrl hrl' hr hs hrs h hm hcm hc hl1
  have wz : IntKind.i64.wrap ((t.size : Int) - 1) = (t.size : Int) - 1 := by rw [IntKind.wrap_i64]; omega
  have z1 : ((t.size : Int) == 0) = false := by rw [beq_eq_false_iff_ne]; omega
  clear hE hEA
  unfold sT lV at *
  simp only [List.map_cons, List.map_nil] at HR ⊢
  go_enter Tryd.func10, Tryd.ntmps10
  go_wp2_with fail
  refine HR.out.mono ?_
  rintro e w1 ⟨rfl, hb⟩
  have HX := hid ((show LBox _ w.heap.size zs7 from heap_alloc_new w (.cells #[.int .i64 0, .int .i64 0, .int .i64 0, .int .i64 0, .int .i64 0, .int .i64 0, .int .i64 0] 23)).later hb)
  have HB1 := hid ((alloc_belowS w (.cells #[.int .i64 0, .int .i64 0, .int .i64 0, .int .i64 0, .int .i64 0, .int .i64 0, .int .i64 0] 23)).trans (hb.mono (by simp)))
  clear hb HR
  have hbx := HX.out.later (alloc_belowS w1 (.cells #[.int .i64 a0, .int .i64 a1, .int .i64 a2, .int .i64 a3, .int .i64 a4, .int .i64 a5, .int .i64 a6] 23))
  have HB := hid (HB1.out.alloc HB1.out.size (.cells #[.int .i64 a0, .int .i64 a1, .int .i64 a2, .int .i64 a3, .int .i64 a4, .int .i64 a5, .int .i64 a6] 23))
  have c0 : World.cell? _ ⟨w.heap.size, 0, none⟩ = some (.int .i64 0) := hbx.cell 0 (show 0 < 7 by omega)
  have z0 := hbx.soft 0
  have c1 : World.cell? _ ⟨w.heap.size, 1, none⟩ = some (.int .i64 0) := hbx.cell 1 (show 1 < 7 by omega)
  have z1 := hbx.soft 1
  have c2 : World.cell? _ ⟨w.heap.size, 2, none⟩ = some (.int .i64 0) := hbx.cell 2 (show 2 < 7 by omega)
  have z2 := hbx.soft 2
  have c3 : World.cell? _ ⟨w.heap.size, 3, none⟩ = some (.int .i64 0) := hbx.cell 3 (show 3 < 7 by omega)
  have z3 := hbx.soft 3
  have c4 : World.cell? _ ⟨w.heap.size, 4, none⟩ = some (.int .i64 0) := hbx.cell 4 (show 4 < 7 by omega)
  have z4 := hbx.soft 4
  have c5 : World.cell? _ ⟨w.heap.size, 5, none⟩ = some (.int .i64 0) := hbx.cell 5 (show 5 < 7 by omega)
  have z5 := hbx.soft 5
  have c6 : World.cell? _ ⟨w.heap.size, 6, none⟩ = some (.int .i64 0) := hbx.cell 6 (show 6 < 7 by omega)
  have z6 := hbx.soft 6
  have q7 := (((((((hbx.put 0 a0).put 1 a1).put 2 a2).put 3 a3).put 4 a4).put 5 a5).put 6 a6)
  have d0 : World.cell? _ ⟨w.heap.size, 0, none⟩ = some (.int .i64 a0) := q7.cell 0 (show 0 < 7 by omega)
  have d1 : World.cell? _ ⟨w.heap.size, 1, none⟩ = some (.int .i64 a1) := q7.cell 1 (show 1 < 7 by omega)
  have d2 : World.cell? _ ⟨w.heap.size, 2, none⟩ = some (.int .i64 a2) := q7.cell 2 (show 2 < 7 by omega)
  have d3 : World.cell? _ ⟨w.heap.size, 3, none⟩ = some (.int .i64 a3) := q7.cell 3 (show 3 < 7 by omega)
  have d4 : World.cell? _ ⟨w.heap.size, 4, none⟩ = some (.int .i64 a4) := q7.cell 4 (show 4 < 7 by omega)
  have d5 : World.cell? _ ⟨w.heap.size, 5, none⟩ = some (.int .i64 a5) := q7.cell 5 (show 5 < 7 by omega)
  have d6 : World.cell? _ ⟨w.heap.size, 6, none⟩ = some (.int .i64 a6) := q7.cell 6 (show 6 < 7 by omega)
  clear hbx q7
  go_wp2_with (go_at_call 26; refine (HC.out _).mono ?_; rintro e w' ⟨rfl, rfl⟩)
  refine bodyPost_ret (by simp [results, Tryd.results10, go_sem, d0, d1, d2, d3, d4, d5, d6]; try rfl) rfl ?_
  exact ⟨rfl, ((((((HB.out.setCell (Nat.le_refl _) _).setCell (Nat.le_refl _) _).setCell (Nat.le_refl _) _).setCell (Nat.le_refl _) _).setCell (Nat.le_refl _) _).setCell (Nat.le_refl _) _).setCell (Nat.le_refl _) _⟩

set_option maxHeartbeats 1000000 in
theorem parseSpan_last (t : ByteArray) (ht : t.size ≤ 64) (h0 : 0 < t.size) (h : (spR t.data.toList).2 = t.size) (hm : ¬ bt t.data.toList (t.size - 1) ∈ mrk) (w : World) (hE : HasES w) : Calls Tryd.prog 10 #[.string t] w fun e w' => e = .returned (sT zs7 34 ((spR t.data.toList).2 : Nat)) ∧ Below w.heap.size w w' := by
  have hEA := hE.below (alloc_belowS w (.cells #[.int .i64 0, .int .i64 0, .int .i64 0, .int .i64 0, .int .i64 0, .int .i64 0, .int .i64 0] 23))
  have HR := hid (readSpan_any t ht (w.alloc (.cells #[.int .i64 0, .int .i64 0, .int .i64 0, .int .i64 0, .int .i64 0, .int .i64 0, .int .i64 0] 23)) hEA)
  obtain ⟨a0, a1, a2, a3, a4, a5, a6, hs⟩ := list7 (spR_len t.data.toList).2
  obtain ⟨r, hr⟩ : ∃ r, r = (spR t.data.toList).2 := ⟨_, rfl⟩
  have hrl := (spR_len t.data.toList).1
  rw [Array.length_toList] at hrl
  have hrl' : (spR t.data.toList).2 ≤ t.size := hrl
  rw [← hr] at HR hrl'
  rw [hs] at HR
  have hrs : r = t.size := by rw [hr]; exact h
  rw [hrs] at HR
  have hl1 : t.size - 1 < t.size := by omega
  obtain ⟨c, hc⟩ : ∃ c, c = t[t.size - 1]'hl1 := ⟨_, rfl⟩
  have qs : ∀ w, (Instr.slice 9 (.string t) (some (.int .i64 ((t.size : Int) - 1))) none none).run Tryd.prog w = .ok (.string ⟨#[c]⟩) w := fun w => by
    have h1 := run_from t (t.size - 1) (by omega) w
    rw [last_extract t h0, show (((t.size - 1 : Nat)) : Int) = (t.size : Int) - 1 by omega, ← hc] at h1
    exact h1
  have HC := hid (fun w => Tryd.strings_Contains_one mkB c w)
  have hcm : (0 ≤ Lib.indexByte mkB.data.toList c) ↔ c ∈ mrk := ix_mem mrk c
  rw [bt_at t (t.size - 1) hl1, ← hc] at hm
  rw [decide_eq_false (fun q => hm (hcm.1 q))] at HC
  rw [h]
  clear hrl hrl' hr hs hrs h hm hcm hc hl1
  have wz : IntKind.i64.wrap ((t.size : Int) - 1) = (t.size : Int) - 1 := by rw [IntKind.wrap_i64]; omega
  have z1 : ((t.size : Int) == 0) = false := by rw [beq_eq_false_iff_ne]; omega
  clear hE hEA
  unfold sT lV at *
  simp only [List.map_cons, List.map_nil] at HR ⊢
  go_enter Tryd.func10, Tryd.ntmps10
  go_wp2_with fail
  refine HR.out.mono ?_
  rintro e w1 ⟨rfl, hb⟩
  have HX := hid ((show LBox _ w.heap.size zs7 from heap_alloc_new w (.cells #[.int .i64 0, .int .i64 0, .int .i64 0, .int .i64 0, .int .i64 0, .int .i64 0, .int .i64 0] 23)).later hb)
  have HB1 := hid ((alloc_belowS w (.cells #[.int .i64 0, .int .i64 0, .int .i64 0, .int .i64 0, .int .i64 0, .int .i64 0, .int .i64 0] 23)).trans (hb.mono (by simp)))
  clear hb HR
  have hbx := HX.out.later (alloc_belowS w1 (.cells #[.int .i64 a0, .int .i64 a1, .int .i64 a2, .int .i64 a3, .int .i64 a4, .int .i64 a5, .int .i64 a6] 23))
  have HB := hid (HB1.out.alloc HB1.out.size (.cells #[.int .i64 a0, .int .i64 a1, .int .i64 a2, .int .i64 a3, .int .i64 a4, .int .i64 a5, .int .i64 a6] 23))
  have c0 : World.cell? _ ⟨w.heap.size, 0, none⟩ = some (.int .i64 0) := hbx.cell 0 (show 0 < 7 by omega)
  have z0 := hbx.soft 0
  have c1 : World.cell? _ ⟨w.heap.size, 1, none⟩ = some (.int .i64 0) := hbx.cell 1 (show 1 < 7 by omega)
  have z1 := hbx.soft 1
  have c2 : World.cell? _ ⟨w.heap.size, 2, none⟩ = some (.int .i64 0) := hbx.cell 2 (show 2 < 7 by omega)
  have z2 := hbx.soft 2
  have c3 : World.cell? _ ⟨w.heap.size, 3, none⟩ = some (.int .i64 0) := hbx.cell 3 (show 3 < 7 by omega)
  have z3 := hbx.soft 3
  have c4 : World.cell? _ ⟨w.heap.size, 4, none⟩ = some (.int .i64 0) := hbx.cell 4 (show 4 < 7 by omega)
  have z4 := hbx.soft 4
  have c5 : World.cell? _ ⟨w.heap.size, 5, none⟩ = some (.int .i64 0) := hbx.cell 5 (show 5 < 7 by omega)
  have z5 := hbx.soft 5
  have c6 : World.cell? _ ⟨w.heap.size, 6, none⟩ = some (.int .i64 0) := hbx.cell 6 (show 6 < 7 by omega)
  have z6 := hbx.soft 6
  have q7 := (((((((hbx.put 0 0).put 1 0).put 2 0).put 3 0).put 4 0).put 5 0).put 6 0)
  have d0 : World.cell? _ ⟨w.heap.size, 0, none⟩ = some (.int .i64 0) := q7.cell 0 (show 0 < 7 by omega)
  have d1 : World.cell? _ ⟨w.heap.size, 1, none⟩ = some (.int .i64 0) := q7.cell 1 (show 1 < 7 by omega)
  have d2 : World.cell? _ ⟨w.heap.size, 2, none⟩ = some (.int .i64 0) := q7.cell 2 (show 2 < 7 by omega)
  have d3 : World.cell? _ ⟨w.heap.size, 3, none⟩ = some (.int .i64 0) := q7.cell 3 (show 3 < 7 by omega)
  have d4 : World.cell? _ ⟨w.heap.size, 4, none⟩ = some (.int .i64 0) := q7.cell 4 (show 4 < 7 by omega)
  have d5 : World.cell? _ ⟨w.heap.size, 5, none⟩ = some (.int .i64 0) := q7.cell 5 (show 5 < 7 by omega)
  have d6 : World.cell? _ ⟨w.heap.size, 6, none⟩ = some (.int .i64 0) := q7.cell 6 (show 6 < 7 by omega)
  clear hbx q7
  go_wp2_with (go_at_call 26; refine (HC.out _).mono ?_; rintro e w' ⟨rfl, rfl⟩)
  refine bodyPost_ret (by simp [results, Tryd.results10, go_sem, d0, d1, d2, d3, d4, d5, d6]; try rfl) rfl ?_
  exact ⟨rfl, ((((((HB.out.setCell (Nat.le_refl _) _).setCell (Nat.le_refl _) _).setCell (Nat.le_refl _) _).setCell (Nat.le_refl _) _).setCell (Nat.le_refl _) _).setCell (Nat.le_refl _) _).setCell (Nat.le_refl _) _⟩

theorem parseSpan_any (t : ByteArray) (w : World) (hE : HasES w) : Calls Tryd.prog 10 #[.string t] w fun e w' => e = .returned (spV t) ∧ Below w.heap.size w w' := by
  have lt : t.data.toList.length = t.size := Array.length_toList
  unfold spV
  by_cases h64 : 64 < t.size
  · rw [if_pos h64]; exact parseSpan_long t h64 w
  · rw [if_neg h64]
    have hl := (spR_len t.data.toList).1
    rw [lt] at hl
    by_cases h1 : (spR t.data.toList).2 = t.size
    · by_cases h0 : 0 < t.size
      · by_cases hm : bt t.data.toList (t.size - 1) ∈ mrk
        · rw [if_pos (by unfold spOk; rw [lt, decide_eq_true ⟨h1, h0⟩, decide_eq_true hm]; rfl)]
          exact parseSpan_good t (by omega) h0 h1 hm w hE
        · rw [if_neg (by unfold spOk; rw [lt, decide_eq_false hm]; simp)]
          exact parseSpan_last t (by omega) h0 h1 hm w hE
      · rw [if_neg (by unfold spOk; rw [lt, decide_eq_false (fun q => h0 q.2)]; simp)]
        exact parseSpan_zero t (by omega) (by omega) w hE
    · rw [if_neg (by unfold spOk; rw [lt, decide_eq_false (fun q => h1 q.1)]; simp)]
      exact parseSpan_short t (by omega) (by omega) w hE
end Go.Proofs.YtjmainmidacmfaaDoor
