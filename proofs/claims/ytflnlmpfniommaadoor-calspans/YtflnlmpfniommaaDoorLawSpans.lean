/-
  CalSpans: the law's own walk, out of the contracts.
-/
import Derived.Test.YtflnlmpfniommaaDoorRps
import Derived.Test.YtflnlmpfniommaaDoorPsp2
import Derived.Test.YtflnlmpfniommaaDoorES
import Derived.Stop.LaidErr
namespace Go.Proofs.YtflnlmpfniommaaDoor
open Go.RowKit
set_option maxRecDepth 100000

theorem refSpan_long (t : ByteArray) (ht : 64 < t.size) (w : World) : Calls Tryd.prog 11 #[.string t] w fun e w' => e = .returned (sT zs7 1 0) ∧ Below w.heap.size w w' := by
  have hB : ∀ o : Obj, Below w.heap.size w ((w.alloc o).alloc o) := fun o => ((Below.refl _ _).alloc (Nat.le_refl _) _).alloc (by simp) _
  go_enter Tryd.func11, Tryd.ntmps11
  go_wp2
  refine bodyPost_ret (by simp [results, Tryd.results11, go_sem]; try rfl) rfl ?_
  exact ⟨rfl, hB _⟩

theorem refSpan_no (t : ByteArray) (ht : t.size ≤ 64) (h : ¬ (0 < t.size ∧ bt t.data.toList 0 = 80)) (w : World) : Calls Tryd.prog 11 #[.string t] w fun e w' => e = .returned (sT zs7 34 0) ∧ Below w.heap.size w w' := by
  have hB : ∀ o : Obj, Below w.heap.size w ((w.alloc o).alloc o) := fun o => ((Below.refl _ _).alloc (Nat.le_refl _) _).alloc (by simp) _
  by_cases h0 : 0 < t.size
  · have hc : ¬ t[0] = 80 := fun e => h ⟨h0, by rw [bt_at t 0 h0]; exact e⟩
    have q0 : ((t.size : Int) == 0) = false := by rw [beq_eq_false_iff_ne]; omega
    have q1 : (((t[0]'h0).toNat : Int) == 80) = false := ne_i _ 80 (by omega) hc
    have q2 : (((t[0]'h0).toNat : Int) != 80) = true := by unfold bne; rw [q1]; rfl
    have i0 : (0 : Int) < (t.size : Int) := by omega
    clear h hc
    go_enter Tryd.func11, Tryd.ntmps11
    go_wp2
    refine bodyPost_ret (by simp [results, Tryd.results11, go_sem]; try rfl) rfl ?_
    exact ⟨rfl, hB _⟩
  · have q0 : ((t.size : Int) == 0) = true := by rw [beq_iff_eq]; omega
    have hz : t.size = 0 := by omega
    clear h h0
    go_enter Tryd.func11, Tryd.ntmps11
    go_wp2
    refine bodyPost_ret (by simp [results, Tryd.results11, go_sem]; try rfl) rfl ?_
    exact ⟨rfl, hB _⟩

theorem refSpan_any (t : ByteArray) (w : World) : Calls Tryd.prog 11 #[.string t] w fun e w' => e = .returned (spV t) ∧ Below w.heap.size w w' := by
  have lt : t.data.toList.length = t.size := Array.length_toList
  by_cases h64 : 64 < t.size
  · have e : spV t = sT zs7 1 0 := by unfold spV; rw [if_pos h64]
    rw [e]; exact refSpan_long t h64 w
  · by_cases h : 0 < t.size ∧ bt t.data.toList 0 = 80
    · have er : spR t.data.toList = spF t.data.toList 64 1 0 4 zs7 := by unfold spR; rw [if_pos ⟨h.2, by rw [lt]; exact h.1⟩]
      refine refSpan_P t (by omega) h.1 (by rw [← bt_at t 0 h.1]; exact h.2) (spR t.data.toList) er.symm (spV t) ?_ ?_ w
      · intro h1 h2
        unfold spV
        rw [if_neg h64, if_pos (by unfold spOk; rw [lt, decide_eq_true ⟨h1, h.1⟩, decide_eq_true h2]; rfl)]
      · intro h1
        unfold spV
        rw [if_neg h64, if_neg (by
          unfold spOk
          rw [lt]
          intro q
          rw [Bool.and_eq_true] at q
          exact h1 ⟨(of_decide_eq_true q.1).1, of_decide_eq_true q.2⟩)]
    · have er : spR t.data.toList = (zs7, 0) := by unfold spR; rw [if_neg (fun q => h ⟨by rw [← lt]; exact q.2, q.1⟩)]
      have e : spV t = sT zs7 34 0 := by
        unfold spV
        rw [if_neg h64, if_neg (by
          unfold spOk
          rw [lt, er]
          intro q
          rw [Bool.and_eq_true] at q
          have := of_decide_eq_true q.1
          omega), er]
        rfl
      rw [e]; exact refSpan_no t (by omega) h w

theorem spV_is (t : ByteArray) : ∃ a0 a1 a2 a3 a4 a5 a6 e p : Int, spV t = sT [a0, a1, a2, a3, a4, a5, a6] e p := by
  unfold spV
  split
  · exact ⟨_, _, _, _, _, _, _, _, _, rfl⟩
  · split
    · obtain ⟨a0, a1, a2, a3, a4, a5, a6, h⟩ := list7 (spR_len t.data.toList).2
      exact ⟨a0, a1, a2, a3, a4, a5, a6, 0, 0, by rw [h]⟩
    · exact ⟨_, _, _, _, _, _, _, _, _, rfl⟩

set_option maxHeartbeats 1000000 in
theorem spans_any (t : ByteArray) (w : World) (hE : HasES w) :
    Calls Tryd.prog 4 #[.string t] w fun e w' => e = .returned (.bool true) ∧ Below w.heap.size w w' := by
  have P := hid (parseSpan_any t w hE)
  have Q := hid (fun w => refSpan_any t w)
  obtain ⟨a0, a1, a2, a3, a4, a5, a6, e, p, hv⟩ := spV_is t
  rw [hv] at P Q
  unfold sT lV at P Q
  simp only [List.map_cons, List.map_nil] at P Q
  clear hE hv
  go_enter Tryd.func4, Tryd.ntmps4
  go_wp2_with fail
  refine P.out.mono ?_
  rintro e w1 ⟨rfl, hb1⟩
  have HB1 := hid hb1
  clear hb1 P
  go_wp2_with fail
  refine (Q.out _).mono ?_
  rintro e w2 ⟨rfl, hb2⟩
  have X1 := hid ((show LBox _ w1.heap.size [a0, a1, a2, a3, a4, a5, a6] from heap_alloc_new w1 (.cells #[.int .i64 a0, .int .i64 a1, .int .i64 a2, .int .i64 a3, .int .i64 a4, .int .i64 a5, .int .i64 a6] 23)).later hb2)
  have HB2 := hid ((HB1.out.alloc HB1.out.size (.cells #[.int .i64 a0, .int .i64 a1, .int .i64 a2, .int .i64 a3, .int .i64 a4, .int .i64 a5, .int .i64 a6] 23)).trans (hb2.mono (by have := HB1.out.size; simp; omega)))
  clear hb2 Q HB1
  have hx := X1.out.later (alloc_belowS _ (.cells #[.int .i64 a0, .int .i64 a1, .int .i64 a2, .int .i64 a3, .int .i64 a4, .int .i64 a5, .int .i64 a6] 23))
  have k0 : World.cell? _ ⟨w1.heap.size, 0, none⟩ = some (.int .i64 a0) := hx.cell 0 (show 0 < 7 by omega)
  have k1 : World.cell? _ ⟨w1.heap.size, 1, none⟩ = some (.int .i64 a1) := hx.cell 1 (show 1 < 7 by omega)
  have k2 : World.cell? _ ⟨w1.heap.size, 2, none⟩ = some (.int .i64 a2) := hx.cell 2 (show 2 < 7 by omega)
  have k3 : World.cell? _ ⟨w1.heap.size, 3, none⟩ = some (.int .i64 a3) := hx.cell 3 (show 3 < 7 by omega)
  have k4 : World.cell? _ ⟨w1.heap.size, 4, none⟩ = some (.int .i64 a4) := hx.cell 4 (show 4 < 7 by omega)
  have k5 : World.cell? _ ⟨w1.heap.size, 5, none⟩ = some (.int .i64 a5) := hx.cell 5 (show 5 < 7 by omega)
  have k6 : World.cell? _ ⟨w1.heap.size, 6, none⟩ = some (.int .i64 a6) := hx.cell 6 (show 6 < 7 by omega)
  have HB3 := hid (HB2.out.alloc HB2.out.size (.cells #[.int .i64 a0, .int .i64 a1, .int .i64 a2, .int .i64 a3, .int .i64 a4, .int .i64 a5, .int .i64 a6] 23))
  clear X1 HB2 hx
  go_wp2
  go_ret
  exact ⟨rfl, HB3.out⟩
end Go.Proofs.YtflnlmpfniommaaDoor
