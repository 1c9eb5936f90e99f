/-
  WheelNil: the law's walk.
-/
import Derived.Test.YtffmlnocednehaaWhc
import Derived.Test.YtffmlnocednehaaWhd
import Derived.Deep.RegionHeld3
namespace Go.Proofs.Ytffmlnocednehaa
open Go.RowKit Go.Shelf
set_option maxRecDepth 100000
attribute [local go_sem] Oper.semAt_some

/-- seven zeros -/
def z7 : Array Value := #[.int .i64 0, .int .i64 0, .int .i64 0, .int .i64 0, .int .i64 0, .int .i64 0, .int .i64 0]
set_option maxHeartbeats 4000000 in
theorem wheelNil_any (w : World) : Calls Try.prog 8 #[] w fun e w' => e = .returned (.bool true) ∧ Below w.heap.size w w' := by
  have hN : ∀ (b : Nat) (w : World), (binOp .neq 36 (.func (.func 31) #[] #[.pointer (some ⟨b, 0, none⟩)]) .nilFunc).run Try.prog w = .ok (.bool true) w := fun b w => by kernel_rfl
  obtain ⟨W2, hW2⟩ : ∃ W2, (w.alloc (.cells #[.bool false] 4)).alloc (.cells #[.int .i64 4] 3) = W2 := ⟨_, rfl⟩
  have hB2 : Below w.heap.size w W2 := by
    rw [← hW2]
    exact ((Below.refl _ _).alloc (Nat.le_refl _) _).alloc (by simp) _
  have hz2 : W2.heap.size = w.heap.size + 2 := by rw [← hW2]; simp
  have hR2 : W2.heap[w.heap.size]? = some (.cells #[.bool false] 4 (0, 0)) := by
    rw [← hW2]
    exact (((Below.refl (w.alloc (.cells #[.bool false] 4)).heap.size _).alloc (Nat.le_refl _) _).block w.heap.size (by simp)).trans (heap_alloc_new w _)
  have h4 : W2.cell? ⟨w.heap.size + 1, 0, none⟩ = some (.int .i64 4) := by
    have hh : W2.heap[w.heap.size + 1]? = some (.cells #[.int .i64 4] 3 (0, 0)) := by
      rw [← hW2]
      have h := heap_alloc_new (w.alloc (.cells #[.bool false] 4)) (.cells #[.int .i64 4] 3)
      rw [World.size_alloc] at h
      exact h
    rw [Lib.cell_of_heap hh]
    rfl
  have HF := hid (filled_one _ W2 h4)
  have H1 := hid nil_at
  have H2 := hid nil_adv
  have H3 := hid nil_next
  have H4 := hid nil_add
  have H5 := hid nil_chg
  have H6 := hid nil_rem
  have H7 := hid nil_now
  have H8 := hid nil_len
  have H9 := hid nil_each
  have H10 := hid nil_spread
  have HB2 := hid hB2
  have R2 := hid hR2
  have HW2 := hid hW2
  have HN := hid hN
  have Z2 := hid hz2
  clear hB2 hR2 h4 hW2 hz2 hN
  refine (callsIn_wide (n := 5)).1 ?_
  refine callsIn_of_wp_marks Try.func8 rfl trivial ?_ rfl
  simp only [Try.ntmps8, List.size_toArray, List.length_nil, Nat.reduceSub, Array.replicate_succ, Array.replicate_zero, List.push_toArray, List.append_toArray, List.nil_append, List.cons_append]
  gi_wp2_with fail
  rw [HW2.out]
  refine ⟨trivial, ?_⟩
  refine (callsIn_wide.2 HF.out).mono ?_
  rintro e w1 ⟨rfl, ⟨t, mb, _, hmb, ho⟩, hb1⟩
  have HA := hid (advance_five _ t mb w1 ho hmb)
  have B1 := hid hb1
  clear ho hb1 hmb HF HW2
  gi_wp2_with fail
  refine ⟨trivial, ?_⟩
  refine (callsIn_wide.2 HA.out).mono ?_
  rintro e w2 ⟨nb, rfl, hn, hb2⟩
  have hb3 := B1.out.trans hb2
  have R3 := hid ((hb3.block w.heap.size (by rw [Z2.out]; omega)).trans R2.out)
  have B3 := hid (HB2.out.trans (hb3.mono (by rw [Z2.out]; omega)))
  clear hb2 hb3 HA B1 R2 HB2 Z2
  gi_wp2_with fail
  clear hn
  refine ⟨trivial, ?_⟩
  refine (callsIn_wide.2 (H1.out _)).mono ?_
  rintro e wz ⟨rfl, hwz⟩
  have hws := hwz.symm
  clear hwz
  subst hws
  gi_wp2_with fail
  refine ⟨trivial, ?_⟩
  refine (callsIn_wide.2 (H2.out _)).mono ?_
  rintro e wz ⟨rfl, hwz⟩
  have hws := hwz.symm
  clear hwz
  subst hws
  gi_wp2_with fail
  refine ⟨trivial, ?_⟩
  refine (callsIn_wide.2 (H3.out _)).mono ?_
  rintro e w4 ⟨rfl, hb4⟩
  have R4 := hid ((hb4.block w.heap.size ((Array.getElem?_eq_some_iff.1 R3.out).1)).trans R3.out)
  have B4 := hid (B3.out.trans (hb4.mono B3.out.size))
  clear hb4 R3 B3
  gi_wp2_with fail
  refine ⟨trivial, ?_⟩
  refine (callsIn_wide.2 (H4.out _)).mono ?_
  rintro e wz ⟨rfl, hwz⟩
  have hws := hwz.symm
  clear hwz
  subst hws
  gi_wp2_with fail
  refine ⟨trivial, ?_⟩
  refine (callsIn_wide.2 (H5.out _)).mono ?_
  rintro e wz ⟨rfl, hwz⟩
  have hws := hwz.symm
  clear hwz
  subst hws
  gi_wp2_with fail
  refine ⟨trivial, ?_⟩
  refine (callsIn_wide.2 (H6.out _)).mono ?_
  rintro e wz ⟨rfl, hwz⟩
  have hws := hwz.symm
  clear hwz
  subst hws
  gi_wp2_with fail
  refine ⟨trivial, ?_⟩
  refine (callsIn_wide.2 (H7.out _)).mono ?_
  rintro e wz ⟨rfl, hwz⟩
  have hws := hwz.symm
  clear hwz
  subst hws
  gi_wp2_with fail
  refine ⟨trivial, ?_⟩
  refine (callsIn_wide.2 (H8.out _)).mono ?_
  rintro e wz ⟨rfl, hwz⟩
  have hws := hwz.symm
  clear hwz
  subst hws
  gi_wp2_with fail
  refine ⟨trivial, ?_⟩
  refine (callsIn_wide.2 (H9.out _)).mono ?_
  rintro e w6 ⟨rfl, hw6⟩
  have z4 := (Array.getElem?_eq_some_iff.1 R4.out).1
  obtain ⟨W5, hW5⟩ : ∃ W5, w4.alloc (.cells z7 44) = W5 := ⟨_, rfl⟩
  have z5 : W5.heap.size = w4.heap.size + 1 := by rw [← hW5, World.size_alloc]
  have b5 : Below w4.heap.size w4 W5 := by rw [← hW5]; exact (Below.refl _ _).alloc (Nat.le_refl _) _
  have a5 : W5.heap[w4.heap.size]? = some (.cells z7 44 (0, 0)) := by rw [← hW5]; exact heap_alloc_new w4 _
  have hw6' : w6 = W5.alloc (.cells #[.slice none 0 0] 65) := by rw [hw6, ← hW5]; rfl
  have b6 : Below W5.heap.size W5 w6 := by rw [hw6']; exact (Below.refl _ _).alloc (Nat.le_refl _) _
  have z6 : w6.heap.size = w4.heap.size + 2 := by rw [hw6', World.size_alloc, z5]
  have c6 : w6.cell? ⟨w4.heap.size + 1, 0, none⟩ = some (.slice none 0 0) := by
    have hh := heap_alloc_new W5 (.cells #[.slice none 0 0] 65)
    rw [← hw6', z5] at hh
    rw [Lib.cell_of_heap hh]
    rfl
  have a6 := (b6.block w4.heap.size (by omega)).trans a5
  have r6 := (b6.block w.heap.size (by omega)).trans ((b5.block w.heap.size z4).trans R4.out)
  have B6 := hid (B4.out.trans ((b5.mono B4.out.size).trans (b6.mono (by have := B4.out.size; omega))))
  have A6 := hid a6
  have R6 := hid r6
  have C6 := hid c6
  have Z6 := hid z6
  have Z4 := hid z4
  clear hw6 hw6' hW5 z5 b5 a5 b6 z6 c6 a6 r6 R4 B4 z4 H1 H2 H3 H4 H5 H6 H7 H8 H9
  have hN := HN.out
  gi_wp2_with fail
  clear hN HN
  have eg := enters_of Try.func31 (by kernel_rfl) rfl
  refine wpIn_rangeFunc_ownH rfl (show 1 ≤ 5 by omega) (gf := 31) (lb := #[.pointer (some ⟨w4.heap.size + 1, 0, none⟩)]) rfl trivial eg
    (each_goes 4 w6 _ (fun _ _ => True) C6.out) (fun _ _ => trivial) (fun _ _ _ _ _ _ _ _ => trivial) (Below.refl _ _) (fun x => x.elim)
    (fun _ W => Below w6.heap.size w6 W) (fun _ _ _ => False)
    (ownFrom_below (Nat.le_refl _) (Nat.le_refl _)) (fun c s A B row h _ _ => h.elim) (Below.refl _ _)
    (fun _ _ _ => True) (fun x => x.elim) (fun l pre x => x.elim) (fun l pre x => x.elim) ?done (fun D c pre W _ h => h.elim)
  case done =>
    rintro D ys W hD rfl hB hK
    have hz := hB.size
    have z6 := Z6.out
    have z4 := Z4.out
    have aW := (hB.block w4.heap.size (by omega)).trans A6.out
    have rW := (hB.block w.heap.size (by omega)).trans R6.out
    have dl : D < W.heap.size := (Array.getElem?_eq_some_iff.1 hK).1
    have K := hid (fun (wx : World) (hb : Below W.heap.size W wx) => (show (wx.cell? ⟨w4.heap.size, 0, none⟩ = some (.int .i64 0) ∧ wx.cell? ⟨w4.heap.size, 1, none⟩ = some (.int .i64 0) ∧ wx.cell? ⟨w4.heap.size, 2, none⟩ = some (.int .i64 0) ∧ wx.cell? ⟨w4.heap.size, 3, none⟩ = some (.int .i64 0) ∧ wx.cell? ⟨w4.heap.size, 4, none⟩ = some (.int .i64 0) ∧ wx.cell? ⟨w4.heap.size, 5, none⟩ = some (.int .i64 0) ∧ wx.cell? ⟨w4.heap.size, 6, none⟩ = some (.int .i64 0)) ∧ wx.cell? ⟨w.heap.size, 0, none⟩ = some (.bool false) ∧ wx.frozen? ⟨w.heap.size, 0, none⟩ = false from by
      have h1 := (hb.block w4.heap.size (by omega)).trans aW
      have h2 := (hb.block w.heap.size (by omega)).trans rW
      exact ⟨⟨by rw [Lib.cell_of_heap h1]; rfl, by rw [Lib.cell_of_heap h1]; rfl, by rw [Lib.cell_of_heap h1]; rfl, by rw [Lib.cell_of_heap h1]; rfl, by rw [Lib.cell_of_heap h1]; rfl, by rw [Lib.cell_of_heap h1]; rfl, by rw [Lib.cell_of_heap h1]; rfl⟩, by rw [Lib.cell_of_heap h2]; rfl, Lib.frozen_of_heap h2 0⟩))
    have HS := hid (fun (wx : World) (hb : Below W.heap.size W wx) => (nil_spread wx).mono fun e w' g => (show e = .returned (.agg #[.int .i64 0, .int .i64 0, .int .i64 0, .int .i64 0, .int .i64 0, .int .i64 0, .int .i64 0]) ∧ Below W.heap.size W w' from ⟨g.1, by rw [g.2]; exact (hb.alloc hb.size _).alloc (by rw [World.size_alloc]; have := hb.size; omega) _⟩))
    have hE : ∀ wx : World, (binOp .eql 44 (.agg #[.int .i64 0, .int .i64 0, .int .i64 0, .int .i64 0, .int .i64 0, .int .i64 0, .int .i64 0]) (.agg #[.int .i64 0, .int .i64 0, .int .i64 0, .int .i64 0, .int .i64 0, .int .i64 0, .int .i64 0])).run Try.prog wx = .ok (.bool true) wx := fun wx => by kernel_rfl
    have FIN := hid (fun (wx : World) (hb : Below W.heap.size W wx) => (show (wx.setCell ⟨w.heap.size, 0, none⟩ (.bool true)).heap[D]? = some (.deferred (some [])) ∧ ((wx.setCell ⟨w.heap.size, 0, none⟩ (.bool true)).putObj D (.deferred none)).cell? ⟨w.heap.size, 0, none⟩ = some (.bool true) ∧ Below w.heap.size w ((wx.setCell ⟨w.heap.size, 0, none⟩ (.bool true)).putObj D (.deferred none)) from by
      have hne : D ≠ w.heap.size := by omega
      have k1 : (wx.setCell ⟨w.heap.size, 0, none⟩ (.bool true)).heap[D]? = some (.deferred (some [])) := (heap_setCell_other wx ⟨w.heap.size, 0, none⟩ D _ hne).trans ((hb.block D dl).trans hK)
      have k2 := heap_setCell_same wx w.heap.size 0 _ _ (.bool true) ((hb.block w.heap.size (by omega)).trans rW)
      refine ⟨k1, ?_, ?_⟩
      · rw [Lib.cell_of_heap ((World.putObj_heap_other (fun e => hne e.symm)).trans k2)]
        rfl
      · have hs : w.heap.size ≤ W.heap.size := by omega
        exact ((B6.out.trans (hB.mono B6.out.size)).trans ((hb.mono hs).setCell (p := ⟨w.heap.size, 0, none⟩) (Nat.le_refl _) (.bool true))).trans (belowK_b (w := w) (Nat.le_refl _) _ D _ _ (by omega) k1 rfl rfl)))
    have s00 : Below W.heap.size W W := Below.refl _ _
    have s0 : Below W.heap.size W W.drew := (Below.refl _ _).drew
    obtain ⟨⟨p0, p1, p2, p3, p4, p5, p6⟩, pr, pf⟩ := K.out _ s0
    clear hB hK aW rW dl hz z6 z4 hD
    gi_wp2_with fail
    refine Code.wpIn_mono NoPanic.imp ?_
    gi_region_with (refine ⟨trivial, ?_⟩; refine (callsIn_wide.2 (HS.out _ (by assumption))).mono ?_; rintro e w7 ⟨rfl, s7⟩; obtain ⟨⟨q0, q1, q2, q3, q4, q5, q6⟩, qr, qf⟩ := K.out _ s7)
    all_goals
      refine NoPanic.normal ?_
      obtain ⟨k1, k2, k3⟩ := FIN.out _ s7
      have K1 := hid k1
      have K3 := hid k3
      clear k1 k3
      gi_wp2
      refine ⟨by simp, .inl ⟨_, _, rfl, run_takeDeferred K1.out, ?_⟩⟩
      refine ⟨.bool true, ?_, rfl, K3.out⟩
      simp [results, Try.results8, go_sem, k2]
end Go.Proofs.Ytffmlnocednehaa
