/-
  stock: the document's Normal of what is well formed.
-/
import Derived.Test.YtebkagmlhmdckaaGreatCka
import Derived.Deep.RegionWith
namespace Go.Proofs.YtebkagmlhmdckaaGreat
open Go.RowKit
set_option maxRecDepth 100000
set_option linter.unusedSimpArgs false

theorem ckA_ok {r : Rq} : (ckA r).1 = 0 → ckA r = (0, 0) := by
  unfold ckA
  split
  · intro h; exact absurd h (by decide)
  · split
    · intro h; exact absurd h (by decide)
    · split
      · intro h; exact absurd h (by decide)
      · split
        · rename_i c
          intro h
          exact absurd h c.2
        · split
          · intro h; exact absurd h (by decide)
          · split
            · intro h; exact absurd h (by decide)
            · split
              · intro h; exact absurd h (by decide)
              · intro _
                rfl
theorem ptN_take (L : List Ln) (k : Nat) (h : k < L.length) : ptN (L.take (k + 1)) = pt (ptN (L.take k)) L[k] := by
  unfold ptN
  rw [List.take_succ_eq_append_getElem h, List.foldl_append]
  rfl
theorem pt_len (N : List Ln) (x : Ln) : (pt N x).length ≤ 2 * N.length + 1 := by
  unfold pt ptE
  have := ptS_len x N ([], false)
  split
  · simp at this; omega
  · simp at this ⊢; omega
theorem pt_len1 (N : List Ln) (x : Ln) (hu : N.Pairwise fun x y => ky x < ky y) : (pt N x).length ≤ N.length + 1 := by
  induction N with
  | nil => simp [pt, ptE]
  | cons a t ih =>
    have ih := ih (List.pairwise_cons.1 hu).2
    rw [pt_cons a x t hu]
    split
    · simp
    · split
      · simp
      · simp; omega
theorem ptN_len (L : List Ln) (hi : ∀ y ∈ L, I64 y.2) : (ptN L).length ≤ L.length := by
  have key : ∀ k, k ≤ L.length → (ptN (L.take k)).length ≤ k := by
    intro k
    induction k with
    | zero => intro _; simp [ptN]
    | succ k ih =>
      intro hk
      have h := ih (by omega)
      rw [ptN_take L k (by omega)]
      have := pt_len1 (ptN (L.take k)) (L[k]'(by omega)) (ptN_nrm (L.take k) (fun y hy => hi y (List.mem_of_mem_take hy))).up
      omega
  simpa using key L.length (Nat.le_refl _)
set_option maxHeartbeats 8000000 in
theorem rNormal_ok (r : Rq) (ao : Option Addr) (cap : Nat) (w : World) (hR : RLn w (.slice ao r.lines.length cap) r.lines) (hS : ∀ y ∈ r.lines, y.1.size ≤ 9223372036854775807) (h1 : r.id.size ≤ 9223372036854775807) (h2 : r.hold.size ≤ 9223372036854775807) (hi : ∀ y ∈ r.lines, I64 y.2) (hl : r.lines.length ≤ 1000000) (hc : (ckA r).1 = 0) :
    Calls Tryz.prog 8 #[rqV r ao cap] w fun e w' => ∃ v', e = .returned (.tuple #[.agg #[.string r.id, .int .i64 r.kind, v', .string r.hold, .int .i64 r.ttl, .int .i64 r.now], .int .i64 0, .int .i64 0]) ∧ OLn w' w.heap.size v' (ptN r.lines) ∧ Below w.heap.size w w' := by
  obtain ⟨W, hW⟩ : ∃ W, (w.alloc (.cells #[.string r.id, .int .i64 r.kind, .slice ao r.lines.length cap, .string r.hold, .int .i64 r.ttl, .int .i64 r.now] 24)).alloc (.cells #[.string ⟨#[]⟩, .int .i64 0, .slice none 0 0, .string ⟨#[]⟩, .int .i64 0, .int .i64 0] 24) = W := ⟨_, rfl⟩
  have zW : W.heap.size = w.heap.size + 2 := by rw [← hW]; simp
  have BW := hid (show Below w.heap.size w W by rw [← hW]; exact ((Below.refl _ _).alloc (Nat.le_refl _) _).alloc (by simp) _)
  have A1 : W.heap[w.heap.size]? = some (.cells #[.string r.id, .int .i64 r.kind, .slice ao r.lines.length cap, .string r.hold, .int .i64 r.ttl, .int .i64 r.now] 24 (0, 0)) := by
    rw [← hW]
    exact (((Below.refl (w.alloc (.cells #[.string r.id, .int .i64 r.kind, .slice ao r.lines.length cap, .string r.hold, .int .i64 r.ttl, .int .i64 r.now] 24)).heap.size _).alloc (Nat.le_refl _) _).block w.heap.size (by simp)).trans (heap_alloc_new w _)
  have A2 : W.heap[w.heap.size + 1]? = some (.cells #[.string ⟨#[]⟩, .int .i64 0, .slice none 0 0, .string ⟨#[]⟩, .int .i64 0, .int .i64 0] 24 (0, 0)) := by
    rw [← hW]
    have := heap_alloc_new (w.alloc (.cells #[.string r.id, .int .i64 r.kind, .slice ao r.lines.length cap, .string r.hold, .int .i64 r.ttl, .int .i64 r.now] 24)) (.cells #[.string ⟨#[]⟩, .int .i64 0, .slice none 0 0, .string ⟨#[]⟩, .int .i64 0, .int .i64 0] 24)
    rw [World.size_alloc] at this
    exact this
  have HC := hid (rCheck_any r ao cap W (hR.below BW.out) hS h1 h2)
  have HL := hid (hR.below BW.out)
  obtain ⟨c0, c1, c2, c3, c4, c5⟩ : W.cell? ⟨w.heap.size, 0, none⟩ = some (.string r.id) ∧ W.cell? ⟨w.heap.size, 1, none⟩ = some (.int .i64 r.kind) ∧ W.cell? ⟨w.heap.size, 2, none⟩ = some (.slice ao r.lines.length cap) ∧ W.cell? ⟨w.heap.size, 3, none⟩ = some (.string r.hold) ∧ W.cell? ⟨w.heap.size, 4, none⟩ = some (.int .i64 r.ttl) ∧ W.cell? ⟨w.heap.size, 5, none⟩ = some (.int .i64 r.now) := ⟨by rw [Lib.cell_of_heap A1]; rfl, by rw [Lib.cell_of_heap A1]; rfl, by rw [Lib.cell_of_heap A1]; rfl, by rw [Lib.cell_of_heap A1]; rfl, by rw [Lib.cell_of_heap A1]; rfl, by rw [Lib.cell_of_heap A1]; rfl⟩
  have HW := hid hW
  have R1 := hid A1
  have R2 := hid A2
  have ZW := hid zW
  unfold rqV at HC ⊢
  rw [ckA_ok hc] at HC
  clear hR hS h1 h2 A1 A2 hW zW hc
  go_enter Tryz.func8, Tryz.ntmps8
  go_upto_region 1 with fail
  rw [HW.out]
  go_wp2_with fail
  refine Calls.mono HC.out ?_
  rintro e w3 ⟨rfl, hb3⟩
  obtain ⟨W4, hW4⟩ : ∃ W4, w3.alloc (.cells #[.string r.id, .int .i64 r.kind, .slice none 0 0, .string r.hold, .int .i64 r.ttl, .int .i64 r.now] 24) = W4 := ⟨_, rfl⟩
  have b4 : Below W.heap.size W W4 := by rw [← hW4]; exact hb3.alloc hb3.size _
  have z3 := hb3.size
  have z4 : W4.heap.size = w3.heap.size + 1 := by rw [← hW4, World.size_alloc]
  have N4 := hid (show W4.heap[w3.heap.size]? = some (.cells #[.string r.id, .int .i64 r.kind, .slice none 0 0, .string r.hold, .int .i64 r.ttl, .int .i64 r.now] 24 (0, 0)) by rw [← hW4]; exact heap_alloc_new w3 _)
  have e1 := (hb3.block w.heap.size (by rw [ZW.out]; omega)).trans R1.out
  clear c0 c1 c2 c3 c4 c5
  obtain ⟨c0, c1, c2, c3, c4, c5⟩ : w3.cell? ⟨w.heap.size, 0, none⟩ = some (.string r.id) ∧ w3.cell? ⟨w.heap.size, 1, none⟩ = some (.int .i64 r.kind) ∧ w3.cell? ⟨w.heap.size, 2, none⟩ = some (.slice ao r.lines.length cap) ∧ w3.cell? ⟨w.heap.size, 3, none⟩ = some (.string r.hold) ∧ w3.cell? ⟨w.heap.size, 4, none⟩ = some (.int .i64 r.ttl) ∧ w3.cell? ⟨w.heap.size, 5, none⟩ = some (.int .i64 r.now) := ⟨by rw [Lib.cell_of_heap e1]; rfl, by rw [Lib.cell_of_heap e1]; rfl, by rw [Lib.cell_of_heap e1]; rfl, by rw [Lib.cell_of_heap e1]; rfl, by rw [Lib.cell_of_heap e1]; rfl, by rw [Lib.cell_of_heap e1]; rfl⟩
  have B4 := hid b4
  have HW4 := hid hW4
  have Z := hid (And.intro z3 z4)
  clear hb3 HC e1 b4 hW4 z3 z4
  go_wp2_with fail
  rw [HW4.out]
  clear c0 c1 c2 c3 c4 c5 HW4
  go_loopw [8] (fun i wr => ∃ k : Nat, k ≤ r.lines.length ∧ i = .int .i64 (k : Int) ∧ (∃ o, wr.heap[w3.heap.size]? = some (.cells #[.string r.id, .int .i64 r.kind, o, .string r.hold, .int .i64 r.ttl, .int .i64 r.now] 24 (0, 0)) ∧ OLn wr W4.heap.size o (ptN (r.lines.take k))) ∧ Below w3.heap.size W4 wr) (fun i _ => r.lines.length - (intOf i).toNat)
  case atStart => exact ⟨0, by omega, rfl, ⟨_, N4.out, by simpa [ptN] using OLn.none W4 W4.heap.size⟩, Below.refl _ _⟩
  case round =>
    obtain ⟨k, hk, rfl, ⟨o, hn, ho⟩, hb⟩ := hrel
    obtain ⟨oo, on, oc, rfl⟩ := ho.form
    have z3 := Z.out.1
    have z4 := Z.out.2
    have zw := ZW.out
    have hz := hb.size
    have bWr : Below W.heap.size W wr := B4.out.trans (hb.mono z3)
    have e1 := (bWr.block w.heap.size (by omega)).trans R1.out
    by_cases h : k < r.lines.length
    · have hI : (k : Int) < (r.lines.length : Int) := by omega
      have HT := hid (ptN_take r.lines k h)
      have hlen : (ptN (r.lines.take k)).length ≤ 1000000 := by
        have := ptN_len (r.lines.take k) (fun y hy => hi y (List.mem_of_mem_take hy))
        rw [List.length_take] at this
        omega
      have HP := hid (fun (wx : World) (hx : Below wr.heap.size wr wx) => put_any _ (ptN (r.lines.take k)) (r.lines[k]'h) wx (ho.reads.below hx) hlen)
      rcases HL.out with ⟨e0, _⟩ | ⟨b, off, cp, hv, hcp, hcell⟩
      · rw [e0] at h; simp at h
      cases hv
      have d0 := below_cells bWr _ _ (hcell k h).1
      have d1 := below_cells bWr _ _ (hcell k h).2
      have c2 : wr.cell? ⟨w.heap.size, 2, none⟩ = some (.slice (some ⟨b, off, none⟩) r.lines.length cap) := by rw [Lib.cell_of_heap e1]; rfl
      have m2 : wr.cell? ⟨w3.heap.size, 2, none⟩ = some (.slice oo on oc) := by rw [Lib.cell_of_heap hn]; rfl
      have s0 : Below wr.heap.size wr wr.drew := (Below.refl _ _).drew
      have s00 : Below wr.heap.size wr wr := Below.refl _ _
      have D0 := below_cells s0 _ _ d0
      have D1 := below_cells s0 _ _ d1
      have C2 := below_cells s0 _ _ c2
      have M2 := below_cells s0 _ _ m2
      have hnl : w3.heap.size < wr.heap.size := by omega
      have HN := hid hn
      have HB := hid hb
      have HO := hid ho
      clear hcell hcp hb hn ho e1 bWr
      generalize (r.lines[k]'h).1 = x1 at *
      generalize (r.lines[k]'h).2 = x2 at *
      go_wp2_with fail
      go_region_with (go_at_call 24; refine (HP.out _ (by assumption)).mono ?_; rintro e w5 ⟨v5, rfl, ho5, hb5⟩; obtain ⟨po, pn, pc, rfl⟩ := ho5.form; have g5 := (hb5.block w3.heap.size hnl).trans HN.out; have G2 : w5.cell? ⟨w3.heap.size, 2, none⟩ = some (.slice oo on oc) := (by rw [Lib.cell_of_heap g5]; rfl); have F2 : w5.frozen? ⟨w3.heap.size, 2, none⟩ = false := Lib.frozen_of_heap g5 2)
      all_goals
        have O6 := hid (show OLn (w5.setCell ⟨w3.heap.size, 2, none⟩ (.slice po pn pc)) W4.heap.size (.slice po pn pc) (ptN (r.lines.take (k + 1))) by
          rw [HT.out]
          exact (ho5.lower (show W4.heap.size ≤ wr.heap.size from hz)).old (fun j hj _ => heap_setCell_other w5 ⟨w3.heap.size, 2, none⟩ j _ (by show j ≠ w3.heap.size; omega)))
        have N6 := hid (heap_setCell_same w5 w3.heap.size 2 _ _ (.slice po pn pc) g5)
        have B6 := hid ((HB.out.drew.trans (hb5.mono (show w3.heap.size ≤ wr.heap.size by omega))).setCell (p := ⟨w3.heap.size, 2, none⟩) (Nat.le_refl _) (.slice po pn pc))
        clear ho5 hb5 g5 G2 F2
        go_wp2_with fail
        go_roundw
        case rel => exact ⟨k + 1, by omega, by go_num, ⟨_, N6.out, O6.out⟩, B6.out⟩
        case measure => simp [intOf]; omega
    · obtain rfl : k = r.lines.length := by omega
      rw [List.take_length] at ho
      have E2 := (bWr.block (w.heap.size + 1) (by omega)).trans R2.out
      have bw := BW.out.trans (bWr.mono (by omega))
      have m0 : wr.cell? ⟨w3.heap.size, 0, none⟩ = some (.string r.id) := by rw [Lib.cell_of_heap hn]; rfl
      have m1 : wr.cell? ⟨w3.heap.size, 1, none⟩ = some (.int .i64 r.kind) := by rw [Lib.cell_of_heap hn]; rfl
      have m2 : wr.cell? ⟨w3.heap.size, 2, none⟩ = some (.slice oo on oc) := by rw [Lib.cell_of_heap hn]; rfl
      have m3 : wr.cell? ⟨w3.heap.size, 3, none⟩ = some (.string r.hold) := by rw [Lib.cell_of_heap hn]; rfl
      have m4 : wr.cell? ⟨w3.heap.size, 4, none⟩ = some (.int .i64 r.ttl) := by rw [Lib.cell_of_heap hn]; rfl
      have m5 : wr.cell? ⟨w3.heap.size, 5, none⟩ = some (.int .i64 r.now) := by rw [Lib.cell_of_heap hn]; rfl
      have d0 : wr.cell? ⟨w.heap.size + 1, 0, none⟩ = some (.string ⟨#[]⟩) := by rw [Lib.cell_of_heap E2]; rfl
      have f0 : wr.frozen? ⟨w.heap.size + 1, 0, none⟩ = false := Lib.frozen_of_heap E2 0
      have d1 : wr.cell? ⟨w.heap.size + 1, 1, none⟩ = some (.int .i64 0) := by rw [Lib.cell_of_heap E2]; rfl
      have f1 : wr.frozen? ⟨w.heap.size + 1, 1, none⟩ = false := Lib.frozen_of_heap E2 1
      have d2 : wr.cell? ⟨w.heap.size + 1, 2, none⟩ = some (.slice none 0 0) := by rw [Lib.cell_of_heap E2]; rfl
      have f2 : wr.frozen? ⟨w.heap.size + 1, 2, none⟩ = false := Lib.frozen_of_heap E2 2
      have d3 : wr.cell? ⟨w.heap.size + 1, 3, none⟩ = some (.string ⟨#[]⟩) := by rw [Lib.cell_of_heap E2]; rfl
      have f3 : wr.frozen? ⟨w.heap.size + 1, 3, none⟩ = false := Lib.frozen_of_heap E2 3
      have d4 : wr.cell? ⟨w.heap.size + 1, 4, none⟩ = some (.int .i64 0) := by rw [Lib.cell_of_heap E2]; rfl
      have f4 : wr.frozen? ⟨w.heap.size + 1, 4, none⟩ = false := Lib.frozen_of_heap E2 4
      have d5 : wr.cell? ⟨w.heap.size + 1, 5, none⟩ = some (.int .i64 0) := by rw [Lib.cell_of_heap E2]; rfl
      have f5 : wr.frozen? ⟨w.heap.size + 1, 5, none⟩ = false := Lib.frozen_of_heap E2 5
      have c2 : wr.cell? ⟨w.heap.size, 2, none⟩ = some (.slice ao r.lines.length cap) := by rw [Lib.cell_of_heap e1]; rfl
      obtain ⟨W7, hW7⟩ : ∃ W7, ((((((wr.setCell ⟨w.heap.size + 1, 0, none⟩ (.string r.id)).setCell ⟨w.heap.size + 1, 1, none⟩ (.int .i64 r.kind)).setCell ⟨w.heap.size + 1, 2, none⟩ (.slice oo on oc)).setCell ⟨w.heap.size + 1, 3, none⟩ (.string r.hold)).setCell ⟨w.heap.size + 1, 4, none⟩ (.int .i64 r.ttl)).setCell ⟨w.heap.size + 1, 5, none⟩ (.int .i64 r.now)) = W7 := ⟨_, rfl⟩
      have E7 : W7.heap[w.heap.size + 1]? = some (.cells #[.string r.id, .int .i64 r.kind, .slice oo on oc, .string r.hold, .int .i64 r.ttl, .int .i64 r.now] 24 (0, 0)) := by rw [← hW7]; exact (heap_setCell_same _ _ 5 _ _ _ (heap_setCell_same _ _ 4 _ _ _ (heap_setCell_same _ _ 3 _ _ _ (heap_setCell_same _ _ 2 _ _ _ (heap_setCell_same _ _ 1 _ _ _ (heap_setCell_same _ _ 0 _ _ _ E2))))))
      have B7 := hid (show Below w.heap.size w W7 by rw [← hW7]; exact ((((((bw.setCell (p := ⟨w.heap.size + 1, 0, none⟩) (by show w.heap.size ≤ w.heap.size + 1; omega) _).setCell (p := ⟨w.heap.size + 1, 1, none⟩) (by show w.heap.size ≤ w.heap.size + 1; omega) _).setCell (p := ⟨w.heap.size + 1, 2, none⟩) (by show w.heap.size ≤ w.heap.size + 1; omega) _).setCell (p := ⟨w.heap.size + 1, 3, none⟩) (by show w.heap.size ≤ w.heap.size + 1; omega) _).setCell (p := ⟨w.heap.size + 1, 4, none⟩) (by show w.heap.size ≤ w.heap.size + 1; omega) _).setCell (p := ⟨w.heap.size + 1, 5, none⟩) (by show w.heap.size ≤ w.heap.size + 1; omega) _))
      have O7 := hid (show OLn W7 w.heap.size (.slice oo on oc) (ptN r.lines) by
        refine (ho.lower (B' := w.heap.size + 2) (by omega)).old (fun j hj _ => ?_) |>.lower (by omega)
        rw [← hW7]
        rw [heap_setCell_other _ ⟨w.heap.size + 1, 5, none⟩ j _ (by show j ≠ w.heap.size + 1; omega), heap_setCell_other _ ⟨w.heap.size + 1, 4, none⟩ j _ (by show j ≠ w.heap.size + 1; omega), heap_setCell_other _ ⟨w.heap.size + 1, 3, none⟩ j _ (by show j ≠ w.heap.size + 1; omega), heap_setCell_other _ ⟨w.heap.size + 1, 2, none⟩ j _ (by show j ≠ w.heap.size + 1; omega), heap_setCell_other _ ⟨w.heap.size + 1, 1, none⟩ j _ (by show j ≠ w.heap.size + 1; omega), heap_setCell_other _ ⟨w.heap.size + 1, 0, none⟩ j _ (by show j ≠ w.heap.size + 1; omega)])
      have g0 : W7.cell? ⟨w.heap.size + 1, 0, none⟩ = some (.string r.id) := by rw [Lib.cell_of_heap E7]; rfl
      have g1 : W7.cell? ⟨w.heap.size + 1, 1, none⟩ = some (.int .i64 r.kind) := by rw [Lib.cell_of_heap E7]; rfl
      have g2 : W7.cell? ⟨w.heap.size + 1, 2, none⟩ = some (.slice oo on oc) := by rw [Lib.cell_of_heap E7]; rfl
      have g3 : W7.cell? ⟨w.heap.size + 1, 3, none⟩ = some (.string r.hold) := by rw [Lib.cell_of_heap E7]; rfl
      have g4 : W7.cell? ⟨w.heap.size + 1, 4, none⟩ = some (.int .i64 r.ttl) := by rw [Lib.cell_of_heap E7]; rfl
      have g5 : W7.cell? ⟨w.heap.size + 1, 5, none⟩ = some (.int .i64 r.now) := by rw [Lib.cell_of_heap E7]; rfl
      have HW7 := hid hW7
      clear ho hn hb bWr e1 E2 bw hW7 E7
      go_wp2_with fail
      rw [HW7.out]
      refine bodyPost_ret (by simp [results, Tryz.results8, go_sem, g0, g1, g2, g3, g4, g5]; try rfl) rfl ?_
      exact ⟨_, rfl, O7.out, B7.out⟩
end Go.Proofs.YtebkagmlhmdckaaGreat
