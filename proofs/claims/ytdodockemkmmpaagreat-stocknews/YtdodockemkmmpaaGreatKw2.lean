/-
  What a state weighs, the document's.
-/
import Derived.Test.YtdodockemkmmpaaGreatKw1
namespace Go.Proofs.YtdodockemkmmpaaGreat
open Go.RowKit
set_option maxRecDepth 100000
set_option linter.unusedSimpArgs false

set_option maxHeartbeats 4000000 in
theorem rweight_any (s : Sx) (a1 : Option Addr) (p1 : Nat) (a2 : Option Addr) (p2 : Nat) (a3 : Option Addr) (p3 : Nat) (w : World) (h1 : RLv w (.slice a1 s.levels.length p1) s.levels) (h2 : RHl w a2 s.holds) (h3 : RDn w a3 s.done) (l2 : s.holds.length ≤ 9223372036854775807) (l3 : s.done.length ≤ 9223372036854775807) :
    Calls Tryz.prog 23 #[sxV s a1 p1 a2 p2 a3 p3] w fun e w' => e = .returned (.int .i64 (wrap64 (xs s : Nat))) ∧ Below w.heap.size w w' := by
  unfold sxV
  have l1 := h1.len
  obtain ⟨W, hW⟩ : ∃ W, w.alloc (.cells #[.int .i64 s.room, .int .i64 s.lsn, .int .i64 s.now, .slice a1 s.levels.length p1, .slice a2 s.holds.length p2, .slice a3 s.done.length p3] 32) = W := ⟨_, rfl⟩
  have HRW : W.heap[w.heap.size]? = some (.cells #[.int .i64 s.room, .int .i64 s.lsn, .int .i64 s.now, .slice a1 s.levels.length p1, .slice a2 s.holds.length p2, .slice a3 s.done.length p3] 32 (0, 0)) := by rw [← hW]; exact heap_alloc_new w _
  have BW := hid (show Below w.heap.size w W by rw [← hW]; exact (Below.refl _ _).alloc (Nat.le_refl _) _)
  have C3 := hid (show W.cell? ⟨w.heap.size, 3, none⟩ = some (.slice a1 s.levels.length p1) by rw [Lib.cell_of_heap HRW]; rfl)
  have C4 := hid (show W.cell? ⟨w.heap.size, 4, none⟩ = some (.slice a2 s.holds.length p2) by rw [Lib.cell_of_heap HRW]; rfl)
  have C5 := hid (show W.cell? ⟨w.heap.size, 5, none⟩ = some (.slice a3 s.done.length p3) by rw [Lib.cell_of_heap HRW]; rfl)
  have H1 := hid (h1.below BW.out)
  have H2 := hid (h2.below BW.out)
  have H3 := hid (h3.below BW.out)
  have HW := hid HRW
  have zW : w.heap.size < W.heap.size := (Array.getElem?_eq_some_iff.1 HRW).1
  clear h1 h2 h3 HRW
  go_enter Tryz.func23, Tryz.ntmps23
  go_wp2_with fail
  try rw [hW]
  clear hW
  go_loop [3, 4] (fun n i => ∃ k : Nat, k ≤ s.levels.length ∧ i = .int .i64 (k : Int) ∧ n = .int .i64 (wrap64 ((64 + xv (s.levels.take k) : Nat) : Int))) (fun _ i => s.levels.length - (intOf i).toNat)
  case atStart => exact ⟨0, by omega, rfl, by simp [xv, wrap64]⟩
  case round =>
    obtain ⟨k, hk, rfl, rfl⟩ := hrel
    have c3 := C3.out
    by_cases h : k < s.levels.length
    · have hI : (k : Int) < (s.levels.length : Int) := by omega
      rcases H1.out with ⟨h0, _⟩ | ⟨b, off, cp, hv, hcp, hcell⟩
      · rw [h0] at h; simp at h
      cases hv
      have d0 := (hcell k h).1
      have HT := hid (xv_take s.levels k h)
      clear hcell
      generalize (s.levels[k]'h).1 = x at *
      generalize xv (s.levels.take k) = m at *
      go_wp2_with fail
      go_round
      case rel => exact ⟨k + 1, by omega, by go_num, by rw [HT.out]; refine congrArg _ ?_; (try simp only [IntWalk.i64_left]); simp only [wrap64_l, wrap64_r]; refine wrap64_eq ?_; omega⟩
      case measure => simp [intOf]; omega
    · obtain rfl : k = s.levels.length := by omega
      rw [List.take_length]
      go_wp2_with fail
      clear c3
      go_loopw [3, 5] (fun n i wx => ∃ k : Nat, k ≤ s.holds.length ∧ i = .int .i64 (k : Int) ∧ n = .int .i64 (wrap64 ((64 + xv s.levels + xh (s.holds.take k) : Nat) : Int)) ∧ Below W.heap.size W wx) (fun _ i _ => s.holds.length - (intOf i).toNat)
      case atStart => exact ⟨0, by omega, rfl, by simp [xh], Below.refl _ _⟩
      case round =>
        clear hk
        obtain ⟨k, hk, rfl, rfl, hb⟩ := hrel
        have c4 := fun q => below_cells (below_drewN hb q) _ _ C4.out
        have c4' := below_cells hb _ _ C4.out
        by_cases h : k < s.holds.length
        · have hI : (k : Int) < (s.holds.length : Int) := by omega
          obtain ⟨b, off, a, p, rfl, d0', d1', r, d2'⟩ := H2.out k h
          have d0 := fun q => below_cells (below_drewN hb q) _ _ d0'
          have d1 := fun q => below_cells (below_drewN hb q) _ _ d1'
          have HT := hid (xh_take s.holds k h)
          have HC := hid (fun q => rhold_any (s.holds[k]'h).id _ (s.holds[k]'h).lines _ (r.below (below_drewN hb q)))
          generalize s.holds[k]'h = x at *
          generalize xh (s.holds.take k) = m at *
          have hz := hb.size
          have HB := hid hb
          clear hb r d0' d1' d2'
          go_wp2_with fail
          go_quiet (first | (go_at_call 44; refine Calls.quiet_of_same (HC.out _)))
          have B2 := hid (below_drewN HB.out nq)
          clear HC c4 c4' d0 d1
          go_wp2_with fail
          go_roundw
          case rel => exact ⟨k + 1, by omega, by go_num, by rw [HT.out]; refine congrArg _ ?_; unfold xh1; (try simp only [IntWalk.i64_left]); simp only [wrap64_l, wrap64_r]; refine wrap64_eq ?_; omega, B2.out⟩
          case measure => simp [intOf]; omega
        · obtain rfl : k = s.holds.length := by omega
          rw [List.take_length]
          go_wp2_with fail
          clear c4 c4'
          go_loopw [3, 6] (fun n i wx => ∃ k : Nat, k ≤ s.done.length ∧ i = .int .i64 (k : Int) ∧ n = .int .i64 (wrap64 ((64 + xv s.levels + xh s.holds + xd (s.done.take k) : Nat) : Int)) ∧ Below W.heap.size W wx) (fun _ i _ => s.done.length - (intOf i).toNat)
          case atStart => exact ⟨0, by omega, rfl, by simp [xd], hb⟩
          case round =>
            clear hb hk
            obtain ⟨k, hk, rfl, rfl, hb⟩ := hrel
            have c5 := below_cells hb _ _ C5.out
            by_cases h : k < s.done.length
            · have hI : (k : Int) < (s.done.length : Int) := by omega
              obtain ⟨b, off, a, p, rfl, d0, d1, d2, r, d3, d4, d5, d6⟩ := (H3.out.below hb) k h
              have HT := hid (xd_take s.done k h)
              have HC := hid (rreq_any (s.done[k]'h).req a p _ r)
              unfold rqV at HC
              generalize s.done[k]'h = x at *
              generalize xd (s.done.take k) = m at *
              have hz := hb.size
              have HB := hid hb
              clear hb r d6
              go_wp2_with fail
              refine Calls.mono HC.out ?_
              rintro e w3 ⟨rfl, hb3⟩
              have B3 := hid (HB.out.trans (hb3.mono hz))
              clear hb3 HC d0 d1 d2 d3 d4 d5 c5 HB
              go_wp2_with fail
              go_roundw
              case rel => exact ⟨k + 1, by omega, by go_num, by rw [HT.out]; refine congrArg _ ?_; (try simp only [IntWalk.i64_left]); simp only [wrap64_l, wrap64_r]; refine wrap64_eq ?_; omega, B3.out⟩
              case measure => simp [intOf]; omega
            · obtain rfl : k = s.done.length := by omega
              rw [List.take_length]
              go_wp2
              go_ret
              exact ⟨rfl, BW.out.trans (hb.mono (by omega))⟩
end Go.Proofs.YtdodockemkmmpaaGreat
