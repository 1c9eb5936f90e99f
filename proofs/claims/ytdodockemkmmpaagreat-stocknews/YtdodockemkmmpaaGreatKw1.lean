/-
  What lines, holds, what is done and states weigh: the program's and the document's.
-/
import Derived.Test.YtdodockemkmmpaaGreatKb1
import Derived.Deep.RegionHeld3
namespace Go.Proofs.YtdodockemkmmpaaGreat
open Go.RowKit
set_option maxRecDepth 100000
set_option linter.unusedSimpArgs false

theorem wrap64_l (a b : Int) : wrap64 (wrap64 a + b) = wrap64 (a + b) := by unfold wrap64; omega
theorem wrap64_r (a b : Int) : wrap64 (a + wrap64 b) = wrap64 (a + b) := by unfold wrap64; omega
theorem wrap64_eq {a b : Int} (h : a = b) : wrap64 a = wrap64 b := by rw [h]
/-- what lines weigh -/
def wq (L : List Ln) : Nat := (L.map fun x => 11 + x.1.size).sum
theorem wq_take (L : List Ln) (j : Nat) (h : j < L.length) : wq (L.take (j + 1)) = wq (L.take j) + (11 + L[j].1.size) := by
  unfold wq
  rw [List.take_succ_eq_append_getElem h, List.map_append, List.sum_append]
  simp
/-- what levels, a hold, something done, a state weigh -/
def xv (L : List Lv) : Nat := (L.map fun x => 21 + x.1.size).sum
def xh1 (x : Hl) : Nat := 14 + x.id.size + wq x.lines
def xr1 (r : Rq) : Nat := 40 + r.id.size + r.hold.size + wq r.lines
def xh (L : List Hl) : Nat := (L.map xh1).sum
def xd (L : List Dn) : Nat := (L.map fun x => 11 + xr1 x.req).sum
def xs (s : Sx) : Nat := 64 + xv s.levels + xh s.holds + xd s.done
theorem xv_take (L : List Lv) (j : Nat) (h : j < L.length) : xv (L.take (j + 1)) = xv (L.take j) + (21 + L[j].1.size) := by
  unfold xv
  rw [List.take_succ_eq_append_getElem h, List.map_append, List.sum_append]
  simp
theorem xh_take (L : List Hl) (j : Nat) (h : j < L.length) : xh (L.take (j + 1)) = xh (L.take j) + xh1 L[j] := by
  unfold xh
  rw [List.take_succ_eq_append_getElem h, List.map_append, List.sum_append]
  simp
theorem xd_take (L : List Dn) (j : Nat) (h : j < L.length) : xd (L.take (j + 1)) = xd (L.take j) + (11 + xr1 L[j].req) := by
  unfold xd
  rw [List.take_succ_eq_append_getElem h, List.map_append, List.sum_append]
  simp
set_option maxHeartbeats 1000000 in
theorem wlines_any (v : Value) (L : List Ln) (w : World) (hR : RLn w v L) :
    Calls Tryz.prog 62 #[v] w fun e w' => e = .returned (.int .i64 (wrap64 (wq L : Nat))) ∧ Below w.heap.size w w' := by
  obtain ⟨ao, cap, rfl⟩ := hR.form
  have hln := hR.len
  have HR := hid hR
  clear hR
  go_enter Tryz.func62, Tryz.ntmps62
  go_wp2_with fail
  go_loopw [3, 8] (fun n i wr => ∃ k : Nat, k ≤ L.length ∧ i = .int .i64 (k : Int) ∧ n = .int .i64 (wrap64 (wq (L.take k) : Nat)) ∧ Below w.heap.size w wr) (fun _ i _ => L.length - (intOf i).toNat)
  case atStart => exact ⟨0, by omega, rfl, by simp [wq, wrap64], Below.refl _ _⟩
  case round =>
    obtain ⟨k, hk, rfl, rfl, hb⟩ := hrel
    by_cases h : k < L.length
    · have hI : (k : Int) < (L.length : Int) := by omega
      rcases HR.out with ⟨h0, _⟩ | ⟨b, off, cp, hv, hcp, hcell⟩
      · rw [h0] at h; simp at h
      cases hv
      have c0 := below_cells hb _ _ (hcell k h).1
      have c1 := below_cells hb _ _ (hcell k h).2
      have HT := hid (wq_take L k h)
      have HB := hid hb
      have hz := hb.size
      clear hcell hb
      generalize (L[k]'h).1 = x at *
      generalize (L[k]'h).2 = y at *
      generalize wq (L.take k) = m at *
      go_wp2_with fail
      go_roundw
      case rel => exact ⟨k + 1, by omega, by go_num, by rw [HT.out]; refine congrArg _ ?_; (try simp only [IntWalk.i64_left]); simp only [wrap64_l, wrap64_r]; refine wrap64_eq ?_; omega, HB.out.alloc hz _⟩
      case measure => simp [intOf]; omega
    · obtain rfl : k = L.length := by omega
      rw [List.take_length]
      go_wp2
      go_ret
      exact ⟨rfl, hb⟩
set_option maxHeartbeats 1000000 in
theorem rlines_any (v : Value) (L : List Ln) (w : World) (hR : RLn w v L) :
    Calls Tryz.prog 70 #[v] w fun e w' => e = .returned (.int .i64 (wrap64 (wq L : Nat))) ∧ w' = w := by
  obtain ⟨ao, cap, rfl⟩ := hR.form
  have hln := hR.len
  have HR := hid hR
  clear hR
  go_enter Tryz.func70, Tryz.ntmps70
  go_wp2_with fail
  go_loop [3, 4] (fun n i => ∃ k : Nat, k ≤ L.length ∧ i = .int .i64 (k : Int) ∧ n = .int .i64 (wrap64 (wq (L.take k) : Nat))) (fun _ i => L.length - (intOf i).toNat)
  case atStart => exact ⟨0, by omega, rfl, by simp [wq, wrap64]⟩
  case round =>
    obtain ⟨k, hk, rfl, rfl⟩ := hrel
    by_cases h : k < L.length
    · have hI : (k : Int) < (L.length : Int) := by omega
      rcases HR.out with ⟨h0, _⟩ | ⟨b, off, cp, hv, hcp, hcell⟩
      · rw [h0] at h; simp at h
      cases hv
      have c0 := (hcell k h).1
      have HT := hid (wq_take L k h)
      clear hcell
      generalize (L[k]'h).1 = x at *
      generalize wq (L.take k) = m at *
      go_wp2_with fail
      go_round
      case rel => exact ⟨k + 1, by omega, by go_num, by rw [HT.out]; refine congrArg _ ?_; (try simp only [IntWalk.i64_left]); simp only [wrap64_l, wrap64_r]; refine wrap64_eq ?_; omega⟩
      case measure => simp [intOf]; omega
    · obtain rfl : k = L.length := by omega
      rw [List.take_length]
      go_wp2
      go_ret
      exact ⟨rfl, rfl⟩
theorem whold_any (id : ByteArray) (v : Value) (L : List Ln) (w : World) (hR : RLn w v L) :
    Calls Tryz.prog 38 #[.string id, v] w fun e w' => e = .returned (.int .i64 (wrap64 ((14 + id.size + wq L : Nat) : Int))) ∧ Below w.heap.size w w' := by
  have HC := hid (wlines_any v L w hR)
  obtain ⟨ao, cap, rfl⟩ := hR.form
  clear hR
  go_enter Tryz.func38, Tryz.ntmps38
  go_wp2_with fail
  refine Calls.mono HC.out ?_
  rintro e w' ⟨rfl, hb⟩
  go_wp2
  go_ret
  exact ⟨by refine congrArg _ (congrArg (Value.int .i64) ?_); (try simp only [IntWalk.i64_left]); simp only [wrap64_l, wrap64_r]; refine wrap64_eq ?_; omega, hb⟩
theorem rhold_any (id : ByteArray) (v : Value) (L : List Ln) (w : World) (hR : RLn w v L) :
    Calls Tryz.prog 44 #[.string id, v] w fun e w' => e = .returned (.int .i64 (wrap64 ((14 + id.size + wq L : Nat) : Int))) ∧ w' = w := by
  have HC := hid (rlines_any v L w hR)
  obtain ⟨ao, cap, rfl⟩ := hR.form
  clear hR
  go_enter Tryz.func44, Tryz.ntmps44
  go_wp2_with fail
  refine Calls.mono HC.out ?_
  rintro e w' ⟨rfl, rfl⟩
  go_wp2
  go_ret
  exact ⟨by refine congrArg _ (congrArg (Value.int .i64) ?_); (try simp only [IntWalk.i64_left]); simp only [wrap64_l, wrap64_r]; refine wrap64_eq ?_; omega, rfl⟩
set_option maxHeartbeats 1000000 in
theorem rreq_any (r : Rq) (ao : Option Addr) (cap : Nat) (w : World) (hR : RLn w (.slice ao r.lines.length cap) r.lines) :
    Calls Tryz.prog 45 #[rqV r ao cap] w fun e w' => e = .returned (.int .i64 (wrap64 (xr1 r : Nat))) ∧ Below w.heap.size w w' := by
  unfold rqV
  obtain ⟨W, hW⟩ : ∃ W, w.alloc (.cells #[.string r.id, .int .i64 r.kind, .slice ao r.lines.length cap, .string r.hold, .int .i64 r.ttl, .int .i64 r.now] 41) = W := ⟨_, rfl⟩
  have HRW : W.heap[w.heap.size]? = some (.cells #[.string r.id, .int .i64 r.kind, .slice ao r.lines.length cap, .string r.hold, .int .i64 r.ttl, .int .i64 r.now] 41 (0, 0)) := by rw [← hW]; exact heap_alloc_new w _
  have BW := hid (show Below w.heap.size w W by rw [← hW]; exact (Below.refl _ _).alloc (Nat.le_refl _) _)
  have c0 : ∀ q, (W.drewN q).cell? ⟨w.heap.size, 0, none⟩ = some (.string r.id) := fun q => by rw [Lib.cell_of_heap (w := W.drewN q) HRW]; rfl
  have c2 : ∀ q, (W.drewN q).cell? ⟨w.heap.size, 2, none⟩ = some (.slice ao r.lines.length cap) := fun q => by rw [Lib.cell_of_heap (w := W.drewN q) HRW]; rfl
  have c3 : ∀ q, (W.drewN q).cell? ⟨w.heap.size, 3, none⟩ = some (.string r.hold) := fun q => by rw [Lib.cell_of_heap (w := W.drewN q) HRW]; rfl
  have HC := hid (fun q => rlines_any _ r.lines (W.drewN q) ((hR.below BW.out).below (below_drewN (Below.refl _ _) q)))
  clear hR HRW
  go_enter Tryz.func45, Tryz.ntmps45
  go_wp2_with fail
  try rw [hW]
  clear hW
  go_quiet (first | (go_at_call 70; refine Calls.quiet_of_same (HC.out _)))
  have B2 := hid (below_drewN BW.out nq)
  go_wp2
  go_ret
  exact ⟨by refine congrArg _ (congrArg (Value.int .i64) ?_); unfold xr1; (try simp only [IntWalk.i64_left]); simp only [wrap64_l, wrap64_r]; refine wrap64_eq ?_; omega, B2.out⟩
set_option maxHeartbeats 1000000 in
theorem wdone_any (d : Dn) (ao : Option Addr) (cap : Nat) (w : World) (hR : RLn w (.slice ao d.req.lines.length cap) d.req.lines) :
    Calls Tryz.prog 39 #[dnV d ao cap] w fun e w' => e = .returned (.int .i64 (wrap64 ((11 + xr1 d.req : Nat) : Int))) ∧ Below w.heap.size w w' := by
  unfold dnV
  obtain ⟨W, hW⟩ : ∃ W, w.alloc (.cells #[.string d.req.id, .int .i64 d.req.kind, .slice ao d.req.lines.length cap, .string d.req.hold, .int .i64 d.req.ttl, .int .i64 d.req.now, .int .i64 d.at'] 65) = W := ⟨_, rfl⟩
  have HRW : W.heap[w.heap.size]? = some (.cells #[.string d.req.id, .int .i64 d.req.kind, .slice ao d.req.lines.length cap, .string d.req.hold, .int .i64 d.req.ttl, .int .i64 d.req.now, .int .i64 d.at'] 65 (0, 0)) := by rw [← hW]; exact heap_alloc_new w _
  have BW := hid (show Below w.heap.size w W by rw [← hW]; exact (Below.refl _ _).alloc (Nat.le_refl _) _)
  have zW : W.heap.size = w.heap.size + 1 := by rw [← hW, World.size_alloc]
  have K : ∀ wx, Below W.heap.size W wx → wx.cell? ⟨w.heap.size, 0, none⟩ = some (.string d.req.id) ∧ wx.cell? ⟨w.heap.size, 2, none⟩ = some (.slice ao d.req.lines.length cap) ∧ wx.cell? ⟨w.heap.size, 3, none⟩ = some (.string d.req.hold) := fun wx hb => by
    have hx := (hb.block w.heap.size (by omega)).trans HRW
    exact ⟨by rw [Lib.cell_of_heap hx]; rfl, by rw [Lib.cell_of_heap hx]; rfl, by rw [Lib.cell_of_heap hx]; rfl⟩
  have HC := hid (fun (wx : World) (hb : Below W.heap.size W wx) => (wlines_any _ d.req.lines wx ((hR.below BW.out).below hb)).mono fun e w' g => (show e = .returned (.int .i64 (wrap64 (wq d.req.lines : Nat))) ∧ Below W.heap.size W w' from ⟨g.1, hb.trans (g.2.mono hb.size)⟩))
  have HK := hid K
  have s00 : Below W.heap.size W W := Below.refl _ _
  have s0 : Below W.heap.size W W.drew := (Below.refl _ _).drew
  clear hR HRW K
  go_enter Tryz.func39, Tryz.ntmps39
  go_wp2_with fail
  try rw [hW]
  clear hW
  go_region_held3 (fun wx => wx.cell? ⟨w.heap.size, 0, none⟩ = some (.string d.req.id) ∧ wx.cell? ⟨w.heap.size, 2, none⟩ = some (.slice ao d.req.lines.length cap) ∧ wx.cell? ⟨w.heap.size, 3, none⟩ = some (.string d.req.hold)) (exact HK.out _ (by assumption)) (first
    | (go_at_call 62; refine (HC.out _ (by assumption)).mono ?_; rintro e w3 ⟨rfl, s3⟩))
  all_goals
    go_wp2
    go_ret
    exact ⟨by refine congrArg _ (congrArg (Value.int .i64) ?_); unfold xr1; (try simp only [IntWalk.i64_left]); simp only [wrap64_l, wrap64_r]; refine wrap64_eq ?_; omega, BW.out.trans (s3.mono (by omega))⟩
set_option maxHeartbeats 4000000 in
theorem weight_any (s : Sx) (a1 : Option Addr) (p1 : Nat) (a2 : Option Addr) (p2 : Nat) (a3 : Option Addr) (p3 : Nat) (w : World) (h1 : RLv w (.slice a1 s.levels.length p1) s.levels) (h2 : RHl w a2 s.holds) (h3 : RDn w a3 s.done) (l2 : s.holds.length ≤ 9223372036854775807) (l3 : s.done.length ≤ 9223372036854775807) :
    Calls Tryz.prog 20 #[sxV s a1 p1 a2 p2 a3 p3] w fun e w' => e = .returned (.int .i64 (wrap64 (xs s : Nat))) ∧ Below w.heap.size w w' := by
  unfold sxV
  have l1 := h1.len
  obtain ⟨W, hW⟩ : ∃ W, w.alloc (.cells #[.int .i64 s.room, .int .i64 s.lsn, .int .i64 s.now, .slice a1 s.levels.length p1, .slice a2 s.holds.length p2, .slice a3 s.done.length p3] 32) = W := ⟨_, rfl⟩
  have HRW : W.heap[w.heap.size]? = some (.cells #[.int .i64 s.room, .int .i64 s.lsn, .int .i64 s.now, .slice a1 s.levels.length p1, .slice a2 s.holds.length p2, .slice a3 s.done.length p3] 32 (0, 0)) := by rw [← hW]; exact heap_alloc_new w _
  have BW := hid (show Below w.heap.size w W by rw [← hW]; exact (Below.refl _ _).alloc (Nat.le_refl _) _)
  have c3 : W.cell? ⟨w.heap.size, 3, none⟩ = some (.slice a1 s.levels.length p1) := by rw [Lib.cell_of_heap HRW]; rfl
  have C4 := hid (show W.cell? ⟨w.heap.size, 4, none⟩ = some (.slice a2 s.holds.length p2) by rw [Lib.cell_of_heap HRW]; rfl)
  have C5 := hid (show W.cell? ⟨w.heap.size, 5, none⟩ = some (.slice a3 s.done.length p3) by rw [Lib.cell_of_heap HRW]; rfl)
  have H1 := hid (h1.below BW.out)
  have H2 := hid (h2.below BW.out)
  have H3 := hid (h3.below BW.out)
  have HW := hid HRW
  have zW : w.heap.size < W.heap.size := (Array.getElem?_eq_some_iff.1 HRW).1
  clear h1 h2 h3 HRW
  go_enter Tryz.func20, Tryz.ntmps20
  go_wp2_with fail
  try rw [hW]
  clear hW
  go_wp2_with fail
  clear c3
  go_loopw [3, 13] (fun n i wr => ∃ k : Nat, k ≤ s.levels.length ∧ i = .int .i64 (k : Int) ∧ n = .int .i64 (wrap64 ((64 + xv (s.levels.take k) : Nat) : Int)) ∧ Below W.heap.size W wr) (fun _ i _ => s.levels.length - (intOf i).toNat)
  case atStart => exact ⟨0, by omega, rfl, by simp [xv, wrap64], Below.refl _ _⟩
  case round =>
    obtain ⟨k, hk, rfl, rfl, hb⟩ := hrel
    by_cases h : k < s.levels.length
    · have hI : (k : Int) < (s.levels.length : Int) := by omega
      rcases H1.out with ⟨h0, _⟩ | ⟨b, off, cp, hv, hcp, hcell⟩
      · rw [h0] at h; simp at h
      cases hv
      have d0 := below_cells hb _ _ (hcell k h).1
      have d1 := below_cells hb _ _ (hcell k h).2.1
      have d2 := below_cells hb _ _ (hcell k h).2.2
      have HT := hid (xv_take s.levels k h)
      have HB := hid hb
      have hz := hb.size
      clear hcell hb
      generalize (s.levels[k]'h).1 = x at *
      generalize (s.levels[k]'h).2.1 = y at *
      generalize (s.levels[k]'h).2.2 = y2 at *
      generalize xv (s.levels.take k) = m at *
      go_wp2_with fail
      go_roundw
      case rel => exact ⟨k + 1, by omega, by go_num, by rw [HT.out]; refine congrArg _ ?_; (try simp only [IntWalk.i64_left]); simp only [wrap64_l, wrap64_r]; refine wrap64_eq ?_; omega, HB.out.alloc hz _⟩
      case measure => simp [intOf]; omega
    · obtain rfl : k = s.levels.length := by omega
      rw [List.take_length]
      have c4 := below_cells hb _ _ C4.out
      go_wp2_with fail
      clear c4
      go_loopw [3, 27] (fun n i wr => ∃ k : Nat, k ≤ s.holds.length ∧ i = .int .i64 (k : Int) ∧ n = .int .i64 (wrap64 ((64 + xv s.levels + xh (s.holds.take k) : Nat) : Int)) ∧ Below W.heap.size W wr) (fun _ i _ => s.holds.length - (intOf i).toNat)
      case atStart => exact ⟨0, by omega, rfl, by simp [xh], hb⟩
      case round =>
        clear hb hk
        obtain ⟨k, hk, rfl, rfl, hb⟩ := hrel
        by_cases h : k < s.holds.length
        · have hI : (k : Int) < (s.holds.length : Int) := by omega
          obtain ⟨b, off, a, p, rfl, d0, d1, r, d2⟩ := (H2.out.below hb) k h
          have HT := hid (xh_take s.holds k h)
          generalize s.holds[k]'h = x at *
          generalize xh (s.holds.take k) = m at *
          have hz := hb.size
          obtain ⟨W2, hW2⟩ : ∃ W2, wr.alloc (.cells #[.string x.id, .slice a x.lines.length p, .int .i64 x.dead] 62) = W2 := ⟨_, rfl⟩
          have B2 := hid (show Below W.heap.size W W2 by rw [← hW2]; exact hb.alloc hz _)
          have z2 := B2.out.size
          have HC := hid (whold_any x.id _ x.lines W2 (by rw [← hW2]; exact r.below ((Below.refl _ _).alloc (Nat.le_refl _) _)))
          have HW2 := hid hW2
          clear hb r hW2
          go_wp2_with fail
          rw [HW2.out]
          refine Calls.mono HC.out ?_
          rintro e w3 ⟨rfl, hb3⟩
          have B3 := hid (B2.out.trans (hb3.mono z2))
          clear hb3 HC HW2 d0 d1 d2
          go_wp2_with fail
          go_roundw
          case rel => exact ⟨k + 1, by omega, by go_num, by rw [HT.out]; refine congrArg _ ?_; unfold xh1; (try simp only [IntWalk.i64_left]); simp only [wrap64_l, wrap64_r]; refine wrap64_eq ?_; omega, B3.out⟩
          case measure => simp [intOf]; omega
        · obtain rfl : k = s.holds.length := by omega
          rw [List.take_length]
          have c5 := below_cells hb _ _ C5.out
          go_wp2_with fail
          clear c5
          go_loopw [3, 42] (fun n i wr => ∃ k : Nat, k ≤ s.done.length ∧ i = .int .i64 (k : Int) ∧ n = .int .i64 (wrap64 ((64 + xv s.levels + xh s.holds + xd (s.done.take k) : Nat) : Int)) ∧ Below W.heap.size W wr) (fun _ i _ => s.done.length - (intOf i).toNat)
          case atStart => exact ⟨0, by omega, rfl, by simp [xd], hb⟩
          case round =>
            clear hb hk
            obtain ⟨k, hk, rfl, rfl, hb⟩ := hrel
            by_cases h : k < s.done.length
            · have hI : (k : Int) < (s.done.length : Int) := by omega
              obtain ⟨b, off, a, p, rfl, d0, d1, d2, r, d3, d4, d5, d6⟩ := (H3.out.below hb) k h
              have HT := hid (xd_take s.done k h)
              generalize s.done[k]'h = x at *
              generalize xd (s.done.take k) = m at *
              have hz := hb.size
              obtain ⟨W2, hW2⟩ : ∃ W2, wr.alloc (.cells #[.string x.req.id, .int .i64 x.req.kind, .slice a x.req.lines.length p, .string x.req.hold, .int .i64 x.req.ttl, .int .i64 x.req.now, .int .i64 x.at'] 65) = W2 := ⟨_, rfl⟩
              have B2 := hid (show Below W.heap.size W W2 by rw [← hW2]; exact hb.alloc hz _)
              have z2 := B2.out.size
              have HC := hid (wdone_any x a p W2 (by rw [← hW2]; exact r.below ((Below.refl _ _).alloc (Nat.le_refl _) _)))
              unfold dnV at HC
              have HW2 := hid hW2
              clear hb r hW2
              go_wp2_with fail
              rw [HW2.out]
              refine Calls.mono HC.out ?_
              rintro e w3 ⟨rfl, hb3⟩
              have B3 := hid (B2.out.trans (hb3.mono z2))
              clear hb3 HC HW2 d0 d1 d2 d3 d4 d5 d6
              go_wp2_with fail
              go_roundw
              case rel => exact ⟨k + 1, by omega, by go_num, by rw [HT.out]; refine congrArg _ ?_; (try simp only [IntWalk.i64_left]); simp only [wrap64_l, wrap64_r]; refine wrap64_eq ?_; omega, B3.out⟩
              case measure => simp [intOf]; omega
            · obtain rfl : k = s.done.length := by omega
              rw [List.take_length]
              go_wp2
              go_ret
              exact ⟨rfl, BW.out.trans (hb.mono (by omega))⟩
end Go.Proofs.YtdodockemkmmpaaGreat
