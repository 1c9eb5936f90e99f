/-
  States that are read: holds and what is done; bulk; works.
-/
import Derived.Test.YtfhicemfhkhjaabFm1
namespace Go.Proofs.Ytfhicemfhkhjaab
open Go.RowKit
set_option maxRecDepth 100000

/-- the slice at ao reads as the holds L -/
def RHl (w : World) (ao : Option Addr) (L : List Hl) : Prop := ∀ j (h : j < L.length), ∃ b off a p, ao = some ⟨b, off, none⟩ ∧ w.cell? ⟨b, off + j * 3, none⟩ = some (.string L[j].id) ∧ w.cell? ⟨b, off + j * 3 + 1, none⟩ = some (.slice a L[j].lines.length p) ∧ RLn w (.slice a L[j].lines.length p) L[j].lines ∧ w.cell? ⟨b, off + j * 3 + 2, none⟩ = some (.int .i64 L[j].dead)
/-- the slice at ao reads as what is done -/
def RDn (w : World) (ao : Option Addr) (L : List Dn) : Prop := ∀ j (h : j < L.length), ∃ b off a p, ao = some ⟨b, off, none⟩ ∧ w.cell? ⟨b, off + j * 7, none⟩ = some (.string L[j].req.id) ∧ w.cell? ⟨b, off + j * 7 + 1, none⟩ = some (.int .i64 L[j].req.kind) ∧ w.cell? ⟨b, off + j * 7 + 2, none⟩ = some (.slice a L[j].req.lines.length p) ∧ RLn w (.slice a L[j].req.lines.length p) L[j].req.lines ∧ w.cell? ⟨b, off + j * 7 + 3, none⟩ = some (.string L[j].req.hold) ∧ w.cell? ⟨b, off + j * 7 + 4, none⟩ = some (.int .i64 L[j].req.ttl) ∧ w.cell? ⟨b, off + j * 7 + 5, none⟩ = some (.int .i64 L[j].req.now) ∧ w.cell? ⟨b, off + j * 7 + 6, none⟩ = some (.int .i64 L[j].at')
theorem RHl.below {w w' : World} {ao : Option Addr} {L : List Hl} (h : RHl w ao L) (k : Below w.heap.size w w') : RHl w' ao L := fun j hj => by
  obtain ⟨b, off, a, p, e, c0, c1, r, c2⟩ := h j hj
  exact ⟨b, off, a, p, e, below_cells k _ _ c0, below_cells k _ _ c1, r.below k, below_cells k _ _ c2⟩
theorem RDn.below {w w' : World} {ao : Option Addr} {L : List Dn} (h : RDn w ao L) (k : Below w.heap.size w w') : RDn w' ao L := fun j hj => by
  obtain ⟨b, off, a, p, e, c0, c1, c2, r, c3, c4, c5, c6⟩ := h j hj
  exact ⟨b, off, a, p, e, below_cells k _ _ c0, below_cells k _ _ c1, below_cells k _ _ c2, r.below k, below_cells k _ _ c3, below_cells k _ _ c4, below_cells k _ _ c5, below_cells k _ _ c6⟩
theorem RHl.hls {w : World} {ao : Option Addr} {L : List Hl} {most : Nat} (h : RHl w ao L) (hm : most ≤ 1000000000000) (hT : ∀ x ∈ L, HlT most x) : HLs w w.heap.size ao L := fun i hi => by
  obtain ⟨b, off, a, p, e, c0, c1, r, c2⟩ := h i hi
  have hx := hT _ (List.getElem_mem hi)
  have hl := hx.lines.1
  have hid := hx.id
  exact ⟨b, off, e, ⟨World.block_lt_of_cell? _ _ c0, c0, ⟨a, p, c1, r.ll (lnok_of hm hx.lines.2)⟩, c2, ⟨by omega, by omega⟩, hx.dead⟩⟩
theorem RDn.dls {w : World} {ao : Option Addr} {L : List Dn} {most : Nat} (h : RDn w ao L) (hm : most ≤ 1000000000000) (hT : ∀ x ∈ L, DnT most x) : DLs w w.heap.size ao L := fun i hi => by
  obtain ⟨b, off, a, p, e, c0, c1, c2, r, c3, c4, c5, c6⟩ := h i hi
  have hx := hT _ (List.getElem_mem hi)
  have hl := hx.req.lines.1
  have hid := hx.req.id
  have hho := hx.req.hold
  exact ⟨b, off, e, ⟨⟨World.block_lt_of_cell? _ _ c0, c0, c1, ⟨a, p, c2, r.ll (lnok_of hm hx.req.lines.2)⟩, c3, c4, c5, ⟨by omega, by omega, by omega⟩, hx.req.kind, hx.req.ttl, hx.req.now⟩, c6, hx.at'⟩⟩
theorem OHl.rd {w : World} {base n cap : Nat} {ao : Option Addr} {L : List Hl} (h : OHl w base (.slice ao n cap) L) : RHl w ao L := fun i hi => by
  obtain ⟨vs, h1, h2, h3⟩ := h
  have hc := fun g hg => World.ownsRow.cells h2 (g := g) hg
  rcases h2.2 with ⟨_, h0⟩ | ⟨g, c, cur, e, _, _⟩
  · omega
  injection e with e1 e2 e3
  subst e1
  have hi' : i < vs.length := by omega
  obtain ⟨d0, d1, d2⟩ := hc_at L vs h1 i hi hi'
  have c0 := hc g rfl _ _ d0
  have c1 := hc g rfl _ _ d1
  have c2 := hc g rfl _ _ d2
  rw [Addr.add_lit, Nat.zero_add] at c0 c1 c2
  obtain ⟨n1, _⟩ := h3 i hi hi'
  obtain ⟨a, p, ev⟩ := n1.reads.form
  have hr := n1.reads
  rw [ev] at hr c1
  exact ⟨g, 0, a, p, rfl, by rw [Nat.zero_add]; exact c0, by rw [Nat.zero_add]; exact c1, hr, by rw [Nat.zero_add]; exact c2⟩
theorem ODn.rd {w : World} {base n cap : Nat} {ao : Option Addr} {L : List Dn} (h : ODn w base (.slice ao n cap) L) : RDn w ao L := fun i hi => by
  obtain ⟨vs, h1, h2, h3⟩ := h
  have hc := fun g hg => World.ownsRow.cells h2 (g := g) hg
  rcases h2.2 with ⟨_, h0⟩ | ⟨g, c, cur, e, _, _⟩
  · omega
  injection e with e1 e2 e3
  subst e1
  have hi' : i < vs.length := by omega
  obtain ⟨d0, d1, d2, d3, d4, d5, d6⟩ := dc_at L vs h1 i hi hi'
  have c0 := hc g rfl _ _ d0
  have c1 := hc g rfl _ _ d1
  have c2 := hc g rfl _ _ d2
  have c3 := hc g rfl _ _ d3
  have c4 := hc g rfl _ _ d4
  have c5 := hc g rfl _ _ d5
  have c6 := hc g rfl _ _ d6
  rw [Addr.add_lit, Nat.zero_add] at c0 c1 c2 c3 c4 c5 c6
  obtain ⟨n1, _⟩ := h3 i hi hi'
  obtain ⟨a, p, ev⟩ := n1.reads.form
  have hr := n1.reads
  rw [ev] at hr c2
  exact ⟨g, 0, a, p, rfl, by rw [Nat.zero_add]; exact c0, by rw [Nat.zero_add]; exact c1, by rw [Nat.zero_add]; exact c2, hr, by rw [Nat.zero_add]; exact c3, by rw [Nat.zero_add]; exact c4, by rw [Nat.zero_add]; exact c5, by rw [Nat.zero_add]; exact c6⟩
/-- what holds, what is done, a state weigh -/
def wh (L : List Hl) : Nat := (L.map fun x => 3 + x.id.size + wl x.lines).sum
def wd (L : List Dn) : Nat := (L.map fun x => 7 + (x.req.id.size + x.req.hold.size + wl x.req.lines)).sum
def wst (s : Sx) : Nat := wv s.levels + wh s.holds + wd s.done
theorem wh_take (L : List Hl) (k : Nat) (h : k < L.length) : wh (L.take (k + 1)) = wh (L.take k) + (3 + L[k].id.size + wl L[k].lines) := by
  unfold wh
  rw [List.take_succ_eq_append_getElem h, List.map_append, List.sum_append]
  simp
theorem wd_take (L : List Dn) (k : Nat) (h : k < L.length) : wd (L.take (k + 1)) = wd (L.take k) + (7 + (L[k].req.id.size + L[k].req.hold.size + wl L[k].req.lines)) := by
  unfold wd
  rw [List.take_succ_eq_append_getElem h, List.map_append, List.sum_append]
  simp
theorem wh_le (L : List Hl) (k : Nat) : wh (L.take k) ≤ wh L := by
  have e : wh L = wh (L.take k) + wh (L.drop k) := by
    unfold wh
    rw [← List.sum_append, ← List.map_append, List.take_append_drop]
  omega
theorem wd_le (L : List Dn) (k : Nat) : wd (L.take k) ≤ wd L := by
  have e : wd L = wd (L.take k) + wd (L.drop k) := by
    unfold wd
    rw [← List.sum_append, ← List.map_append, List.take_append_drop]
  omega
theorem wh_len (L : List Hl) : L.length ≤ wh L := by
  induction L with
  | nil => simp [wh]
  | cons x t ih =>
    have e : wh (x :: t) = 3 + x.id.size + wl x.lines + wh t := by simp [wh]
    rw [e, List.length_cons]
    omega
theorem wd_len (L : List Dn) : L.length ≤ wd L := by
  induction L with
  | nil => simp [wd]
  | cons x t ih =>
    have e : wd (x :: t) = 7 + (x.req.id.size + x.req.hold.size + wl x.req.lines) + wd t := by simp [wd]
    rw [e, List.length_cons]
    omega
theorem wl_len2 (L : List Ln) : L.length ≤ wl L := by
  induction L with
  | nil => simp [wl]
  | cons x t ih =>
    have e : wl (x :: t) = 2 + x.1.size + wl t := by simp [wl]
    rw [e, List.length_cons]
    omega
set_option maxHeartbeats 4000000 in
theorem bulk_any (s : Sx) (a1 : Option Addr) (p1 : Nat) (a2 : Option Addr) (p2 : Nat) (a3 : Option Addr) (p3 : Nat) (w : World) (h1 : RLv w (.slice a1 s.levels.length p1) s.levels) (h2 : RHl w a2 s.holds) (h3 : RDn w a3 s.done) (hs : wst s ≤ 1000000000) :
    Calls Try.prog 7 #[sxV s a1 p1 a2 p2 a3 p3] w fun e w' => e = .returned (.int .i64 ((wst s : Nat) : Int)) ∧ Below w.heap.size w w' := by
  unfold sxV
  unfold wst at hs
  have l1 := wv_len s.levels
  have l2 := wh_len s.holds
  have l3 := wd_len s.done
  obtain ⟨W, hW⟩ : ∃ W, w.alloc (.cells #[.int .i64 s.room, .int .i64 s.lsn, .int .i64 s.now, .slice a1 s.levels.length p1, .slice a2 s.holds.length p2, .slice a3 s.done.length p3] 32) = W := ⟨_, rfl⟩
  have HRW : W.heap[w.heap.size]? = some (.cells #[.int .i64 s.room, .int .i64 s.lsn, .int .i64 s.now, .slice a1 s.levels.length p1, .slice a2 s.holds.length p2, .slice a3 s.done.length p3] 32 (0, 0)) := by rw [← hW]; exact heap_alloc_new w _
  have BW := hid (show Below w.heap.size w W by rw [← hW]; exact (Below.refl _ _).alloc (Nat.le_refl _) _)
  have c3 : W.cell? ⟨w.heap.size, 3, none⟩ = some (.slice a1 s.levels.length p1) := by rw [Lib.cell_of_heap HRW]; rfl
  have c4 : W.cell? ⟨w.heap.size, 4, none⟩ = some (.slice a2 s.holds.length p2) := by rw [Lib.cell_of_heap HRW]; rfl
  have c5 : W.cell? ⟨w.heap.size, 5, none⟩ = some (.slice a3 s.done.length p3) := by rw [Lib.cell_of_heap HRW]; rfl
  have H1 := hid (h1.below BW.out)
  have H2 := hid (h2.below BW.out)
  have H3 := hid (h3.below BW.out)
  have HW := hid HRW
  have zW : w.heap.size < W.heap.size := (Array.getElem?_eq_some_iff.1 HRW).1
  clear h1 h2 h3 HRW
  go_enter Try.func7, Try.ntmps7
  go_wp2_with fail
  try rw [hW]
  clear hW
  go_loop [3, 4] (fun n i => ∃ k : Nat, k ≤ s.levels.length ∧ i = .int .i64 (k : Int) ∧ n = .int .i64 ((wv (s.levels.take k) : Nat) : Int)) (fun _ i => s.levels.length - (intOf i).toNat)
  case atStart => exact ⟨0, by omega, rfl, by simp [wv]⟩
  case round =>
    obtain ⟨k, hk, rfl, rfl⟩ := hrel
    by_cases h : k < s.levels.length
    · have hI : (k : Int) < (s.levels.length : Int) := by omega
      rcases H1.out with ⟨h0, _⟩ | ⟨b, off, cp, hv, hcp, hcell⟩
      · rw [h0] at h; simp at h
      cases hv
      have d0 := (hcell k h).1
      have HT := hid (wv_take s.levels k h)
      have hle := wv_le s.levels (k + 1)
      rw [HT.out] at hle
      clear hcell
      generalize (s.levels[k]'h).1 = x at *
      generalize wv (s.levels.take k) = m at *
      go_wp2_with fail
      go_round
      case rel => exact ⟨k + 1, by omega, by go_num, by rw [HT.out]; go_num⟩
      case measure => simp [intOf]; omega
    · obtain rfl : k = s.levels.length := by omega
      rw [List.take_length]
      go_wp2_with fail
      go_loop [3, 5] (fun n i => ∃ k : Nat, k ≤ s.holds.length ∧ i = .int .i64 (k : Int) ∧ n = .int .i64 ((wv s.levels + wh (s.holds.take k) : Nat) : Int)) (fun _ i => s.holds.length - (intOf i).toNat)
      case atStart => exact ⟨0, by omega, rfl, by simp [wh]⟩
      case round =>
        obtain ⟨k, hk, rfl, rfl⟩ := hrel
        by_cases h : k < s.holds.length
        · have hI : (k : Int) < (s.holds.length : Int) := by omega
          obtain ⟨b, off, a, p, rfl, d0, d1, r, d2⟩ := H2.out k h
          have HT := hid (wh_take s.holds k h)
          have hle := wh_le s.holds (k + 1)
          rw [HT.out] at hle
          generalize s.holds[k]'h = x at *
          generalize wh (s.holds.take k) = m at *
          have hl9 := wl_len2 x.lines
          have HR := hid r
          clear r d2
          go_wp2_with fail
          go_loop [3, 6] (fun n i => ∃ j : Nat, j ≤ x.lines.length ∧ i = .int .i64 (j : Int) ∧ n = .int .i64 ((wv s.levels + m + 3 + x.id.size + wl (x.lines.take j) : Nat) : Int)) (fun _ i => x.lines.length - (intOf i).toNat)
          case atStart => exact ⟨0, by omega, rfl, by simp only [List.take_zero, wl, List.map_nil, List.sum_nil]; go_num⟩
          case round =>
            obtain ⟨j, hj, rfl, rfl⟩ := hrel
            by_cases hh : j < x.lines.length
            · have hI2 : (j : Int) < (x.lines.length : Int) := by omega
              rcases HR.out with ⟨h0, _⟩ | ⟨b2, off2, cp, hv, hcp, hcell⟩
              · rw [h0] at hh; simp at hh
              cases hv
              have e0 := (hcell j hh).1
              have HU := hid (wl_take x.lines j hh)
              have hle2 := wl_le x.lines (j + 1)
              rw [HU.out] at hle2
              clear hcell
              generalize (x.lines[j]'hh).1 = y at *
              generalize wl (x.lines.take j) = q at *
              go_wp2_with fail
              go_round
              case rel => exact ⟨j + 1, by omega, by go_num, by rw [HU.out]; go_num⟩
              case measure => simp [intOf]; omega
            · obtain rfl : j = x.lines.length := by omega
              rw [List.take_length]
              go_wp2_with fail
              go_round
              case rel => exact ⟨k + 1, by omega, by go_num, by rw [HT.out]; refine congrArg _ ?_; omega⟩
              case measure => simp [intOf]; omega
        · obtain rfl : k = s.holds.length := by omega
          rw [List.take_length]
          go_wp2_with fail
          go_loopw [3, 7] (fun n i wx => ∃ k : Nat, k ≤ s.done.length ∧ i = .int .i64 (k : Int) ∧ n = .int .i64 ((wv s.levels + wh s.holds + wd (s.done.take k) : Nat) : Int) ∧ Below W.heap.size W wx) (fun _ i _ => s.done.length - (intOf i).toNat)
          case atStart => exact ⟨0, by omega, rfl, by simp [wd], Below.refl _ _⟩
          case round =>
            obtain ⟨k, hk, rfl, rfl, hb⟩ := hrel
            have c5 := below_cells hb _ _ c5
            by_cases h : k < s.done.length
            · have hI : (k : Int) < (s.done.length : Int) := by omega
              obtain ⟨b, off, a, p, rfl, d0, d1, d2, r, d3, d4, d5, d6⟩ := (H3.out.below hb) k h
              have HT := hid (wd_take s.done k h)
              have hle := wd_le s.done (k + 1)
              rw [HT.out] at hle
              generalize s.done[k]'h = x at *
              generalize wd (s.done.take k) = m at *
              have hl9 := wl_len2 x.req.lines
              have HW9 := hid (weight_any x.req a p wr r (by omega) (by omega))
              have HB := hid hb
              unfold rqV at HW9
              clear r hb d6
              go_wp2_with fail
              refine Calls.mono HW9.out ?_
              rintro e w8 ⟨rfl, hb8⟩
              have B8 := hid (HB.out.trans (hb8.mono HB.out.size))
              clear hb8 HB HW9 d0 d1 d2 d3 d4 d5 c5
              go_wp2_with fail
              go_roundw
              case rel => exact ⟨k + 1, by omega, by go_num, by rw [HT.out]; refine congrArg _ ?_; omega, B8.out⟩
              case measure => simp [intOf]; omega
            · obtain rfl : k = s.done.length := by omega
              rw [List.take_length]
              go_wp2
              go_ret
              exact ⟨rfl, BW.out.trans (hb.mono (by omega))⟩
end Go.Proofs.Ytfhicemfhkhjaab
namespace Go.Proofs.Ytfhicemfhkhjaab
open Go.RowKit
set_option maxRecDepth 100000

/-- the request of works -/
def wkR : Rq := ⟨⟨#[114]⟩, 1, [(⟨#[97]⟩, 5)], ⟨#[]⟩, 0, 0⟩
theorem wk_bytes : 81 :: rqB wkR = [81, 1, 114, 2, 1, 1, 97, 10, 0, 0, 0] := by decide +kernel
theorem wk_read : rqs [81, 1, 114, 2, 1, 1, 97, 10, 0, 0, 0] = (0, 0, wkR) := by
  rw [rqs_whole, ← wk_bytes]
  refine (Fd.request 4096 (by decide)).whole_back _ ⟨by decide, (show I64 _ from ⟨by decide, by decide⟩), ⟨by decide, ?_⟩, by decide, (show I64 _ from ⟨by decide, by decide⟩), (show I64 _ from ⟨by decide, by decide⟩)⟩ (by decide +kernel)
  intro x hx
  simp only [wkR, List.mem_singleton] at hx
  subst hx
  exact ⟨by decide, by decide, by decide⟩
set_option maxHeartbeats 2000000 in
theorem works_any (w : World) : Calls Try.prog 5 #[] w fun e w' => e = .returned (.bool true) ∧ Below w.heap.size w w' := by
  go_enter Try.func5, Try.ntmps5
  go_wp2_with fail
  obtain ⟨W1, hW1⟩ : ∃ W, w.alloc (.cells #[.string ⟨#[97]⟩, .int .i64 5] 75) = W := ⟨_, rfl⟩
  have R1 := hid (show W1.heap[w.heap.size]? = some (.cells #[.string ⟨#[97]⟩, .int .i64 5] 75 (0, 0)) by rw [← hW1]; exact heap_alloc_new w _)
  have b1 : Below w.heap.size w W1 := by rw [← hW1]; exact (Below.refl _ _).alloc (Nat.le_refl _) _
  have z1 : W1.heap.size = w.heap.size + 1 := by rw [← hW1, World.size_alloc]
  obtain ⟨W2, hW2⟩ : ∃ W, W1.alloc (.cells #[.string ⟨#[114]⟩, .int .i64 1, .slice (some ⟨w.heap.size, 0, none⟩) 1 1, .string ⟨#[]⟩, .int .i64 0, .int .i64 0] 24) = W := ⟨_, rfl⟩
  have R2 := hid (show W2.heap[w.heap.size + 1]? = some (.cells #[.string ⟨#[114]⟩, .int .i64 1, .slice (some ⟨w.heap.size, 0, none⟩) 1 1, .string ⟨#[]⟩, .int .i64 0, .int .i64 0] 24 (0, 0)) by rw [← hW2, ← z1]; exact heap_alloc_new W1 _)
  have b2 : Below W1.heap.size W1 W2 := by rw [← hW2]; exact (Below.refl _ _).alloc (Nat.le_refl _) _
  have z2 : W2.heap.size = w.heap.size + 2 := by rw [← hW2, World.size_alloc]; omega
  have L1 := hid (show RLn W1 (.slice (some ⟨w.heap.size, 0, none⟩) wkR.lines.length 1) wkR.lines from .inr ⟨w.heap.size, 0, 1, rfl, Nat.le_refl _, fun j hj => by
    obtain rfl : j = 0 := by simp [wkR] at hj; exact hj
    exact ⟨by rw [Lib.cell_of_heap R1.out]; rfl, by rw [Lib.cell_of_heap R1.out]; rfl⟩⟩)
  have L2 := hid (L1.out.below b2)
  have B2 := hid (b1.trans (b2.mono (by omega)))
  have HP := hid (putRequest_any wkR (some ⟨w.heap.size, 0, none⟩) 1 W2 ⟨⟨by decide, by decide, by decide⟩, ⟨by decide, by decide⟩, ⟨by decide, by decide⟩, by decide, by decide⟩ (L2.out.ll (fun i hi => by
    obtain rfl : i = 0 := by simp [wkR] at hi; exact hi
    exact ⟨(by decide : (ByteArray.mk #[97]).size ≤ 1000000000000), (by decide : (-9223372036854775808 : Int) ≤ 5), (by decide : (5 : Int) ≤ 9223372036854775807)⟩)))
  unfold Wrt at HP
  rw [wk_bytes, if_pos (by decide), if_pos (by decide)] at HP
  unfold rqV at HP
  clear b1 b2 L1 R1
  try rw [hW1]
  try rw [hW2]
  refine Calls.mono HP.out ?_
  rintro e w3 ⟨v3, rfl, ho3, hb3⟩
  have B3 := hid (B2.out.trans (hb3.mono B2.out.size))
  have z3 := hb3.size
  have R3 := hid ((hb3.block (w.heap.size + 1) (by omega)).trans R2.out)
  have L3 := hid (L2.out.below hb3)
  have HQ := hid (request_any _ v3 w3 ho3.reads)
  unfold Rdq at HQ
  rw [wk_read] at HQ
  have O3 := hid ho3.reads
  clear ho3 hb3 HP L2 R2 B2 hW1 hW2
  go_wp2_with fail
  refine Calls.mono HQ.out ?_
  rintro e w4 ⟨v4, rfl, ho4, hb4⟩
  have B4 := hid (B3.out.trans (hb4.mono B3.out.size))
  have z4 := hb4.size
  have R4 := hid ((hb4.block (w.heap.size + 1) (by omega)).trans R3.out)
  have L4 := hid (L3.out.below hb4)
  have O4 := hid (O3.out.below hb4)
  have V4 := hid ho4.reads
  obtain ⟨xo, xn, xp, rfl⟩ := ho4.form
  obtain ⟨W5, hW5⟩ : ∃ W, w4.alloc (.cells #[.string ⟨#[114]⟩, .int .i64 1, .slice xo xn xp, .string ⟨#[]⟩, .int .i64 0, .int .i64 0] 24) = W := ⟨_, rfl⟩
  have R5 := hid (show W5.heap[w4.heap.size]? = some (.cells #[.string ⟨#[114]⟩, .int .i64 1, .slice xo xn xp, .string ⟨#[]⟩, .int .i64 0, .int .i64 0] 24 (0, 0)) by rw [← hW5]; exact heap_alloc_new w4 _)
  have b5 : Below w4.heap.size w4 W5 := by rw [← hW5]; exact (Below.refl _ _).alloc (Nat.le_refl _) _
  have R6 := hid ((b5.block (w.heap.size + 1) (by omega)).trans R4.out)
  have T5 := hid (text_run (O4.out.below b5))
  have B5 := hid (B4.out.trans (b5.mono B4.out.size))
  have HS := hid (sameRequest_any wkR _ _ W5 (V4.out.below b5) (L4.out.below b5) (by decide))
  have c0 : W5.cell? ⟨w4.heap.size, 0, none⟩ = some (.string ⟨#[114]⟩) := by rw [Lib.cell_of_heap R5.out]; rfl
  have c1 : W5.cell? ⟨w4.heap.size, 1, none⟩ = some (.int .i64 1) := by rw [Lib.cell_of_heap R5.out]; rfl
  have c2 : W5.cell? ⟨w4.heap.size, 2, none⟩ = some (.slice xo xn xp) := by rw [Lib.cell_of_heap R5.out]; rfl
  have c3 : W5.cell? ⟨w4.heap.size, 3, none⟩ = some (.string ⟨#[]⟩) := by rw [Lib.cell_of_heap R5.out]; rfl
  have c4 : W5.cell? ⟨w4.heap.size, 4, none⟩ = some (.int .i64 0) := by rw [Lib.cell_of_heap R5.out]; rfl
  have c5 : W5.cell? ⟨w4.heap.size, 5, none⟩ = some (.int .i64 0) := by rw [Lib.cell_of_heap R5.out]; rfl
  have d0 : W5.cell? ⟨w.heap.size + 1, 0, none⟩ = some (.string ⟨#[114]⟩) := by rw [Lib.cell_of_heap R6.out]; rfl
  have d1 : W5.cell? ⟨w.heap.size + 1, 1, none⟩ = some (.int .i64 1) := by rw [Lib.cell_of_heap R6.out]; rfl
  have d2 : W5.cell? ⟨w.heap.size + 1, 2, none⟩ = some (.slice (some ⟨w.heap.size, 0, none⟩) 1 1) := by rw [Lib.cell_of_heap R6.out]; rfl
  have d3 : W5.cell? ⟨w.heap.size + 1, 3, none⟩ = some (.string ⟨#[]⟩) := by rw [Lib.cell_of_heap R6.out]; rfl
  have d4 : W5.cell? ⟨w.heap.size + 1, 4, none⟩ = some (.int .i64 0) := by rw [Lib.cell_of_heap R6.out]; rfl
  have d5 : W5.cell? ⟨w.heap.size + 1, 5, none⟩ = some (.int .i64 0) := by rw [Lib.cell_of_heap R6.out]; rfl
  clear ho4 hb4 b5 HQ B4 L4 O4 V4 R4 R3 L3 O3 R5 R6
  dsimp only [rqC, wkR] at HS ⊢
  have HW5 := hid hW5
  have HC := hid (And.intro c0 (And.intro c1 (And.intro c2 (And.intro c3 (And.intro c4 c5)))))
  have HD := hid (And.intro d0 (And.intro d1 (And.intro d2 (And.intro d3 (And.intro d4 d5)))))
  clear hW5 c0 c1 c2 c3 c4 c5 d0 d1 d2 d3 d4 d5
  go_wp2_with fail
  rw [HW5.out, T5.out]
  obtain ⟨c0, c1, c2, c3, c4, c5⟩ := HC.out
  obtain ⟨d0, d1, d2, d3, d4, d5⟩ := HD.out
  go_wp2_with fail
  refine Calls.mono HS.out ?_
  rintro e w6 ⟨rfl, hb6⟩
  have B6 := hid (B5.out.trans (hb6.mono B5.out.size))
  clear hb6 HS
  go_wp2
  go_ret
  exact ⟨rfl, B6.out⟩
end Go.Proofs.Ytfhicemfhkhjaab
