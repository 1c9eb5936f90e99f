/-
  lin: lines, requests, replies, ops that are the same. Laid by mklh2.py.
-/
import Derived.Test.YtgjalfmnnoaemaaLh1
namespace Go.Proofs.Ytgjalfmnnoaemaa
open Go.RowKit
set_option maxRecDepth 100000

set_option maxHeartbeats 2000000 in
theorem sameLines_is (v1 v2 : Value) (L : List Ln) (w : World) (h1 : RLn w v1 L) (h2 : RLn w v2 L) :
    Calls Try.prog 39 #[v1, v2] w fun e w' => e = .returned (.bool true) ∧ Below w.heap.size w w' := by
  have HL := hid h1.len
  rcases h1 with ⟨rfl, ao, cap, rfl, _⟩ | ⟨b, off, cap, rfl, hcap, hcell⟩
  · rcases h2 with ⟨_, ao2, cap2, rfl, _⟩ | ⟨b2, off2, cap2, rfl, _, _⟩
    all_goals
      go_enter Try.func39, Try.ntmps39
      go_wp2_with fail
      go_rounds 1
      go_ret
      exact ⟨rfl, Below.refl _ _⟩
  · rcases h2 with ⟨rfl, ao2, cap2, rfl, _⟩ | ⟨b2, off2, cap2, rfl, hcap2, hcell2⟩
    · go_enter Try.func39, Try.ntmps39
      go_wp2_with fail
      go_rounds 1
      go_ret
      exact ⟨rfl, Below.refl _ _⟩
    · have HC := hid (And.intro hcell hcell2)
      clear hcell hcell2
      go_enter Try.func39, Try.ntmps39
      go_wp2_with fail
      go_loopw [5] (fun i wr => ∃ k : Nat, k ≤ L.length ∧ i = .int .i64 (k : Int) ∧ Below w.heap.size w wr) (fun i _ => L.length - (intOf i).toNat)
      case atStart => exact ⟨0, by omega, rfl, Below.refl _ _⟩
      case round =>
        obtain ⟨k, hk, rfl, hbl⟩ := hrel
        by_cases hlt : k < L.length
        · have hcl := HC.out.1 k hlt
          have hcl2 := HC.out.2 k hlt
          have c0 := below_cells hbl _ _ hcl.1
          have c1 := below_cells hbl _ _ hcl.2
          have d0 := below_cells hbl _ _ hcl2.1
          have d1 := below_cells hbl _ _ hcl2.2
          have hl := HL.out
          have hI : (k : Int) < (L.length : Int) := by omega
          clear hcl hcl2
          generalize (L[k]'hlt).1 = x at c0 d0
          generalize (L[k]'hlt).2 = y at c1 d1
          go_wp2_with fail
          go_quiet (fail)
          have hB1 := below_drewN hbl nq
          clear c0 c1 d0 d1
          go_wp2
          go_roundw
          case rel => exact ⟨k + 1, by omega, by go_num, hB1⟩
          case measure => simp [intOf]; omega
        · go_wp2
          go_ret
          exact ⟨rfl, hbl⟩
set_option maxHeartbeats 2000000 in
theorem sameRequest_is (r : Rq) (v1 v2 : Value) (w : World) (h1 : RLn w v1 r.lines) (h2 : RLn w v2 r.lines) :
    Calls Try.prog 32 #[rqA r v1, rqA r v2] w fun e w' => e = .returned (.bool true) ∧ Below w.heap.size w w' := by
  unfold rqA
  obtain ⟨a1, p1, e1⟩ := h1.form
  obtain ⟨a2, p2, e2⟩ := h2.form
  obtain ⟨W, hW⟩ : ∃ W, (w.alloc (.cells #[.string r.id, .int .i64 r.kind, v1, .string r.hold, .int .i64 r.ttl, .int .i64 r.now] 30)).alloc (.cells #[.string r.id, .int .i64 r.kind, v2, .string r.hold, .int .i64 r.ttl, .int .i64 r.now] 30) = W := ⟨_, rfl⟩
  have zW : W.heap.size = w.heap.size + 2 := by rw [← hW]; simp
  have BW := hid (show Below w.heap.size w W by rw [← hW]; exact ((Below.refl _ _).alloc (Nat.le_refl _) _).alloc (by simp) _)
  have H1 := hid (show W.heap[w.heap.size]? = some (.cells #[.string r.id, .int .i64 r.kind, v1, .string r.hold, .int .i64 r.ttl, .int .i64 r.now] 30 (0, 0)) by
    rw [← hW]
    exact (((Below.refl (w.alloc (.cells #[.string r.id, .int .i64 r.kind, v1, .string r.hold, .int .i64 r.ttl, .int .i64 r.now] 30)).heap.size _).alloc (Nat.le_refl _) _).block w.heap.size (by simp)).trans (heap_alloc_new w _))
  have H2 := hid (show W.heap[w.heap.size + 1]? = some (.cells #[.string r.id, .int .i64 r.kind, v2, .string r.hold, .int .i64 r.ttl, .int .i64 r.now] 30 (0, 0)) by
    rw [← hW]
    have := heap_alloc_new (w.alloc (.cells #[.string r.id, .int .i64 r.kind, v1, .string r.hold, .int .i64 r.ttl, .int .i64 r.now] 30)) (.cells #[.string r.id, .int .i64 r.kind, v2, .string r.hold, .int .i64 r.ttl, .int .i64 r.now] 30)
    rw [World.size_alloc] at this
    exact this)
  have c0 : W.cell? ⟨w.heap.size, 0, none⟩ = some (.string r.id) := by rw [Lib.cell_of_heap H1.out]; rfl
  have c1 : W.cell? ⟨w.heap.size, 1, none⟩ = some (.int .i64 r.kind) := by rw [Lib.cell_of_heap H1.out]; rfl
  have c2 : W.cell? ⟨w.heap.size, 2, none⟩ = some (v1) := by rw [Lib.cell_of_heap H1.out]; rfl
  have c3 : W.cell? ⟨w.heap.size, 3, none⟩ = some (.string r.hold) := by rw [Lib.cell_of_heap H1.out]; rfl
  have c4 : W.cell? ⟨w.heap.size, 4, none⟩ = some (.int .i64 r.ttl) := by rw [Lib.cell_of_heap H1.out]; rfl
  have c5 : W.cell? ⟨w.heap.size, 5, none⟩ = some (.int .i64 r.now) := by rw [Lib.cell_of_heap H1.out]; rfl
  have d0 : W.cell? ⟨w.heap.size + 1, 0, none⟩ = some (.string r.id) := by rw [Lib.cell_of_heap H2.out]; rfl
  have d1 : W.cell? ⟨w.heap.size + 1, 1, none⟩ = some (.int .i64 r.kind) := by rw [Lib.cell_of_heap H2.out]; rfl
  have d2 : W.cell? ⟨w.heap.size + 1, 2, none⟩ = some (v2) := by rw [Lib.cell_of_heap H2.out]; rfl
  have d3 : W.cell? ⟨w.heap.size + 1, 3, none⟩ = some (.string r.hold) := by rw [Lib.cell_of_heap H2.out]; rfl
  have d4 : W.cell? ⟨w.heap.size + 1, 4, none⟩ = some (.int .i64 r.ttl) := by rw [Lib.cell_of_heap H2.out]; rfl
  have d5 : W.cell? ⟨w.heap.size + 1, 5, none⟩ = some (.int .i64 r.now) := by rw [Lib.cell_of_heap H2.out]; rfl
  have HS := hid (sameLines_is v1 v2 r.lines W (h1.below BW.out) (h2.below BW.out))
  subst e1
  subst e2
  have HW := hid hW
  clear h1 h2
  go_enter Try.func32, Try.ntmps32
  go_wp2_with fail
  try rw [HW.out]
  refine Calls.mono HS.out ?_
  rintro e w3 ⟨rfl, hb3⟩
  have B3 := hid (BW.out.trans (hb3.mono (by omega)))
  clear hb3 HS hW c0 c1 c2 c3 c4 c5 d0 d1 d2 d3 d4 d5
  go_wp2
  go_ret
  exact ⟨rfl, B3.out⟩
set_option maxHeartbeats 4000000 in
theorem sameReply_is (r : Ry) (v1 v2 : Value) (w : World) (h1 : RLv w v1 r.levels) (h2 : RLv w v2 r.levels) :
    Calls Try.prog 19 #[ryA r v1, ryA r v2] w fun e w' => e = .returned (.bool true) ∧ Below w.heap.size w w' := by
  unfold ryA
  have HL := hid h1.len
  obtain ⟨W, hW⟩ : ∃ W, (w.alloc (.cells #[.string r.id, .int .i64 r.err, .int .i64 r.line, v1, .int .i64 r.now] 33)).alloc (.cells #[.string r.id, .int .i64 r.err, .int .i64 r.line, v2, .int .i64 r.now] 33) = W := ⟨_, rfl⟩
  have zW : W.heap.size = w.heap.size + 2 := by rw [← hW]; simp
  have BW := hid (show Below w.heap.size w W by rw [← hW]; exact ((Below.refl _ _).alloc (Nat.le_refl _) _).alloc (by simp) _)
  have H1 := hid (show W.heap[w.heap.size]? = some (.cells #[.string r.id, .int .i64 r.err, .int .i64 r.line, v1, .int .i64 r.now] 33 (0, 0)) by
    rw [← hW]
    exact (((Below.refl (w.alloc (.cells #[.string r.id, .int .i64 r.err, .int .i64 r.line, v1, .int .i64 r.now] 33)).heap.size _).alloc (Nat.le_refl _) _).block w.heap.size (by simp)).trans (heap_alloc_new w _))
  have H2 := hid (show W.heap[w.heap.size + 1]? = some (.cells #[.string r.id, .int .i64 r.err, .int .i64 r.line, v2, .int .i64 r.now] 33 (0, 0)) by
    rw [← hW]
    have := heap_alloc_new (w.alloc (.cells #[.string r.id, .int .i64 r.err, .int .i64 r.line, v1, .int .i64 r.now] 33)) (.cells #[.string r.id, .int .i64 r.err, .int .i64 r.line, v2, .int .i64 r.now] 33)
    rw [World.size_alloc] at this
    exact this)
  have c0 : W.cell? ⟨w.heap.size, 0, none⟩ = some (.string r.id) := by rw [Lib.cell_of_heap H1.out]; rfl
  have c1 : W.cell? ⟨w.heap.size, 1, none⟩ = some (.int .i64 r.err) := by rw [Lib.cell_of_heap H1.out]; rfl
  have c2 : W.cell? ⟨w.heap.size, 2, none⟩ = some (.int .i64 r.line) := by rw [Lib.cell_of_heap H1.out]; rfl
  have c3 : W.cell? ⟨w.heap.size, 3, none⟩ = some (v1) := by rw [Lib.cell_of_heap H1.out]; rfl
  have c4 : W.cell? ⟨w.heap.size, 4, none⟩ = some (.int .i64 r.now) := by rw [Lib.cell_of_heap H1.out]; rfl
  have d0 : W.cell? ⟨w.heap.size + 1, 0, none⟩ = some (.string r.id) := by rw [Lib.cell_of_heap H2.out]; rfl
  have d1 : W.cell? ⟨w.heap.size + 1, 1, none⟩ = some (.int .i64 r.err) := by rw [Lib.cell_of_heap H2.out]; rfl
  have d2 : W.cell? ⟨w.heap.size + 1, 2, none⟩ = some (.int .i64 r.line) := by rw [Lib.cell_of_heap H2.out]; rfl
  have d3 : W.cell? ⟨w.heap.size + 1, 3, none⟩ = some (v2) := by rw [Lib.cell_of_heap H2.out]; rfl
  have d4 : W.cell? ⟨w.heap.size + 1, 4, none⟩ = some (.int .i64 r.now) := by rw [Lib.cell_of_heap H2.out]; rfl
  have G1 := hid (h1.below BW.out)
  have G2 := hid (h2.below BW.out)
  obtain ⟨a1, p1, e1⟩ := h1.form
  obtain ⟨a2, p2, e2⟩ := h2.form
  subst e1
  subst e2
  clear h1 h2
  go_enter Try.func19, Try.ntmps19
  go_wp2_with fail
  try rw [hW]
  have Bc := hid (fun (w' : World) (h : Below W.heap.size W w') => below_cells h)
  have K3 := hid (And.intro c3 d3)
  clear hW c0 c1 c2 c3 c4 d0 d1 d2 d3 d4
  go_loopw [5] (fun i wr => ∃ k : Nat, k ≤ r.levels.length ∧ i = .int .i64 (k : Int) ∧ Below W.heap.size W wr) (fun i _ => r.levels.length - (intOf i).toNat)
  case atStart => exact ⟨0, by omega, rfl, Below.refl _ _⟩
  case round =>
    obtain ⟨k, hk, rfl, hbl⟩ := hrel
    have c3 := Bc.out _ hbl _ _ K3.out.1
    have d3 := Bc.out _ hbl _ _ K3.out.2
    by_cases hlt : k < r.levels.length
    · rcases G1.out with ⟨h0, _⟩ | ⟨b, off, cap, e1, hcap, hcell⟩
      · rw [h0] at hlt
        simp at hlt
      rcases G2.out with ⟨h0, _⟩ | ⟨b2, off2, cap2, e2, hcap2, hcell2⟩
      · rw [h0] at hlt
        simp at hlt
      cases e1
      cases e2
      have hcl := hcell k hlt
      have hcl2 := hcell2 k hlt
      have x0 := Bc.out _ hbl _ _ hcl.1
      have x1 := Bc.out _ hbl _ _ hcl.2.1
      have x2 := Bc.out _ hbl _ _ hcl.2.2
      have y0 := Bc.out _ hbl _ _ hcl2.1
      have y1 := Bc.out _ hbl _ _ hcl2.2.1
      have y2 := Bc.out _ hbl _ _ hcl2.2.2
      have hl := HL.out
      have hI : (k : Int) < (r.levels.length : Int) := by omega
      clear hcl hcl2 hcell hcell2 hcap hcap2
      generalize (r.levels[k]'hlt).1 = x at x0 y0
      generalize (r.levels[k]'hlt).2.1 = y at x1 y1
      generalize (r.levels[k]'hlt).2.2 = z at x2 y2
      go_wp2_with fail
      go_quiet (fail)
      have hB1 := below_drewN hbl nq
      clear c3 d3 x0 x1 x2 y0 y1 y2
      go_wp2
      go_roundw
      case rel => exact ⟨k + 1, by omega, by go_num, hB1⟩
      case measure => simp [intOf]; omega
    · go_wp2
      go_ret
      exact ⟨rfl, BW.out.trans (hbl.mono (by omega))⟩
set_option maxHeartbeats 4000000 in
theorem sameOp_is (x : Opx) (v1 v2 u1 u2 : Value) (w : World) (h1 : RLn w v1 x.req.lines) (h2 : RLn w u1 x.req.lines) (g1 : RLv w v2 x.rep.levels) (g2 : RLv w u2 x.rep.levels) :
    Calls Try.prog 23 #[opA x v1 v2, opA x u1 u2] w fun e w' => e = .returned (.bool true) ∧ Below w.heap.size w w' := by
  unfold opA opC
  obtain ⟨W, hW⟩ : ∃ W, (w.alloc (.cells #[.string x.req.id, .int .i64 x.req.kind, v1, .string x.req.hold, .int .i64 x.req.ttl, .int .i64 x.req.now, .string x.rep.id, .int .i64 x.rep.err, .int .i64 x.rep.line, v2, .int .i64 x.rep.now, .int .i64 x.beg, .int .i64 x.fin, .bool x.opn] 35)).alloc (.cells #[.string x.req.id, .int .i64 x.req.kind, u1, .string x.req.hold, .int .i64 x.req.ttl, .int .i64 x.req.now, .string x.rep.id, .int .i64 x.rep.err, .int .i64 x.rep.line, u2, .int .i64 x.rep.now, .int .i64 x.beg, .int .i64 x.fin, .bool x.opn] 35) = W := ⟨_, rfl⟩
  have zW : W.heap.size = w.heap.size + 2 := by rw [← hW]; simp
  have BW := hid (show Below w.heap.size w W by rw [← hW]; exact ((Below.refl _ _).alloc (Nat.le_refl _) _).alloc (by simp) _)
  have H1 := hid (show W.heap[w.heap.size]? = some (.cells #[.string x.req.id, .int .i64 x.req.kind, v1, .string x.req.hold, .int .i64 x.req.ttl, .int .i64 x.req.now, .string x.rep.id, .int .i64 x.rep.err, .int .i64 x.rep.line, v2, .int .i64 x.rep.now, .int .i64 x.beg, .int .i64 x.fin, .bool x.opn] 35 (0, 0)) by
    rw [← hW]
    exact (((Below.refl (w.alloc (.cells #[.string x.req.id, .int .i64 x.req.kind, v1, .string x.req.hold, .int .i64 x.req.ttl, .int .i64 x.req.now, .string x.rep.id, .int .i64 x.rep.err, .int .i64 x.rep.line, v2, .int .i64 x.rep.now, .int .i64 x.beg, .int .i64 x.fin, .bool x.opn] 35)).heap.size _).alloc (Nat.le_refl _) _).block w.heap.size (by simp)).trans (heap_alloc_new w _))
  have H2 := hid (show W.heap[w.heap.size + 1]? = some (.cells #[.string x.req.id, .int .i64 x.req.kind, u1, .string x.req.hold, .int .i64 x.req.ttl, .int .i64 x.req.now, .string x.rep.id, .int .i64 x.rep.err, .int .i64 x.rep.line, u2, .int .i64 x.rep.now, .int .i64 x.beg, .int .i64 x.fin, .bool x.opn] 35 (0, 0)) by
    rw [← hW]
    have := heap_alloc_new (w.alloc (.cells #[.string x.req.id, .int .i64 x.req.kind, v1, .string x.req.hold, .int .i64 x.req.ttl, .int .i64 x.req.now, .string x.rep.id, .int .i64 x.rep.err, .int .i64 x.rep.line, v2, .int .i64 x.rep.now, .int .i64 x.beg, .int .i64 x.fin, .bool x.opn] 35)) (.cells #[.string x.req.id, .int .i64 x.req.kind, u1, .string x.req.hold, .int .i64 x.req.ttl, .int .i64 x.req.now, .string x.rep.id, .int .i64 x.rep.err, .int .i64 x.rep.line, u2, .int .i64 x.rep.now, .int .i64 x.beg, .int .i64 x.fin, .bool x.opn] 35)
    rw [World.size_alloc] at this
    exact this)
  have c0 : W.cell? ⟨w.heap.size, 0, none⟩ = some (.string x.req.id) := by rw [Lib.cell_of_heap H1.out]; rfl
  have c1 : W.cell? ⟨w.heap.size, 1, none⟩ = some (.int .i64 x.req.kind) := by rw [Lib.cell_of_heap H1.out]; rfl
  have c2 : W.cell? ⟨w.heap.size, 2, none⟩ = some (v1) := by rw [Lib.cell_of_heap H1.out]; rfl
  have c3 : W.cell? ⟨w.heap.size, 3, none⟩ = some (.string x.req.hold) := by rw [Lib.cell_of_heap H1.out]; rfl
  have c4 : W.cell? ⟨w.heap.size, 4, none⟩ = some (.int .i64 x.req.ttl) := by rw [Lib.cell_of_heap H1.out]; rfl
  have c5 : W.cell? ⟨w.heap.size, 5, none⟩ = some (.int .i64 x.req.now) := by rw [Lib.cell_of_heap H1.out]; rfl
  have c6 : W.cell? ⟨w.heap.size, 6, none⟩ = some (.string x.rep.id) := by rw [Lib.cell_of_heap H1.out]; rfl
  have c7 : W.cell? ⟨w.heap.size, 7, none⟩ = some (.int .i64 x.rep.err) := by rw [Lib.cell_of_heap H1.out]; rfl
  have c8 : W.cell? ⟨w.heap.size, 8, none⟩ = some (.int .i64 x.rep.line) := by rw [Lib.cell_of_heap H1.out]; rfl
  have c9 : W.cell? ⟨w.heap.size, 9, none⟩ = some (v2) := by rw [Lib.cell_of_heap H1.out]; rfl
  have c10 : W.cell? ⟨w.heap.size, 10, none⟩ = some (.int .i64 x.rep.now) := by rw [Lib.cell_of_heap H1.out]; rfl
  have c11 : W.cell? ⟨w.heap.size, 11, none⟩ = some (.int .i64 x.beg) := by rw [Lib.cell_of_heap H1.out]; rfl
  have c12 : W.cell? ⟨w.heap.size, 12, none⟩ = some (.int .i64 x.fin) := by rw [Lib.cell_of_heap H1.out]; rfl
  have c13 : W.cell? ⟨w.heap.size, 13, none⟩ = some (.bool x.opn) := by rw [Lib.cell_of_heap H1.out]; rfl
  have d0 : W.cell? ⟨w.heap.size + 1, 0, none⟩ = some (.string x.req.id) := by rw [Lib.cell_of_heap H2.out]; rfl
  have d1 : W.cell? ⟨w.heap.size + 1, 1, none⟩ = some (.int .i64 x.req.kind) := by rw [Lib.cell_of_heap H2.out]; rfl
  have d2 : W.cell? ⟨w.heap.size + 1, 2, none⟩ = some (u1) := by rw [Lib.cell_of_heap H2.out]; rfl
  have d3 : W.cell? ⟨w.heap.size + 1, 3, none⟩ = some (.string x.req.hold) := by rw [Lib.cell_of_heap H2.out]; rfl
  have d4 : W.cell? ⟨w.heap.size + 1, 4, none⟩ = some (.int .i64 x.req.ttl) := by rw [Lib.cell_of_heap H2.out]; rfl
  have d5 : W.cell? ⟨w.heap.size + 1, 5, none⟩ = some (.int .i64 x.req.now) := by rw [Lib.cell_of_heap H2.out]; rfl
  have d6 : W.cell? ⟨w.heap.size + 1, 6, none⟩ = some (.string x.rep.id) := by rw [Lib.cell_of_heap H2.out]; rfl
  have d7 : W.cell? ⟨w.heap.size + 1, 7, none⟩ = some (.int .i64 x.rep.err) := by rw [Lib.cell_of_heap H2.out]; rfl
  have d8 : W.cell? ⟨w.heap.size + 1, 8, none⟩ = some (.int .i64 x.rep.line) := by rw [Lib.cell_of_heap H2.out]; rfl
  have d9 : W.cell? ⟨w.heap.size + 1, 9, none⟩ = some (u2) := by rw [Lib.cell_of_heap H2.out]; rfl
  have d10 : W.cell? ⟨w.heap.size + 1, 10, none⟩ = some (.int .i64 x.rep.now) := by rw [Lib.cell_of_heap H2.out]; rfl
  have d11 : W.cell? ⟨w.heap.size + 1, 11, none⟩ = some (.int .i64 x.beg) := by rw [Lib.cell_of_heap H2.out]; rfl
  have d12 : W.cell? ⟨w.heap.size + 1, 12, none⟩ = some (.int .i64 x.fin) := by rw [Lib.cell_of_heap H2.out]; rfl
  have d13 : W.cell? ⟨w.heap.size + 1, 13, none⟩ = some (.bool x.opn) := by rw [Lib.cell_of_heap H2.out]; rfl
  have HS := hid (sameRequest_is x.req v1 u1 W (h1.below BW.out) (h2.below BW.out))
  have HT := hid (fun w' => sameReply_is x.rep v2 u2 w')
  have G1 := hid (g1.below BW.out)
  have G2 := hid (g2.below BW.out)
  have HW := hid hW
  unfold rqA at HS
  unfold ryA at HT
  clear h1 h2 g1 g2
  go_enter Try.func23, Try.ntmps23
  go_wp2_with fail
  try rw [HW.out]
  refine Calls.mono HS.out ?_
  rintro e w3 ⟨rfl, hb3⟩
  have B3 := hid (BW.out.trans (hb3.mono (by omega)))
  have c6' := below_cells hb3 _ _ c6
  have d6' := below_cells hb3 _ _ d6
  have c7' := below_cells hb3 _ _ c7
  have d7' := below_cells hb3 _ _ d7
  have c8' := below_cells hb3 _ _ c8
  have d8' := below_cells hb3 _ _ d8
  have c9' := below_cells hb3 _ _ c9
  have d9' := below_cells hb3 _ _ d9
  have c10' := below_cells hb3 _ _ c10
  have d10' := below_cells hb3 _ _ d10
  have HT3 := hid (HT.out w3 (G1.out.below hb3) (G2.out.below hb3))
  clear hb3 HS hW HT c0 c1 c2 c3 c4 c5 c6 c7 c8 c9 c10 c11 c12 c13 d0 d1 d2 d3 d4 d5 d6 d7 d8 d9 d10 d11 d12 d13
  go_wp2_with fail
  refine Calls.mono HT3.out ?_
  rintro e w4 ⟨rfl, hb4⟩
  have B4 := hid (B3.out.trans (hb4.mono B3.out.size))
  clear hb4 HT3
  go_wp2
  go_ret
  exact ⟨rfl, B4.out⟩
end Go.Proofs.Ytgjalfmnnoaemaa
