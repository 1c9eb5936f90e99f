/-
  codec: levels that are read, SameLevels, SameReply. Laid by mkry4.py.
-/
import Derived.Test.YtfhicemfhkhjaaaRy3
import Derived.Test.YtfhicemfhkhjaaaKx1
namespace Go.Proofs.Ytfhicemfhkhjaaa
open Go.RowKit
set_option maxRecDepth 100000

/-- the slice v reads as the levels L -/
def RLv (w : World) (v : Value) (L : List Lv) : Prop :=
  (L = [] ∧ ∃ ao cap, v = .slice ao 0 cap ∧ (ao = none → cap = 0)) ∨
  ∃ b off cap, v = .slice (some ⟨b, off, none⟩) L.length cap ∧ L.length ≤ cap ∧ ∀ j (hj : j < L.length), w.cell? ⟨b, off + j * 3, none⟩ = some (.string L[j].1) ∧ w.cell? ⟨b, off + j * 3 + 1, none⟩ = some (.int .i64 L[j].2.1) ∧ w.cell? ⟨b, off + j * 3 + 2, none⟩ = some (.int .i64 L[j].2.2)
theorem RLv.below {w w' : World} {v : Value} {L : List Lv} (h : RLv w v L) (hb : Below w.heap.size w w') : RLv w' v L := by
  rcases h with h | ⟨b, off, cap, hv, hl, hc⟩
  · exact .inl h
  · exact .inr ⟨b, off, cap, hv, hl, fun j hj => ⟨below_cells hb _ _ (hc j hj).1, below_cells hb _ _ (hc j hj).2.1, below_cells hb _ _ (hc j hj).2.2⟩⟩
theorem RLv.form {w : World} {v : Value} {L : List Lv} (h : RLv w v L) : ∃ ao cap, v = .slice ao L.length cap := by
  rcases h with ⟨rfl, ao, cap, rfl, _⟩ | ⟨b, off, cap, rfl, _⟩
  · exact ⟨_, _, rfl⟩
  · exact ⟨_, _, rfl⟩
theorem vc_at (L : List Lv) (i : Nat) (h : i < L.length) : (vc L)[i * 3]? = some (.string L[i].1) ∧ (vc L)[i * 3 + 1]? = some (.int .i64 L[i].2.1) ∧ (vc L)[i * 3 + 2]? = some (.int .i64 L[i].2.2) := by
  induction L generalizing i with
  | nil => simp at h
  | cons x t ih =>
    have e : vc (x :: t) = .string x.1 :: .int .i64 x.2.1 :: .int .i64 x.2.2 :: vc t := rfl
    rw [e]
    cases i with
    | zero => exact ⟨rfl, rfl, rfl⟩
    | succ i =>
      have := ih i (by simpa using h)
      rw [show (i + 1) * 3 = i * 3 + 1 + 1 + 1 by omega]
      simp only [List.getElem?_cons_succ, List.getElem_cons_succ]
      exact this
theorem OLv.cells {w : World} {base : Nat} {v : Value} {L : List Lv} (h : OLv w base v L) (hl : 0 < L.length) : ∃ g cap, v = .slice (some ⟨g, 0, none⟩) L.length cap ∧ L.length ≤ cap ∧ cap ≤ maxLen ∧ ∀ j (hj : j < L.length), w.cell? ⟨g, j * 3, none⟩ = some (.string L[j].1) ∧ w.cell? ⟨g, j * 3 + 1, none⟩ = some (.int .i64 L[j].2.1) ∧ w.cell? ⟨g, j * 3 + 2, none⟩ = some (.int .i64 L[j].2.2) := by
  have hc := fun g hg => World.ownsRow.cells h (g := g) hg
  rcases h.2 with ⟨_, h0⟩ | ⟨g, cap, cur, rfl, _, hgg, hn, hm, _⟩
  · omega
  · refine ⟨g, cap, rfl, hn, hm, fun j hj => ?_⟩
    have e := vc_at L j hj
    have c0 := hc g rfl _ _ e.1
    have c1 := hc g rfl _ _ e.2.1
    have c2 := hc g rfl _ _ e.2.2
    rw [Addr.add_lit, Nat.zero_add] at c0 c1 c2
    exact ⟨c0, c1, c2⟩
theorem OLv.reads {w : World} {base : Nat} {v : Value} {L : List Lv} (h : OLv w base v L) : RLv w v L := by
  by_cases hl : 0 < L.length
  · obtain ⟨g, cap, hv, h1, _, hc⟩ := h.cells hl
    exact .inr ⟨g, 0, cap, hv, h1, fun j hj => by rw [Nat.zero_add]; exact hc j hj⟩
  · obtain rfl : L = [] := List.eq_nil_of_length_eq_zero (by omega)
    rcases h.2 with ⟨rfl, _⟩ | ⟨g, cap, cur, rfl, _⟩
    · exact .inl ⟨rfl, none, 0, rfl, fun _ => rfl⟩
    · exact .inl ⟨rfl, _, cap, rfl, fun e => by cases e⟩
set_option maxHeartbeats 2000000 in
theorem sameLevels_any (v1 v2 : Value) (L : List Lv) (w : World) (h1 : RLv w v1 L) (h2 : RLv w v2 L) (hl : L.length ≤ 1000000000000) :
    Calls Try.prog 28 #[v1, v2] w fun e w' => e = .returned (.bool true) ∧ Below w.heap.size w w' := by
  have HL := hid hl
  clear hl
  rcases h1 with ⟨rfl, ao, cap, rfl, _⟩ | ⟨b, off, cap, rfl, hcap, hcell⟩
  · rcases h2 with ⟨_, ao2, cap2, rfl, _⟩ | ⟨b2, off2, cap2, rfl, _, _⟩
    all_goals
      go_enter Try.func28, Try.ntmps28
      go_wp2_with fail
      go_rounds 1
      go_ret
      exact ⟨rfl, Below.refl _ _⟩
  · rcases h2 with ⟨rfl, ao2, cap2, rfl, _⟩ | ⟨b2, off2, cap2, rfl, hcap2, hcell2⟩
    · go_enter Try.func28, Try.ntmps28
      go_wp2_with fail
      go_rounds 1
      go_ret
      exact ⟨rfl, Below.refl _ _⟩
    · have HC := hid (And.intro hcell hcell2)
      clear hcell hcell2
      go_enter Try.func28, Try.ntmps28
      go_wp2_with fail
      go_loopw [5] (fun i wr => ∃ k : Nat, k ≤ L.length ∧ i = .int .i64 (k : Int) ∧ Below w.heap.size w wr) (fun i _ => L.length - (intOf i).toNat)
      case atStart => exact ⟨0, by omega, rfl, Below.refl _ _⟩
      case round =>
        obtain ⟨k, hk, rfl, hbl⟩ := hrel
        by_cases hlt : k < L.length
        · have hcl := HC.out.1 k hlt
          have hcl2 := HC.out.2 k hlt
          have c0 := below_cells hbl _ _ hcl.1
          have c1 := below_cells hbl _ _ hcl.2.1
          have c2 := below_cells hbl _ _ hcl.2.2
          have d0 := below_cells hbl _ _ hcl2.1
          have d1 := below_cells hbl _ _ hcl2.2.1
          have d2 := below_cells hbl _ _ hcl2.2.2
          have hl := HL.out
          have hI : (k : Int) < (L.length : Int) := by omega
          clear hcl hcl2
          generalize (L[k]'hlt).1 = x at c0 d0
          generalize (L[k]'hlt).2.1 = y at c1 d1
          generalize (L[k]'hlt).2.2 = z at c2 d2
          go_wp2_with fail
          go_quiet (fail)
          have hB1 := below_drewN hbl nq
          clear c0 c1 c2 d0 d1 d2
          go_wp2
          go_roundw
          case rel => exact ⟨k + 1, by omega, by go_num, hB1⟩
          case measure => simp [intOf]; omega
        · go_wp2
          go_ret
          exact ⟨rfl, hbl⟩
set_option maxHeartbeats 2000000 in
theorem sameReply_any (r : Ry) (v1 v2 : Value) (w : World) (h1 : RLv w v1 r.levels) (h2 : RLv w v2 r.levels) (hl : r.levels.length ≤ 1000000000000) :
    Calls Try.prog 20 #[.agg (rpC r v1), .agg (rpC r v2)] w fun e w' => e = .returned (.bool true) ∧ Below w.heap.size w w' := by
  unfold rpC
  obtain ⟨a1, p1, e1⟩ := h1.form
  obtain ⟨a2, p2, e2⟩ := h2.form
  obtain ⟨W, hW⟩ : ∃ W, (w.alloc (.cells #[.string r.id, .int .i64 r.err, .int .i64 r.line, v1, .int .i64 r.now] 32)).alloc (.cells #[.string r.id, .int .i64 r.err, .int .i64 r.line, v2, .int .i64 r.now] 32) = W := ⟨_, rfl⟩
  have zW : W.heap.size = w.heap.size + 2 := by rw [← hW]; simp
  have BW := hid (show Below w.heap.size w W by rw [← hW]; exact ((Below.refl _ _).alloc (Nat.le_refl _) _).alloc (by simp) _)
  have H1 := hid (show W.heap[w.heap.size]? = some (.cells #[.string r.id, .int .i64 r.err, .int .i64 r.line, v1, .int .i64 r.now] 32 (0, 0)) by
    rw [← hW]
    exact (((Below.refl (w.alloc (.cells #[.string r.id, .int .i64 r.err, .int .i64 r.line, v1, .int .i64 r.now] 32)).heap.size _).alloc (Nat.le_refl _) _).block w.heap.size (by simp)).trans (heap_alloc_new w _))
  have H2 := hid (show W.heap[w.heap.size + 1]? = some (.cells #[.string r.id, .int .i64 r.err, .int .i64 r.line, v2, .int .i64 r.now] 32 (0, 0)) by
    rw [← hW]
    have := heap_alloc_new (w.alloc (.cells #[.string r.id, .int .i64 r.err, .int .i64 r.line, v1, .int .i64 r.now] 32)) (.cells #[.string r.id, .int .i64 r.err, .int .i64 r.line, v2, .int .i64 r.now] 32)
    rw [World.size_alloc] at this
    exact this)
  have HS := hid (sameLevels_any v1 v2 r.levels W (h1.below BW.out) (h2.below BW.out) hl)
  have c0 : W.cell? ⟨w.heap.size, 0, none⟩ = some (.string r.id) := by rw [Lib.cell_of_heap H1.out]; rfl
  have c1 : W.cell? ⟨w.heap.size, 1, none⟩ = some (.int .i64 r.err) := by rw [Lib.cell_of_heap H1.out]; rfl
  have c2 : W.cell? ⟨w.heap.size, 2, none⟩ = some (.int .i64 r.line) := by rw [Lib.cell_of_heap H1.out]; rfl
  have c3 : W.cell? ⟨w.heap.size, 3, none⟩ = some (v1) := by rw [Lib.cell_of_heap H1.out]; rfl
  have c4 : W.cell? ⟨w.heap.size, 4, none⟩ = some (.int .i64 r.now) := by rw [Lib.cell_of_heap H1.out]; rfl
  have d0 : W.cell? ⟨w.heap.size + 1, 0, none⟩ = some (.string r.id) := by rw [Lib.cell_of_heap H2.out]; rfl
  have d1 : W.cell? ⟨w.heap.size + 1, 1, none⟩ = some (.int .i64 r.err) := by rw [Lib.cell_of_heap H2.out]; rfl
  have d2 : W.cell? ⟨w.heap.size + 1, 2, none⟩ = some (.int .i64 r.line) := by rw [Lib.cell_of_heap H2.out]; rfl
  have d3 : W.cell? ⟨w.heap.size + 1, 3, none⟩ = some (v2) := by rw [Lib.cell_of_heap H2.out]; rfl
  have d4 : W.cell? ⟨w.heap.size + 1, 4, none⟩ = some (.int .i64 r.now) := by rw [Lib.cell_of_heap H2.out]; rfl
  subst e1
  subst e2
  have HW := hid hW
  clear h1 h2
  go_enter Try.func20, Try.ntmps20
  go_wp2_with fail
  try rw [HW.out]
  refine Calls.mono HS.out ?_
  rintro e w3 ⟨rfl, hb3⟩
  have B3 := hid (BW.out.trans (hb3.mono (by omega)))
  have c4' := below_cells hb3 _ _ c4
  have d4' := below_cells hb3 _ _ d4
  clear hb3 HS hW c0 c1 c2 c3 c4 d0 d1 d2 d3 d4
  go_wp2
  go_ret
  exact ⟨rfl, B3.out⟩
end Go.Proofs.Ytfhicemfhkhjaaa
