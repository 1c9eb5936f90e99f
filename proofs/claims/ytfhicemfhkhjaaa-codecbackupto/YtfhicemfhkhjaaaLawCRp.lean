/-
  Ry4: codec: levels that are read, SameLevels, SameReply. Laid by mkry4.py.
  Ry1: codec, the document's: levels, PutReply. Laid by mkry1.py.
  LawCRp: CodecReplies: the law's own walk. Laid by mkcrp.py.
-/
import Derived.Test.YtfhicemfhkhjaaaRy3
import Derived.Test.YtfhicemfhkhjaaaKx1
import Derived.Test.YtfhicemfhkhjaaaRp1
import Derived.Test.YtfhicemfhkhjaaaCx1
import Derived.Test.YtfhicemfhkhjaaaLawCRq
namespace Go.Proofs.Ytfhicemfhkhjaaa
open Go.RowKit
set_option maxRecDepth 100000

/-- the slice v reads as the levels L -/
def RLv (w : World) (v : Value) (L : List Lv) : Prop :=
  (L = [] ∧ ∃ ao cap, v = .slice ao 0 cap ∧ (ao = none → cap = 0)) ∨
  ∃ b off cap, v = .slice (some ⟨b, off, none⟩) L.length cap ∧ L.length ≤ cap ∧ ∀ j (hj : j < L.length), w.cell? ⟨b, off + j * 3, none⟩ = some (.string L[j].1) ∧ w.cell? ⟨b, off + j * 3 + 1, none⟩ = some (.int .i64 L[j].2.1) ∧ w.cell? ⟨b, off + j * 3 + 2, none⟩ = some (.int .i64 L[j].2.2)
theorem RLv.below {w w' : World} {v : Value} {L : List Lv} (h : RLv w v L) (hb : Below w.heap.size w w') : RLv w' v L := by
  rcases h with h | ⟨b, off, cap, hv, hl, hc⟩
  · exact .inl h
  · exact .inr ⟨b, off, cap, hv, hl, fun j hj => ⟨below_cells hb _ _ (hc j hj).1, below_cells hb _ _ (hc j hj).2.1, below_cells hb _ _ (hc j hj).2.2⟩⟩
theorem RLv.form {w : World} {v : Value} {L : List Lv} (h : RLv w v L) : ∃ ao cap, v = .slice ao L.length cap := by
  rcases h with ⟨rfl, ao, cap, rfl, _⟩ | ⟨b, off, cap, rfl, _⟩
  · exact ⟨_, _, rfl⟩
  · exact ⟨_, _, rfl⟩
theorem vc_at (L : List Lv) (i : Nat) (h : i < L.length) : (vc L)[i * 3]? = some (.string L[i].1) ∧ (vc L)[i * 3 + 1]? = some (.int .i64 L[i].2.1) ∧ (vc L)[i * 3 + 2]? = some (.int .i64 L[i].2.2) := by
  induction L generalizing i with
  | nil => simp at h
  | cons x t ih =>
    have e : vc (x :: t) = .string x.1 :: .int .i64 x.2.1 :: .int .i64 x.2.2 :: vc t := rfl
    rw [e]
    cases i with
    | zero => exact ⟨rfl, rfl, rfl⟩
    | succ i =>
      have := ih i (by simpa using h)
      rw [show (i + 1) * 3 = i * 3 + 1 + 1 + 1 by omega]
      simp only [List.getElem?_cons_succ, List.getElem_cons_succ]
      exact this
theorem OLv.cells {w : World} {base : Nat} {v : Value} {L : List Lv} (h : OLv w base v L) (hl : 0 < L.length) : ∃ g cap, v = .slice (some ⟨g, 0, none⟩) L.length cap ∧ L.length ≤ cap ∧ cap ≤ maxLen ∧ ∀ j (hj : j < L.length), w.cell? ⟨g, j * 3, none⟩ = some (.string L[j].1) ∧ w.cell? ⟨g, j * 3 + 1, none⟩ = some (.int .i64 L[j].2.1) ∧ w.cell? ⟨g, j * 3 + 2, none⟩ = some (.int .i64 L[j].2.2) := by
  have hc := fun g hg => World.ownsRow.cells h (g := g) hg
  rcases h.2 with ⟨_, h0⟩ | ⟨g, cap, cur, rfl, _, hgg, hn, hm, _⟩
  · omega
  · refine ⟨g, cap, rfl, hn, hm, fun j hj => ?_⟩
    have e := vc_at L j hj
    have c0 := hc g rfl _ _ e.1
    have c1 := hc g rfl _ _ e.2.1
    have c2 := hc g rfl _ _ e.2.2
    rw [Addr.add_lit, Nat.zero_add] at c0 c1 c2
    exact ⟨c0, c1, c2⟩
theorem OLv.reads {w : World} {base : Nat} {v : Value} {L : List Lv} (h : OLv w base v L) : RLv w v L := by
  by_cases hl : 0 < L.length
  · obtain ⟨g, cap, hv, h1, _, hc⟩ := h.cells hl
    exact .inr ⟨g, 0, cap, hv, h1, fun j hj => by rw [Nat.zero_add]; exact hc j hj⟩
  · obtain rfl : L = [] := List.eq_nil_of_length_eq_zero (by omega)
    rcases h.2 with ⟨rfl, _⟩ | ⟨g, cap, cur, rfl, _⟩
    · exact .inl ⟨rfl, none, 0, rfl, fun _ => rfl⟩
    · exact .inl ⟨rfl, _, cap, rfl, fun e => by cases e⟩
set_option maxHeartbeats 2000000 in
theorem sameLevels_any (v1 v2 : Value) (L : List Lv) (w : World) (h1 : RLv w v1 L) (h2 : RLv w v2 L) (hl : L.length ≤ 1000000000000) :
    Calls Try.prog 28 #[v1, v2] w fun e w' => e = .returned (.bool true) ∧ Below w.heap.size w w' := by
  have HL := hid hl
  clear hl
  rcases h1 with ⟨rfl, ao, cap, rfl, _⟩ | ⟨b, off, cap, rfl, hcap, hcell⟩
  · rcases h2 with ⟨_, ao2, cap2, rfl, _⟩ | ⟨b2, off2, cap2, rfl, _, _⟩
    all_goals
      go_enter Try.func28, Try.ntmps28
      go_wp2_with fail
      go_rounds 1
      go_ret
      exact ⟨rfl, Below.refl _ _⟩
  · rcases h2 with ⟨rfl, ao2, cap2, rfl, _⟩ | ⟨b2, off2, cap2, rfl, hcap2, hcell2⟩
    · go_enter Try.func28, Try.ntmps28
      go_wp2_with fail
      go_rounds 1
      go_ret
      exact ⟨rfl, Below.refl _ _⟩
    · have HC := hid (And.intro hcell hcell2)
      clear hcell hcell2
      go_enter Try.func28, Try.ntmps28
      go_wp2_with fail
      go_loopw [5] (fun i wr => ∃ k : Nat, k ≤ L.length ∧ i = .int .i64 (k : Int) ∧ Below w.heap.size w wr) (fun i _ => L.length - (intOf i).toNat)
      case atStart => exact ⟨0, by omega, rfl, Below.refl _ _⟩
      case round =>
        obtain ⟨k, hk, rfl, hbl⟩ := hrel
        by_cases hlt : k < L.length
        · have hcl := HC.out.1 k hlt
          have hcl2 := HC.out.2 k hlt
          have c0 := below_cells hbl _ _ hcl.1
          have c1 := below_cells hbl _ _ hcl.2.1
          have c2 := below_cells hbl _ _ hcl.2.2
          have d0 := below_cells hbl _ _ hcl2.1
          have d1 := below_cells hbl _ _ hcl2.2.1
          have d2 := below_cells hbl _ _ hcl2.2.2
          have hl := HL.out
          have hI : (k : Int) < (L.length : Int) := by omega
          clear hcl hcl2
          generalize (L[k]'hlt).1 = x at c0 d0
          generalize (L[k]'hlt).2.1 = y at c1 d1
          generalize (L[k]'hlt).2.2 = z at c2 d2
          go_wp2_with fail
          go_quiet (fail)
          have hB1 := below_drewN hbl nq
          clear c0 c1 c2 d0 d1 d2
          go_wp2
          go_roundw
          case rel => exact ⟨k + 1, by omega, by go_num, hB1⟩
          case measure => simp [intOf]; omega
        · go_wp2
          go_ret
          exact ⟨rfl, hbl⟩
set_option maxHeartbeats 2000000 in
theorem sameReply_any (r : Ry) (v1 v2 : Value) (w : World) (h1 : RLv w v1 r.levels) (h2 : RLv w v2 r.levels) (hl : r.levels.length ≤ 1000000000000) :
    Calls Try.prog 20 #[.agg (rpC r v1), .agg (rpC r v2)] w fun e w' => e = .returned (.bool true) ∧ Below w.heap.size w w' := by
  unfold rpC
  obtain ⟨a1, p1, e1⟩ := h1.form
  obtain ⟨a2, p2, e2⟩ := h2.form
  obtain ⟨W, hW⟩ : ∃ W, (w.alloc (.cells #[.string r.id, .int .i64 r.err, .int .i64 r.line, v1, .int .i64 r.now] 32)).alloc (.cells #[.string r.id, .int .i64 r.err, .int .i64 r.line, v2, .int .i64 r.now] 32) = W := ⟨_, rfl⟩
  have zW : W.heap.size = w.heap.size + 2 := by rw [← hW]; simp
  have BW := hid (show Below w.heap.size w W by rw [← hW]; exact ((Below.refl _ _).alloc (Nat.le_refl _) _).alloc (by simp) _)
  have H1 := hid (show W.heap[w.heap.size]? = some (.cells #[.string r.id, .int .i64 r.err, .int .i64 r.line, v1, .int .i64 r.now] 32 (0, 0)) by
    rw [← hW]
    exact (((Below.refl (w.alloc (.cells #[.string r.id, .int .i64 r.err, .int .i64 r.line, v1, .int .i64 r.now] 32)).heap.size _).alloc (Nat.le_refl _) _).block w.heap.size (by simp)).trans (heap_alloc_new w _))
  have H2 := hid (show W.heap[w.heap.size + 1]? = some (.cells #[.string r.id, .int .i64 r.err, .int .i64 r.line, v2, .int .i64 r.now] 32 (0, 0)) by
    rw [← hW]
    have := heap_alloc_new (w.alloc (.cells #[.string r.id, .int .i64 r.err, .int .i64 r.line, v1, .int .i64 r.now] 32)) (.cells #[.string r.id, .int .i64 r.err, .int .i64 r.line, v2, .int .i64 r.now] 32)
    rw [World.size_alloc] at this
    exact this)
  have HS := hid (sameLevels_any v1 v2 r.levels W (h1.below BW.out) (h2.below BW.out) hl)
  have c0 : W.cell? ⟨w.heap.size, 0, none⟩ = some (.string r.id) := by rw [Lib.cell_of_heap H1.out]; rfl
  have c1 : W.cell? ⟨w.heap.size, 1, none⟩ = some (.int .i64 r.err) := by rw [Lib.cell_of_heap H1.out]; rfl
  have c2 : W.cell? ⟨w.heap.size, 2, none⟩ = some (.int .i64 r.line) := by rw [Lib.cell_of_heap H1.out]; rfl
  have c3 : W.cell? ⟨w.heap.size, 3, none⟩ = some (v1) := by rw [Lib.cell_of_heap H1.out]; rfl
  have c4 : W.cell? ⟨w.heap.size, 4, none⟩ = some (.int .i64 r.now) := by rw [Lib.cell_of_heap H1.out]; rfl
  have d0 : W.cell? ⟨w.heap.size + 1, 0, none⟩ = some (.string r.id) := by rw [Lib.cell_of_heap H2.out]; rfl
  have d1 : W.cell? ⟨w.heap.size + 1, 1, none⟩ = some (.int .i64 r.err) := by rw [Lib.cell_of_heap H2.out]; rfl
  have d2 : W.cell? ⟨w.heap.size + 1, 2, none⟩ = some (.int .i64 r.line) := by rw [Lib.cell_of_heap H2.out]; rfl
  have d3 : W.cell? ⟨w.heap.size + 1, 3, none⟩ = some (v2) := by rw [Lib.cell_of_heap H2.out]; rfl
  have d4 : W.cell? ⟨w.heap.size + 1, 4, none⟩ = some (.int .i64 r.now) := by rw [Lib.cell_of_heap H2.out]; rfl
  subst e1
  subst e2
  have HW := hid hW
  clear h1 h2
  go_enter Try.func20, Try.ntmps20
  go_wp2_with fail
  try rw [HW.out]
  refine Calls.mono HS.out ?_
  rintro e w3 ⟨rfl, hb3⟩
  have B3 := hid (BW.out.trans (hb3.mono (by omega)))
  have c4' := below_cells hb3 _ _ c4
  have d4' := below_cells hb3 _ _ d4
  clear hb3 HS hW c0 c1 c2 c3 c4 d0 d1 d2 d3 d4
  go_wp2
  go_ret
  exact ⟨rfl, B3.out⟩
end Go.Proofs.Ytfhicemfhkhjaaa

namespace Go.Proofs.Ytfhicemfhkhjaaa
open Go.RowKit
set_option maxRecDepth 100000

set_option maxHeartbeats 1000000 in
theorem rlevels_any (v : Value) (l : List UInt8) (ao : Option Addr) (cap B : Nat) (L : List Lv) (w : World) (hr : Reads w v l) (hL : LV w B ao L) (hn : L.length ≤ 9223372036854775807) (hl : l.length + (grp L.length ++ lvB L).length ≤ 100000000000000) :
    Calls Try.prog 60 #[v, .slice ao L.length cap] w fun e w' => ∃ v', e = .returned v' ∧ Owns w' w.heap.size v' (l ++ (grp L.length ++ lvB L)) ∧ Below w.heap.size w w' := by
  have HC := hid (rcount_any v l L.length w hr hn (by omega))
  have HL := hid hL
  clear hL hr
  go_enter Try.func60, Try.ntmps60
  go_wp2_with fail
  refine Calls.mono HC.out ?_
  rintro e w1 ⟨v1, rfl, ho, hb⟩
  have HO := hid ho
  have HB := hid hb
  clear ho hb HC
  go_wp2_with fail
  go_loopw [0, 5] (fun vb vi wx => ∃ j : Nat, j ≤ L.length ∧ vi = .int .i64 (j : Int) ∧ Owns wx w.heap.size vb (l ++ (grp L.length ++ lvB (L.take j))) ∧ Below w.heap.size w wx) (fun _ vi _ => L.length - (intOf vi).toNat)
  case atStart => exact ⟨0, Nat.zero_le _, rfl, by simpa [lvB] using HO.out, HB.out⟩
  case round =>
    obtain ⟨j, hj, rfl, ho, hb⟩ := hrel
    have HO := hid ho
    have HB := hid hb
    have hz := hb.size
    clear ho hb
    by_cases h : j < L.length
    · have hI : (j : Int) < (L.length : Int) := by omega
      obtain ⟨⟨b1, ⟨b2, b3⟩, b4, b5⟩, g, off, hao, hg, c0, c1, c2⟩ := HL.out j h
      subst hao
      have c0 := below_cells HB.out _ _ c0
      have HC1 := hid (fun wx (hx : Below w.heap.size w wx) => below_cells hx _ _ c1)
      have HC2 := hid (fun wx (hx : Below w.heap.size w wx) => below_cells hx _ _ c2)
      have HLn := hid (lvB_succ L j h)
      have hle := lvB_le L (j + 1)
      rw [HLn.out] at hle
      have h2 : (lv1 L[j]).length = (grp L[j].1.size).length + L[j].1.size + (grp (foldI L[j].2.1)).length + (grp (foldI L[j].2.2)).length := by
        unfold lv1
        simp only [List.length_append]
        rfl
      simp only [List.length_append] at hl hle
      have HT := hid (refPutText_any _ _ L[j].1 wr HO.out.reads (by simp only [List.length_append]; omega))
      clear c1 c2
      go_wp2_with fail
      refine Calls.mono HT.out ?_
      rintro e w2 ⟨v2, rfl, ho2, hb2⟩
      have HO2 := hid ho2
      have HB2 := hid (HB.out.trans (hb2.mono hz))
      have HI := hid (refPutInt_any v2 _ L[j].2.1 w2 ho2.reads b2 b3 (by simp only [List.length_append]; have e : L[j].1.data.toList.length = L[j].1.size := rfl; omega))
      have c1 := HC1.out w2 HB2.out
      clear ho2 hb2 HT
      go_wp2_with fail
      refine Calls.mono HI.out ?_
      rintro e w3 ⟨v3, rfl, ho3, hb3⟩
      have HO3 := hid ho3
      have HB3 := hid (HB2.out.trans (hb3.mono HB2.out.size))
      have HI2 := hid (refPutInt_any v3 _ L[j].2.2 w3 ho3.reads b4 b5 (by simp only [List.length_append]; have e : L[j].1.data.toList.length = L[j].1.size := rfl; omega))
      have c2 := HC2.out w3 HB3.out
      clear ho3 hb3 HI c1 c0
      go_wp2_with fail
      refine Calls.mono HI2.out ?_
      rintro e w4 ⟨v4, rfl, ho4, hb4⟩
      have HO4 := hid (show Owns w4 w.heap.size v4 (l ++ (grp L.length ++ lvB (L.take (j + 1)))) by
        rw [HLn.out]
        have := ho4.mono HB3.out.size
        unfold lv1
        simp only [List.append_assoc] at this ⊢
        exact this)
      have HB4 := hid (HB3.out.trans (hb4.mono HB3.out.size))
      clear ho4 hb4 HI2
      go_wp2_with fail
      go_roundw
      case rel => exact ⟨j + 1, by omega, by go_num, HO4.out, HB4.out⟩
      case measure => simp [intOf]; omega
    · have hI : ¬ (j : Int) < (L.length : Int) := by omega
      obtain rfl : j = L.length := by omega
      rw [List.take_length] at HO
      go_wp2
      go_ret
      exact ⟨_, rfl, HO.out, HB.out⟩
set_option maxHeartbeats 2000000 in
theorem rputReply_any (r : Ry) (ao : Option Addr) (cap B : Nat) (w : World) (ho : RpOk r) (hL : LV w B ao r.levels) (hl : (rpB r).length ≤ 10000000000000) :
    Calls Try.prog 27 #[rpV r ao cap] w fun e w' => Wrt (82 :: rpB r) 4096 w e w' := by
  obtain ⟨M, hM⟩ : ∃ M, 82 :: rpB r = M := ⟨_, rfl⟩
  rw [hM]
  have HM := hid hM
  clear hM
  unfold rpV
  unfold rpB txB at hl
  simp only [List.length_append] at hl
  have e1 : r.id.data.toList.length = r.id.size := rfl
  obtain ⟨W0, hW0⟩ : ∃ W0, w.alloc (.cells #[.string r.id, .int .i64 r.err, .int .i64 r.line, .slice ao r.levels.length cap, .int .i64 r.now] 32) = W0 := ⟨_, rfl⟩
  obtain ⟨W, hW⟩ : ∃ W, W0.alloc (.cells #[.int .u8 82] 5) = W := ⟨_, rfl⟩
  have z0 : W0.heap.size = w.heap.size + 1 := by rw [← hW0, World.size_alloc]
  have z : W.heap.size = w.heap.size + 2 := by rw [← hW, World.size_alloc, z0]
  have hb1 : Below w.heap.size w W0 := by rw [← hW0]; exact (Below.refl _ _).alloc (Nat.le_refl _) _
  have hb2 : Below W0.heap.size W0 W := by rw [← hW]; exact (Below.refl _ _).alloc (Nat.le_refl _) _
  have hB0 : Below w.heap.size w W := hb1.trans (hb2.mono (by omega))
  have hrq : W.heap[w.heap.size]? = some (.cells #[.string r.id, .int .i64 r.err, .int .i64 r.line, .slice ao r.levels.length cap, .int .i64 r.now] 32 (0, 0)) := (hb2.block _ (by omega)).trans (by rw [← hW0]; exact heap_alloc_new w _)
  have B0 := hid hB0
  have X0 := hid (Below.refl W.heap.size W)
  have HR := hid (show Reads W (.slice (some ⟨w.heap.size + 1, 0, none⟩) 1 1) [82] by rw [← hW, ← z0]; exact reads_one W0 82 _ rfl)
  have HQ := hid (show ∀ wx, Below W.heap.size W wx → ∀ j u, (#[.string r.id, .int .i64 r.err, .int .i64 r.line, .slice ao r.levels.length cap, .int .i64 r.now] : Array Value)[j]? = some u → wx.cell? ⟨w.heap.size, j, none⟩ = some u from fun wx hx j u hu => by
    rw [cell_of_row wx _ _ _ _ _ ((hx.block _ (by omega)).trans hrq)]
    exact hu)
  have HLL := hid (fun wx (hx : Below W.heap.size W wx) => hL.below (hB0.trans (hx.mono (by omega))) (Nat.le_refl B))
  have HOk := hid ho
  clear hL ho hrq hB0 hb1 hb2
  go_enter Try.func27, Try.ntmps27
  have c0 : W.cell? ⟨w.heap.size, 0, none⟩ = some (.string r.id) := HQ.out W X0.out 0 _ rfl
  have HC := hid (refPutText_any (.slice (some ⟨w.heap.size + 1, 0, none⟩) 1 1) _ r.id W HR.out (by simp only [List.length_cons, List.length_nil]; omega))
  go_wp2_with fail
  try rw [hW]
  refine Calls.mono HC.out ?_
  rintro e w1 ⟨v1, rfl, ho1, hb1⟩
  have HO1 := hid ho1
  have X1 := hid (X0.out.trans (hb1.mono X0.out.size))
  clear ho1 hb1 HC c0
  have c1 : w1.cell? ⟨w.heap.size, 1, none⟩ = some (.int .i64 r.err) := HQ.out w1 X1.out 1 _ rfl
  have HC := hid (refPutInt_any v1 _ r.err w1 HO1.out.reads HOk.out.b1.1 HOk.out.b1.2 (by simp only [List.length_append, List.length_cons, List.length_nil]; omega))
  go_wp2_with fail
  skip
  refine Calls.mono HC.out ?_
  rintro e w2 ⟨v2, rfl, ho2, hb2⟩
  have HO2 := hid ho2
  have X2 := hid (X1.out.trans (hb2.mono X1.out.size))
  clear ho2 hb2 HC c1
  have c2 : w2.cell? ⟨w.heap.size, 2, none⟩ = some (.int .i64 r.line) := HQ.out w2 X2.out 2 _ rfl
  have HC := hid (refPutInt_any v2 _ r.line w2 HO2.out.reads HOk.out.b2.1 HOk.out.b2.2 (by simp only [List.length_append, List.length_cons, List.length_nil]; omega))
  go_wp2_with fail
  skip
  refine Calls.mono HC.out ?_
  rintro e w3 ⟨v3, rfl, ho3, hb3⟩
  have HO3 := hid ho3
  have X3 := hid (X2.out.trans (hb3.mono X2.out.size))
  clear ho3 hb3 HC c2
  have c3 : w3.cell? ⟨w.heap.size, 3, none⟩ = some (.slice ao r.levels.length cap) := HQ.out w3 X3.out 3 _ rfl
  have HC := hid (rlevels_any v3 _ ao cap B r.levels w3 HO3.out.reads (HLL.out w3 X3.out) HOk.out.b0.2 (by simp only [List.length_append, List.length_cons, List.length_nil]; omega))
  go_wp2_with fail
  skip
  refine Calls.mono HC.out ?_
  rintro e w4 ⟨v4, rfl, ho4, hb4⟩
  have HO4 := hid ho4
  have X4 := hid (X3.out.trans (hb4.mono X3.out.size))
  clear ho4 hb4 HC c3
  have c4 : w4.cell? ⟨w.heap.size, 4, none⟩ = some (.int .i64 r.now) := HQ.out w4 X4.out 4 _ rfl
  have HC := hid (refPutInt_any v4 _ r.now w4 HO4.out.reads HOk.out.b3.1 HOk.out.b3.2 (by simp only [List.length_append, List.length_cons, List.length_nil]; omega))
  go_wp2_with fail
  skip
  refine Calls.mono HC.out ?_
  rintro e w5 ⟨v5, rfl, ho5, hb5⟩
  have HO5 := hid ho5
  have X5 := hid (X4.out.trans (hb5.mono X4.out.size))
  clear ho5 hb5 HC c4
  have HWi := hid (rwithin_any v5 M 4096 w.heap.size w5 (by
    have h1 := X4.out.size
    have := HO5.out.mono (show w.heap.size ≤ w4.heap.size by omega)
    rw [← HM.out]
    unfold rpB txB
    simp only [List.append_assoc, List.cons_append, List.nil_append] at this ⊢
    exact this))
  have B5 := hid (B0.out.trans (X5.out.mono (by omega)))
  by_cases hfit : M.length ≤ 4096
  · simp only [if_pos hfit] at HWi
    go_wp2_with fail
    refine Calls.mono HWi.out ?_
    rintro e w6 ⟨⟨v6, rfl, ho6⟩, rfl⟩
    have HO := hid ho6
    clear ho6 HWi
    go_wp2
    go_ret2
    exact Wrt.yes hfit HO.out B5.out
  · simp only [if_neg hfit] at HWi
    go_wp2_with fail
    refine Calls.mono HWi.out ?_
    rintro e w6 ⟨⟨v6, rfl, ho6⟩, rfl⟩
    have HO := hid ho6
    clear ho6 HWi
    go_wp2
    go_ret2
    exact ⟨v6, by rw [if_neg hfit]; rfl, by rw [if_neg hfit]; exact HO.out, B5.out⟩
end Go.Proofs.Ytfhicemfhkhjaaa

namespace Go.Proofs.Ytfhicemfhkhjaaa
open Go.RowKit
set_option maxRecDepth 100000

/-- each level may be -/
def LvOk (L : List Lv) : Prop := ∀ i (h : i < L.length), L[i].1.size ≤ 1000000000000 ∧ (-9223372036854775808 ≤ L[i].2.1 ∧ L[i].2.1 ≤ 9223372036854775807) ∧ -9223372036854775808 ≤ L[i].2.2 ∧ L[i].2.2 ≤ 9223372036854775807
/-- what levels weigh -/
def wv (L : List Lv) : Nat := (L.map fun x => 3 + x.1.size).sum
theorem wv_take (L : List Lv) (k : Nat) (h : k < L.length) : wv (L.take (k + 1)) = wv (L.take k) + (3 + L[k].1.size) := by
  unfold wv
  rw [List.take_succ_eq_append_getElem h, List.map_append, List.sum_append]
  simp
theorem wv_le (L : List Lv) (k : Nat) : wv (L.take k) ≤ wv L := by
  have e : wv L = wv (L.take k) + wv (L.drop k) := by
    unfold wv
    rw [← List.sum_append, ← List.map_append, List.take_append_drop]
  omega
theorem wv_len (L : List Lv) : 3 * L.length ≤ wv L := by
  induction L with
  | nil => simp [wv]
  | cons x t ih =>
    have e : wv (x :: t) = 3 + x.1.size + wv t := by simp [wv]
    rw [e, List.length_cons]
    omega
theorem RLv.lv {w : World} {ao : Option Addr} {n cap : Nat} {L : List Lv} (h : RLv w (.slice ao n cap) L) (hk : LvOk L) : LV w w.heap.size ao L := by
  intro i hi
  rcases h with ⟨rfl, _⟩ | ⟨b, off, cp, hv, hl, hc⟩
  · simp at hi
  · cases hv
    exact ⟨hk i hi, b, off, rfl, World.block_lt_of_cell? _ _ (hc i hi).1, (hc i hi).1, (hc i hi).2.1, (hc i hi).2.2⟩
theorem lvB_len (L : List Lv) (hk : LvOk L) : (lvB L).length ≤ wv L + 30 * L.length := by
  induction L with
  | nil => simp [lvB]
  | cons x t ih =>
    have h0 := hk 0 (by simp)
    have hk' : LvOk t := fun i hi => by
      have := hk (i + 1) (by simpa using hi)
      simpa using this
    have h1 := ih hk'
    have e1 : lvB (x :: t) = lv1 x ++ lvB t := rfl
    have e2 : wv (x :: t) = 3 + x.1.size + wv t := by simp [wv]
    have g1 := grp_le x.1.size (by simp at h0; omega)
    have g2 := grp_le (foldI x.2.1) (foldI_lt x.2.1 (by simp at h0; omega) (by simp at h0; omega))
    have g3 := grp_le (foldI x.2.2) (foldI_lt x.2.2 (by simp at h0; omega) (by simp at h0; omega))
    have e3 : (lv1 x).length = (grp x.1.size).length + x.1.size + (grp (foldI x.2.1)).length + (grp (foldI x.2.2)).length := by
      unfold lv1
      simp only [List.length_append]
      rfl
    rw [e1, List.length_append, e2, List.length_cons, e3]
    omega
theorem rpB_len (r : Ry) (ho : RpOk r) (hk : LvOk r.levels) : (rpB r).length ≤ r.id.size + wv r.levels + 30 * r.levels.length + 100 := by
  have g1 := grp_le r.id.size (by have := ho.b0; omega)
  have g3 := grp_le r.levels.length (by have := ho.b0; omega)
  have g4 := grp_le (foldI r.err) (foldI_lt _ ho.b1.1 ho.b1.2)
  have g5 := grp_le (foldI r.line) (foldI_lt _ ho.b2.1 ho.b2.2)
  have g6 := grp_le (foldI r.now) (foldI_lt _ ho.b3.1 ho.b3.2)
  have g7 := lvB_len r.levels hk
  have e1 : r.id.data.toList.length = r.id.size := rfl
  unfold rpB txB
  simp only [List.length_append]
  omega
set_option maxHeartbeats 4000000 in
theorem codecReplies_any (r : Ry) (ao : Option Addr) (cap : Nat) (vb : Value) (l : List UInt8) (w : World) (hR : RLv w (.slice ao r.levels.length cap) r.levels) (ho : RpOk r) (hk : LvOk r.levels) (hB : Reads w vb l)
    (hs : r.id.size + wv r.levels ≤ 1000000000) (hl : l.length ≤ 1000000000) :
    Calls Try.prog 6 #[rpV r ao cap, vb] w fun e w' => e = .returned (.bool true) ∧ Below w.heap.size w w' := by
  obtain ⟨bo, bc, rfl⟩ := hB.form
  obtain ⟨W, hW⟩ : ∃ W, w.alloc (.cells #[.string r.id, .int .i64 r.err, .int .i64 r.line, .slice ao r.levels.length cap, .int .i64 r.now] 32) = W := ⟨_, rfl⟩
  have HRW := hid (show W.heap[w.heap.size]? = some (.cells #[.string r.id, .int .i64 r.err, .int .i64 r.line, .slice ao r.levels.length cap, .int .i64 r.now] 32 (0, 0)) by rw [← hW]; exact heap_alloc_new w _)
  have BW := hid (show Below w.heap.size w W by rw [← hW]; exact (Below.refl _ _).alloc (Nat.le_refl _) _)
  have zW : W.heap.size = w.heap.size + 1 := by rw [← hW, World.size_alloc]
  have hn : r.levels.length ≤ 1000000000 := by have := wv_len r.levels; omega
  have c0 : W.cell? ⟨w.heap.size, 0, none⟩ = some (.string r.id) := by rw [Lib.cell_of_heap HRW.out]; rfl
  have HR := hid hR
  have HRw := hid (hR.below BW.out)
  have HBs := hid hB
  have HOk := hid ho
  have HLk := hid hk
  have HBl := hid (show (rpB r).length ≤ 10000000000000 by have := rpB_len r ho hk; omega)
  unfold rpV
  clear hR hB ho hk
  go_enter Try.func6, Try.ntmps6
  go_wp2_with fail
  try rw [hW]
  clear hW c0
  go_loopw [5, 6, 7] (fun n vs i wx => ∃ k : Nat, k ≤ r.levels.length ∧ i = .int .i64 (k : Int) ∧ n = .int .i64 ((r.id.size + wv (r.levels.take k) : Nat) : Int) ∧ OLv wx W.heap.size vs (r.levels.take k) ∧ Below W.heap.size W wx) (fun _ _ i _ => r.levels.length - (intOf i).toNat)
  case atStart => exact ⟨0, by omega, rfl, by simp [wv], World.ownsRow_nil _ _ _ _, Below.refl _ _⟩
  case round =>
    obtain ⟨k, hk, rfl, rfl, ho, hb⟩ := hrel
    have HO := hid ho
    have HB := hid hb
    have hz := hb.size
    have RR := hid ((hb.block w.heap.size (by omega)).trans HRW.out)
    have c3 : wr.cell? ⟨w.heap.size, 3, none⟩ = some (.slice ao r.levels.length cap) := by rw [Lib.cell_of_heap RR.out]; rfl
    clear ho hb
    by_cases h : k < r.levels.length
    · have hI : (k : Int) < (r.levels.length : Int) := by omega
      rcases HRw.out with ⟨h0, _⟩ | ⟨b, off, cp, hv, hcp, hcell⟩
      · rw [h0] at h; simp at h
      cases hv
      have d0 := below_cells HB.out _ _ (hcell k h).1
      have d1 := below_cells HB.out _ _ (hcell k h).2.1
      have d2 := below_cells HB.out _ _ (hcell k h).2.2
      have HT := hid (wv_take r.levels k h)
      have HA := hid (show r.levels.take (k + 1) = r.levels.take k ++ [r.levels[k]] from List.take_succ_eq_append_getElem h)
      have hle := wv_le r.levels (k + 1)
      rw [HT.out] at hle
      clear hcell
      obtain ⟨⟨x, y, z⟩, hx⟩ : ∃ q, r.levels[k]'h = q := ⟨_, rfl⟩
      rw [hx] at d0 d1 d2 HT HA hle
      have hlen : (r.levels.take k).length ≤ 1000000000000 := by rw [List.length_take]; omega
      generalize r.levels.take k = J at *
      generalize wv J = m at *
      obtain ⟨W6, hW6⟩ : ∃ W6, wr.alloc (.cells #[.string x, .int .i64 y, .int .i64 z] 64) = W6 := ⟨_, rfl⟩
      have R6 := hid (show W6.heap[wr.heap.size]? = some (.cells #[.string x, .int .i64 y, .int .i64 z] 64 (0, 0)) by rw [← hW6]; exact heap_alloc_new wr _)
      have B6 := hid (show Below wr.heap.size wr W6 by rw [← hW6]; exact (Below.refl _ _).alloc (Nat.le_refl _) _)
      have z6 : W6.heap.size = wr.heap.size + 1 := by rw [← hW6, World.size_alloc]
      have HO6 := hid (show OLv W6 W.heap.size u6 J from HO.out.old (fun k _ hk => B6.out.block k hk))
      have hbz : W.heap.size ≤ W6.heap.size := by omega
      clear hx
      go_wp2_with (at_builtin; go_loud (refine wpList_appV rfl _ _ rfl W.heap.size _ J rfl HO6.out wr.heap.size (x, y, z) rfl R6.out hlen hbz ?hnext))
      case hnext =>
      intro v7 w7 ho7 hg7
      have HO7 := hid ho7
      have B7 := hid (show Below W.heap.size W w7 from HB.out.trans ((B6.out.mono hz).trans ⟨hg7.os, hg7.tape, hg7.output, hg7.size, fun j hj => hg7.block j (by omega) (fun e => by have := HO6.out.block_ge j e.symm; omega)⟩))
      clear ho7 hg7 HO6 R6 B6 d0 d1 d2 c3
      go_wp2_with fail
      go_roundw
      case rel => exact ⟨k + 1, by omega, by go_num, by rw [HT.out]; refine congrArg _ ?_; unfold wrap64; omega, by rw [HA.out, zW]; exact HO7.out, B7.out⟩
      case measure => simp [intOf]; omega
    · have hI : ¬ (k : Int) < (r.levels.length : Int) := by omega
      obtain rfl : k = r.levels.length := by omega
      rw [List.take_length] at *
      have B1 := hid (BW.out.trans (HB.out.mono (by omega)))
      generalize hN : r.id.size + wv r.levels = N at *
      clear hN
      by_cases hbig : 1048576 < N
      · have hI : (1048576 : Int) < (N : Int) := by omega
        go_wp2
        go_ret
        exact ⟨rfl, B1.out⟩
      have hI : ¬ (1048576 : Int) < (N : Int) := by omega
      clear c3
      obtain ⟨so, sn, sp, hvs⟩ := HO.out.form
      subst hvs
      have RS := hid HO.out.reads
      have c0 : wr.cell? ⟨w.heap.size, 0, none⟩ = some (.string r.id) := by rw [Lib.cell_of_heap RR.out]; rfl
      have c1 : wr.cell? ⟨w.heap.size, 1, none⟩ = some (.int .i64 r.err) := by rw [Lib.cell_of_heap RR.out]; rfl
      have c2 : wr.cell? ⟨w.heap.size, 2, none⟩ = some (.int .i64 r.line) := by rw [Lib.cell_of_heap RR.out]; rfl
      have c3 : wr.cell? ⟨w.heap.size, 3, none⟩ = some (.slice ao r.levels.length cap) := by rw [Lib.cell_of_heap RR.out]; rfl
      have c4 : wr.cell? ⟨w.heap.size, 4, none⟩ = some (.int .i64 r.now) := by rw [Lib.cell_of_heap RR.out]; rfl
      have HP := hid (putReply_any r ao cap wr HOk.out ((HR.out.below B1.out).lv HLk.out))
      unfold rpV at HP
      go_wp2_with fail
      refine Calls.mono HP.out ?_
      intro e w4 hw4
      obtain ⟨v4, rfl, ho4, hb4⟩ := hw4
      have R4 := hid ((hb4.block w.heap.size (by omega)).trans RR.out)
      have B4 := hid (B1.out.trans (hb4.mono (by omega)))
      have S4 := hid (RS.out.below hb4)
      have z4 := hb4.size
      clear c0 c1 c2 c3 c4
      have c0 : w4.cell? ⟨w.heap.size, 0, none⟩ = some (.string r.id) := by rw [Lib.cell_of_heap R4.out]; rfl
      have c1 : w4.cell? ⟨w.heap.size, 1, none⟩ = some (.int .i64 r.err) := by rw [Lib.cell_of_heap R4.out]; rfl
      have c2 : w4.cell? ⟨w.heap.size, 2, none⟩ = some (.int .i64 r.line) := by rw [Lib.cell_of_heap R4.out]; rfl
      have c3 : w4.cell? ⟨w.heap.size, 3, none⟩ = some (.slice ao r.levels.length cap) := by rw [Lib.cell_of_heap R4.out]; rfl
      have c4 : w4.cell? ⟨w.heap.size, 4, none⟩ = some (.int .i64 r.now) := by rw [Lib.cell_of_heap R4.out]; rfl
      have HQ := hid (rputReply_any r ao cap w4.heap.size w4 HOk.out ((HR.out.below B4.out).lv HLk.out) HBl.out)
      unfold rpV at HQ
      unfold Wrt at HQ
      have HO4 := hid ho4
      clear ho4 hb4 HP RR RS B1 HO HB
      generalize (if (82 :: rpB r).length ≤ 4096 then (0 : Int) else 1) = er at *
      generalize (if (82 :: rpB r).length ≤ 4096 then 82 :: rpB r else []) = M at *
      go_wp2_with fail
      refine Calls.mono HQ.out ?_
      rintro e w5 ⟨v5, rfl, ho5, hb5⟩
      have R5 := hid ((hb5.block w.heap.size (by omega)).trans R4.out)
      have B5 := hid (B4.out.trans (hb5.mono (by omega)))
      have z5 := hb5.size
      have t4 := text_run (HO4.out.reads.below hb5)
      have t5 := text_run ho5.reads
      have HK := hid (sameLevels_any (.slice ao r.levels.length cap) (.slice so sn sp) r.levels w5 (HR.out.below B5.out) (S4.out.below hb5) (by omega))
      clear c0 c1 c2 c3 c4
      have c3 : w5.cell? ⟨w.heap.size, 3, none⟩ = some (.slice ao r.levels.length cap) := by rw [Lib.cell_of_heap R5.out]; rfl
      clear ho5 hb5 HQ R4 B4 S4 HO4
      go_wp2_with fail
      refine Calls.mono HK.out ?_
      rintro e w6 ⟨rfl, hb6⟩
      have B6 := hid (B5.out.trans (hb6.mono (by omega)))
      have z6 := hb6.size
      have HLb := hid (lent_any _ l w6 (HBs.out.below B6.out) (by omega))
      clear hb6 HK B5 R5 t4 t5 c3
      go_wp2_with fail
      refine Calls.mono HLb.out ?_
      rintro e w7 ⟨v7, rfl, hL7, hb7⟩
      have B7 := hid (B6.out.trans (hb7.mono B6.out.size))
      have z7 := hb7.size
      have HRq := hid (reply_any l v7 w7 hL7.reads)
      have L7 := hid hL7
      unfold Rdp at HRq
      have HRr := hid (fun (wx : World) (h : Reads wx (.slice bo l.length bc) l) => rreply_any _ l wx h)
      unfold Rdp at HRr
      generalize (rps l).1 = qe at *
      generalize (rps l).2.1 = qp at *
      have hq9 : (rps l).2.2.levels.length ≤ 1000000000000 := Nat.le_trans (rps_levels l) (by omega)
      generalize (rps l).2.2 = q at *
      clear hb7 hL7 HLb B6
      go_wp2_with fail
      refine Calls.mono HRq.out ?_
      rintro e w8 ⟨v8, rfl, ho8, hb8⟩
      obtain ⟨xo, xn, xp, hv8⟩ := ho8.form
      have HO8 := hid ho8
      subst hv8
      obtain ⟨W9, hW9⟩ : ∃ W9, w8.alloc (.cells #[.string q.id, .int .i64 q.err, .int .i64 q.line, .slice xo xn xp, .int .i64 q.now] 32) = W9 := ⟨_, rfl⟩
      have RX9 := hid (show W9.heap[w8.heap.size]? = some (.cells #[.string q.id, .int .i64 q.err, .int .i64 q.line, .slice xo xn xp, .int .i64 q.now] 32 (0, 0)) by rw [← hW9]; exact heap_alloc_new w8 _)
      have b9 : Below w8.heap.size w8 W9 := by rw [← hW9]; exact (Below.refl _ _).alloc (Nat.le_refl _) _
      have z9 : W9.heap.size = w8.heap.size + 1 := by rw [← hW9, World.size_alloc]
      have B8 := hid (B7.out.trans (hb8.mono B7.out.size))
      have z8 := hb8.size
      have B9 := hid (B8.out.trans (b9.mono B8.out.size))
      have L9 := hid ((L7.out.below hb8).below b9)
      have X9 := hid (HO8.out.reads.below b9)
      have HR2 := hid (HRr.out W9 (HBs.out.below B9.out))
      unfold rpC
      clear ho8 hb8 b9 HRq HRr HO8 B8 B7 L7
      go_wp2_with fail
      try rw [hW9]
      refine Calls.mono HR2.out ?_
      rintro e wa ⟨va, rfl, hoa, hba⟩
      obtain ⟨yo, yn, yp, hva⟩ := hoa.form
      have HOa := hid hoa
      subst hva
      obtain ⟨Wb, hWb⟩ : ∃ Wb, wa.alloc (.cells #[.string q.id, .int .i64 q.err, .int .i64 q.line, .slice yo yn yp, .int .i64 q.now] 32) = Wb := ⟨_, rfl⟩
      have RYb := hid (show Wb.heap[wa.heap.size]? = some (.cells #[.string q.id, .int .i64 q.err, .int .i64 q.line, .slice yo yn yp, .int .i64 q.now] 32 (0, 0)) by rw [← hWb]; exact heap_alloc_new wa _)
      have bb : Below wa.heap.size wa Wb := by rw [← hWb]; exact (Below.refl _ _).alloc (Nat.le_refl _) _
      have zb : Wb.heap.size = wa.heap.size + 1 := by rw [← hWb, World.size_alloc]
      have Ba := hid (B9.out.trans (hba.mono B9.out.size))
      have za := hba.size
      have Bb := hid (Ba.out.trans (bb.mono Ba.out.size))
      have Lb := hid ((L9.out.below hba).below bb)
      have Xb := hid ((X9.out.below hba).below bb)
      have Yb := hid (HOa.out.reads.below bb)
      have RXb := hid ((bb.block w8.heap.size (by omega)).trans ((hba.block w8.heap.size (by omega)).trans RX9.out))
      have HSm := hid (sameReply_any q _ _ Wb Xb.out Yb.out hq9)
      have c0 : Wb.cell? ⟨w8.heap.size, 0, none⟩ = some (.string q.id) := by rw [Lib.cell_of_heap RXb.out]; rfl
      have c1 : Wb.cell? ⟨w8.heap.size, 1, none⟩ = some (.int .i64 q.err) := by rw [Lib.cell_of_heap RXb.out]; rfl
      have c2 : Wb.cell? ⟨w8.heap.size, 2, none⟩ = some (.int .i64 q.line) := by rw [Lib.cell_of_heap RXb.out]; rfl
      have c3 : Wb.cell? ⟨w8.heap.size, 3, none⟩ = some (.slice xo xn xp) := by rw [Lib.cell_of_heap RXb.out]; rfl
      have c4 : Wb.cell? ⟨w8.heap.size, 4, none⟩ = some (.int .i64 q.now) := by rw [Lib.cell_of_heap RXb.out]; rfl
      have d0 : Wb.cell? ⟨wa.heap.size, 0, none⟩ = some (.string q.id) := by rw [Lib.cell_of_heap RYb.out]; rfl
      have d1 : Wb.cell? ⟨wa.heap.size, 1, none⟩ = some (.int .i64 q.err) := by rw [Lib.cell_of_heap RYb.out]; rfl
      have d2 : Wb.cell? ⟨wa.heap.size, 2, none⟩ = some (.int .i64 q.line) := by rw [Lib.cell_of_heap RYb.out]; rfl
      have d3 : Wb.cell? ⟨wa.heap.size, 3, none⟩ = some (.slice yo yn yp) := by rw [Lib.cell_of_heap RYb.out]; rfl
      have d4 : Wb.cell? ⟨wa.heap.size, 4, none⟩ = some (.int .i64 q.now) := by rw [Lib.cell_of_heap RYb.out]; rfl
      unfold rpC at HSm ⊢
      clear hoa hba bb HR2 HOa B9 L9 X9 Ba hW9
      go_wp2_with fail
      try rw [hWb]
      refine Calls.mono HSm.out ?_
      rintro e wc ⟨rfl, hbc⟩
      have Bc := hid (Bb.out.trans (hbc.mono Bb.out.size))
      have HKb := hid (kept_any v7 _ l wc (Lb.out.below hbc) (HBs.out.below Bc.out) (by omega))
      clear hbc HSm c0 c1 c2 c3 c4 d0 d1 d2 d3 d4 hWb
      go_wp2_with fail
      refine Calls.mono HKb.out ?_
      rintro e wd ⟨rfl, rfl⟩
      go_wp2
      go_ret
      exact ⟨rfl, Bc.out⟩
end Go.Proofs.Ytfhicemfhkhjaaa
