/-
  Ry4: codec: levels that are read, SameLevels, SameReply. Laid by mkry4.py.
  Ry1: codec, the document's: levels, PutReply. Laid by mkry1.py.
  LawCRp: CodecReplies: the law's own walk. Laid by mkcrp.py.
-/
import Derived.Test.YtfhicemfhkhjaabRy3
import Derived.Test.YtfhicemfhkhjaabKx1
import Derived.Test.YtfhicemfhkhjaabRp1
import Derived.Test.YtfhicemfhkhjaabCx1
import Derived.Test.YtfhicemfhkhjaabLawCRq
namespace Go.Proofs.Ytfhicemfhkhjaab
open Go.RowKit
set_option maxRecDepth 100000

/-- the slice v reads as the levels L -/
def RLv (w : World) (v : Value) (L : List Lv) : Prop :=
  (L = [] ∧ ∃ ao cap, v = .slice ao 0 cap ∧ (ao = none → cap = 0)) ∨
  ∃ b off cap, v = .slice (some ⟨b, off, none⟩) L.length cap ∧ L.length ≤ cap ∧ ∀ j (hj : j < L.length), w.cell? ⟨b, off + j * 3, none⟩ = some (.string L[j].1) ∧ w.cell? ⟨b, off + j * 3 + 1, none⟩ = some (.int .i64 L[j].2.1) ∧ w.cell? ⟨b, off + j * 3 + 2, none⟩ = some (.int .i64 L[j].2.2)
theorem RLv.below {w w' : World} {v : Value} {L : List Lv} (h : RLv w v L) (hb : Below w.heap.size w w') : RLv w' v L := by
  rcases h with h | ⟨b, off, cap, hv, hl, hc⟩
  · exact .inl h
  · exact .inr ⟨b, off, cap, hv, hl, fun j hj => ⟨below_cells hb _ _ (hc j hj).1, below_cells hb _ _ (hc j hj).2.1, below_cells hb _ _ (hc j hj).2.2⟩⟩
theorem RLv.form {w : World} {v : Value} {L : List Lv} (h : RLv w v L) : ∃ ao cap, v = .slice ao L.length cap := by
  rcases h with ⟨rfl, ao, cap, rfl, _⟩ | ⟨b, off, cap, rfl, _⟩
  · exact ⟨_, _, rfl⟩
  · exact ⟨_, _, rfl⟩
theorem vc_at (L : List Lv) (i : Nat) (h : i < L.length) : (vc L)[i * 3]? = some (.string L[i].1) ∧ (vc L)[i * 3 + 1]? = some (.int .i64 L[i].2.1) ∧ (vc L)[i * 3 + 2]? = some (.int .i64 L[i].2.2) := by
  induction L generalizing i with
  | nil => simp at h
  | cons x t ih =>
    have e : vc (x :: t) = .string x.1 :: .int .i64 x.2.1 :: .int .i64 x.2.2 :: vc t := rfl
    rw [e]
    cases i with
    | zero => exact ⟨rfl, rfl, rfl⟩
    | succ i =>
      have := ih i (by simpa using h)
      rw [show (i + 1) * 3 = i * 3 + 1 + 1 + 1 by omega]
      simp only [List.getElem?_cons_succ, List.getElem_cons_succ]
      exact this
theorem OLv.cells {w : World} {base : Nat} {v : Value} {L : List Lv} (h : OLv w base v L) (hl : 0 < L.length) : ∃ g cap, v = .slice (some ⟨g, 0, none⟩) L.length cap ∧ L.length ≤ cap ∧ cap ≤ maxLen ∧ ∀ j (hj : j < L.length), w.cell? ⟨g, j * 3, none⟩ = some (.string L[j].1) ∧ w.cell? ⟨g, j * 3 + 1, none⟩ = some (.int .i64 L[j].2.1) ∧ w.cell? ⟨g, j * 3 + 2, none⟩ = some (.int .i64 L[j].2.2) := by
  have hc := fun g hg => World.ownsRow.cells h (g := g) hg
  rcases h.2 with ⟨_, h0⟩ | ⟨g, cap, cur, rfl, _, hgg, hn, hm, _⟩
  · omega
  · refine ⟨g, cap, rfl, hn, hm, fun j hj => ?_⟩
    have e := vc_at L j hj
    have c0 := hc g rfl _ _ e.1
    have c1 := hc g rfl _ _ e.2.1
    have c2 := hc g rfl _ _ e.2.2
    rw [Addr.add_lit, Nat.zero_add] at c0 c1 c2
    exact ⟨c0, c1, c2⟩
theorem OLv.reads {w : World} {base : Nat} {v : Value} {L : List Lv} (h : OLv w base v L) : RLv w v L := by
  by_cases hl : 0 < L.length
  · obtain ⟨g, cap, hv, h1, _, hc⟩ := h.cells hl
    exact .inr ⟨g, 0, cap, hv, h1, fun j hj => by rw [Nat.zero_add]; exact hc j hj⟩
  · obtain rfl : L = [] := List.eq_nil_of_length_eq_zero (by omega)
    rcases h.2 with ⟨rfl, _⟩ | ⟨g, cap, cur, rfl, _⟩
    · exact .inl ⟨rfl, none, 0, rfl, fun _ => rfl⟩
    · exact .inl ⟨rfl, _, cap, rfl, fun e => by cases e⟩
set_option maxHeartbeats 2000000 in
theorem sameLevels_any (v1 v2 : Value) (L : List Lv) (w : World) (h1 : RLv w v1 L) (h2 : RLv w v2 L) (hl : L.length ≤ 1000000000000) :
    Calls Try.prog 48 #[v1, v2] w fun e w' => e = .returned (.bool true) ∧ Below w.heap.size w w' := by
  have HL := hid hl
  clear hl
  rcases h1 with ⟨rfl, ao, cap, rfl, _⟩ | ⟨b, off, cap, rfl, hcap, hcell⟩
  · rcases h2 with ⟨_, ao2, cap2, rfl, _⟩ | ⟨b2, off2, cap2, rfl, _, _⟩
    all_goals
      go_enter Try.func48, Try.ntmps48
      go_wp2_with fail
      go_rounds 1
      go_ret
      exact ⟨rfl, Below.refl _ _⟩
  · rcases h2 with ⟨rfl, ao2, cap2, rfl, _⟩ | ⟨b2, off2, cap2, rfl, hcap2, hcell2⟩
    · go_enter Try.func48, Try.ntmps48
      go_wp2_with fail
      go_rounds 1
      go_ret
      exact ⟨rfl, Below.refl _ _⟩
    · have HC := hid (And.intro hcell hcell2)
      clear hcell hcell2
      go_enter Try.func48, Try.ntmps48
      go_wp2_with fail
      go_loopw [5] (fun i wr => ∃ k : Nat, k ≤ L.length ∧ i = .int .i64 (k : Int) ∧ Below w.heap.size w wr) (fun i _ => L.length - (intOf i).toNat)
      case atStart => exact ⟨0, by omega, rfl, Below.refl _ _⟩
      case round =>
        obtain ⟨k, hk, rfl, hbl⟩ := hrel
        by_cases hlt : k < L.length
        · have hcl := HC.out.1 k hlt
          have hcl2 := HC.out.2 k hlt
          have c0 := below_cells hbl _ _ hcl.1
          have c1 := below_cells hbl _ _ hcl.2.1
          have c2 := below_cells hbl _ _ hcl.2.2
          have d0 := below_cells hbl _ _ hcl2.1
          have d1 := below_cells hbl _ _ hcl2.2.1
          have d2 := below_cells hbl _ _ hcl2.2.2
          have hl := HL.out
          have hI : (k : Int) < (L.length : Int) := by omega
          clear hcl hcl2
          generalize (L[k]'hlt).1 = x at c0 d0
          generalize (L[k]'hlt).2.1 = y at c1 d1
          generalize (L[k]'hlt).2.2 = z at c2 d2
          go_wp2_with fail
          go_quiet (fail)
          have hB1 := below_drewN hbl nq
          clear c0 c1 c2 d0 d1 d2
          go_wp2
          go_roundw
          case rel => exact ⟨k + 1, by omega, by go_num, hB1⟩
          case measure => simp [intOf]; omega
        · go_wp2
          go_ret
          exact ⟨rfl, hbl⟩
set_option maxHeartbeats 2000000 in
theorem sameReply_any (r : Ry) (v1 v2 : Value) (w : World) (h1 : RLv w v1 r.levels) (h2 : RLv w v2 r.levels) (hl : r.levels.length ≤ 1000000000000) :
    Calls Try.prog 20 #[.agg (rpC r v1), .agg (rpC r v2)] w fun e w' => e = .returned (.bool true) ∧ Below w.heap.size w w' := by
  unfold rpC
  obtain ⟨a1, p1, e1⟩ := h1.form
  obtain ⟨a2, p2, e2⟩ := h2.form
  obtain ⟨W, hW⟩ : ∃ W, (w.alloc (.cells #[.string r.id, .int .i64 r.err, .int .i64 r.line, v1, .int .i64 r.now] 28)).alloc (.cells #[.string r.id, .int .i64 r.err, .int .i64 r.line, v2, .int .i64 r.now] 28) = W := ⟨_, rfl⟩
  have zW : W.heap.size = w.heap.size + 2 := by rw [← hW]; simp
  have BW := hid (show Below w.heap.size w W by rw [← hW]; exact ((Below.refl _ _).alloc (Nat.le_refl _) _).alloc (by simp) _)
  have H1 := hid (show W.heap[w.heap.size]? = some (.cells #[.string r.id, .int .i64 r.err, .int .i64 r.line, v1, .int .i64 r.now] 28 (0, 0)) by
    rw [← hW]
    exact (((Below.refl (w.alloc (.cells #[.string r.id, .int .i64 r.err, .int .i64 r.line, v1, .int .i64 r.now] 28)).heap.size _).alloc (Nat.le_refl _) _).block w.heap.size (by simp)).trans (heap_alloc_new w _))
  have H2 := hid (show W.heap[w.heap.size + 1]? = some (.cells #[.string r.id, .int .i64 r.err, .int .i64 r.line, v2, .int .i64 r.now] 28 (0, 0)) by
    rw [← hW]
    have := heap_alloc_new (w.alloc (.cells #[.string r.id, .int .i64 r.err, .int .i64 r.line, v1, .int .i64 r.now] 28)) (.cells #[.string r.id, .int .i64 r.err, .int .i64 r.line, v2, .int .i64 r.now] 28)
    rw [World.size_alloc] at this
    exact this)
  have HS := hid (sameLevels_any v1 v2 r.levels W (h1.below BW.out) (h2.below BW.out) hl)
  have c0 : W.cell? ⟨w.heap.size, 0, none⟩ = some (.string r.id) := by rw [Lib.cell_of_heap H1.out]; rfl
  have c1 : W.cell? ⟨w.heap.size, 1, none⟩ = some (.int .i64 r.err) := by rw [Lib.cell_of_heap H1.out]; rfl
  have c2 : W.cell? ⟨w.heap.size, 2, none⟩ = some (.int .i64 r.line) := by rw [Lib.cell_of_heap H1.out]; rfl
  have c3 : W.cell? ⟨w.heap.size, 3, none⟩ = some (v1) := by rw [Lib.cell_of_heap H1.out]; rfl
  have c4 : W.cell? ⟨w.heap.size, 4, none⟩ = some (.int .i64 r.now) := by rw [Lib.cell_of_heap H1.out]; rfl
  have d0 : W.cell? ⟨w.heap.size + 1, 0, none⟩ = some (.string r.id) := by rw [Lib.cell_of_heap H2.out]; rfl
  have d1 : W.cell? ⟨w.heap.size + 1, 1, none⟩ = some (.int .i64 r.err) := by rw [Lib.cell_of_heap H2.out]; rfl
  have d2 : W.cell? ⟨w.heap.size + 1, 2, none⟩ = some (.int .i64 r.line) := by rw [Lib.cell_of_heap H2.out]; rfl
  have d3 : W.cell? ⟨w.heap.size + 1, 3, none⟩ = some (v2) := by rw [Lib.cell_of_heap H2.out]; rfl
  have d4 : W.cell? ⟨w.heap.size + 1, 4, none⟩ = some (.int .i64 r.now) := by rw [Lib.cell_of_heap H2.out]; rfl
  subst e1
  subst e2
  have HW := hid hW
  clear h1 h2
  go_enter Try.func20, Try.ntmps20
  go_wp2_with fail
  try rw [HW.out]
  refine Calls.mono HS.out ?_
  rintro e w3 ⟨rfl, hb3⟩
  have B3 := hid (BW.out.trans (hb3.mono (by omega)))
  have c4' := below_cells hb3 _ _ c4
  have d4' := below_cells hb3 _ _ d4
  clear hb3 HS hW c0 c1 c2 c3 c4 d0 d1 d2 d3 d4
  go_wp2
  go_ret
  exact ⟨rfl, B3.out⟩
end Go.Proofs.Ytfhicemfhkhjaab

namespace Go.Proofs.Ytfhicemfhkhjaab
open Go.RowKit
set_option maxRecDepth 100000

set_option maxHeartbeats 1000000 in
theorem rlevels_any (v : Value) (l : List UInt8) (ao : Option Addr) (cap B : Nat) (L : List Lv) (w : World) (hr : Reads w v l) (hL : LV w B ao L) (hn : L.length ≤ 9223372036854775807) (hl : l.length + (grp L.length ++ lvB L).length ≤ 100000000000000) :
    Calls Try.prog 58 #[v, .slice ao L.length cap] w fun e w' => ∃ v', e = .returned v' ∧ Owns w' w.heap.size v' (l ++ (grp L.length ++ lvB L)) ∧ Below w.heap.size w w' := by
  have HC := hid (rcount_any v l L.length w hr hn (by omega))
  have HL := hid hL
  clear hL hr
  go_enter Try.func58, Try.ntmps58
  go_wp2_with fail
  refine Calls.mono HC.out ?_
  rintro e w1 ⟨v1, rfl, ho, hb⟩
  have HO := hid ho
  have HB := hid hb
  clear ho hb HC
  go_wp2_with fail
  go_loopw [0, 5] (fun vb vi wx => ∃ j : Nat, j ≤ L.length ∧ vi = .int .i64 (j : Int) ∧ Owns wx w.heap.size vb (l ++ (grp L.length ++ lvB (L.take j))) ∧ Below w.heap.size w wx) (fun _ vi _ => L.length - (intOf vi).toNat)
  case atStart => exact ⟨0, Nat.zero_le _, rfl, by simpa [lvB] using HO.out, HB.out⟩
  case round =>
    obtain ⟨j, hj, rfl, ho, hb⟩ := hrel
    have HO := hid ho
    have HB := hid hb
    have hz := hb.size
    clear ho hb
    by_cases h : j < L.length
    · have hI : (j : Int) < (L.length : Int) := by omega
      obtain ⟨⟨b1, ⟨b2, b3⟩, b4, b5⟩, g, off, hao, hg, c0, c1, c2⟩ := HL.out j h
      subst hao
      have c0 := below_cells HB.out _ _ c0
      have HC1 := hid (fun wx (hx : Below w.heap.size w wx) => below_cells hx _ _ c1)
      have HC2 := hid (fun wx (hx : Below w.heap.size w wx) => below_cells hx _ _ c2)
      have HLn := hid (lvB_succ L j h)
      have hle := lvB_le L (j + 1)
      rw [HLn.out] at hle
      have h2 : (lv1 L[j]).length = (grp L[j].1.size).length + L[j].1.size + (grp (foldI L[j].2.1)).length + (grp (foldI L[j].2.2)).length := by
        unfold lv1
        simp only [List.length_append]
        rfl
      simp only [List.length_append] at hl hle
      have HT := hid (refPutText_any _ _ L[j].1 wr HO.out.reads (by simp only [List.length_append]; omega))
      clear c1 c2
      go_wp2_with fail
      refine Calls.mono HT.out ?_
      rintro e w2 ⟨v2, rfl, ho2, hb2⟩
      have HO2 := hid ho2
      have HB2 := hid (HB.out.trans (hb2.mono hz))
      have HI := hid (refPutInt_any v2 _ L[j].2.1 w2 ho2.reads b2 b3 (by simp only [List.length_append]; have e : L[j].1.data.toList.length = L[j].1.size := rfl; omega))
      have c1 := HC1.out w2 HB2.out
      clear ho2 hb2 HT
      go_wp2_with fail
      refine Calls.mono HI.out ?_
      rintro e w3 ⟨v3, rfl, ho3, hb3⟩
      have HO3 := hid ho3
      have HB3 := hid (HB2.out.trans (hb3.mono HB2.out.size))
      have HI2 := hid (refPutInt_any v3 _ L[j].2.2 w3 ho3.reads b4 b5 (by simp only [List.length_append]; have e : L[j].1.data.toList.length = L[j].1.size := rfl; omega))
      have c2 := HC2.out w3 HB3.out
      clear ho3 hb3 HI c1 c0
      go_wp2_with fail
      refine Calls.mono HI2.out ?_
      rintro e w4 ⟨v4, rfl, ho4, hb4⟩
      have HO4 := hid (show Owns w4 w.heap.size v4 (l ++ (grp L.length ++ lvB (L.take (j + 1)))) by
        rw [HLn.out]
        have := ho4.mono HB3.out.size
        unfold lv1
        simp only [List.append_assoc] at this ⊢
        exact this)
      have HB4 := hid (HB3.out.trans (hb4.mono HB3.out.size))
      clear ho4 hb4 HI2
      go_wp2_with fail
      go_roundw
      case rel => exact ⟨j + 1, by omega, by go_num, HO4.out, HB4.out⟩
      case measure => simp [intOf]; omega
    · have hI : ¬ (j : Int) < (L.length : Int) := by omega
      obtain rfl : j = L.length := by omega
      rw [List.take_length] at HO
      go_wp2
      go_ret
      exact ⟨_, rfl, HO.out, HB.out⟩
end Go.Proofs.Ytfhicemfhkhjaab

namespace Go.Proofs.Ytfhicemfhkhjaab
open Go.RowKit
set_option maxRecDepth 100000

/-- each level may be -/
def LvOk (L : List Lv) : Prop := ∀ i (h : i < L.length), L[i].1.size ≤ 1000000000000 ∧ (-9223372036854775808 ≤ L[i].2.1 ∧ L[i].2.1 ≤ 9223372036854775807) ∧ -9223372036854775808 ≤ L[i].2.2 ∧ L[i].2.2 ≤ 9223372036854775807
/-- what levels weigh -/
def wv (L : List Lv) : Nat := (L.map fun x => 3 + x.1.size).sum
theorem wv_take (L : List Lv) (k : Nat) (h : k < L.length) : wv (L.take (k + 1)) = wv (L.take k) + (3 + L[k].1.size) := by
  unfold wv
  rw [List.take_succ_eq_append_getElem h, List.map_append, List.sum_append]
  simp
theorem wv_le (L : List Lv) (k : Nat) : wv (L.take k) ≤ wv L := by
  have e : wv L = wv (L.take k) + wv (L.drop k) := by
    unfold wv
    rw [← List.sum_append, ← List.map_append, List.take_append_drop]
  omega
theorem wv_len (L : List Lv) : 3 * L.length ≤ wv L := by
  induction L with
  | nil => simp [wv]
  | cons x t ih =>
    have e : wv (x :: t) = 3 + x.1.size + wv t := by simp [wv]
    rw [e, List.length_cons]
    omega
theorem RLv.lv {w : World} {ao : Option Addr} {n cap : Nat} {L : List Lv} (h : RLv w (.slice ao n cap) L) (hk : LvOk L) : LV w w.heap.size ao L := by
  intro i hi
  rcases h with ⟨rfl, _⟩ | ⟨b, off, cp, hv, hl, hc⟩
  · simp at hi
  · cases hv
    exact ⟨hk i hi, b, off, rfl, World.block_lt_of_cell? _ _ (hc i hi).1, (hc i hi).1, (hc i hi).2.1, (hc i hi).2.2⟩
theorem lvB_len (L : List Lv) (hk : LvOk L) : (lvB L).length ≤ wv L + 30 * L.length := by
  induction L with
  | nil => simp [lvB]
  | cons x t ih =>
    have h0 := hk 0 (by simp)
    have hk' : LvOk t := fun i hi => by
      have := hk (i + 1) (by simpa using hi)
      simpa using this
    have h1 := ih hk'
    have e1 : lvB (x :: t) = lv1 x ++ lvB t := rfl
    have e2 : wv (x :: t) = 3 + x.1.size + wv t := by simp [wv]
    have g1 := grp_le x.1.size (by simp at h0; omega)
    have g2 := grp_le (foldI x.2.1) (foldI_lt x.2.1 (by simp at h0; omega) (by simp at h0; omega))
    have g3 := grp_le (foldI x.2.2) (foldI_lt x.2.2 (by simp at h0; omega) (by simp at h0; omega))
    have e3 : (lv1 x).length = (grp x.1.size).length + x.1.size + (grp (foldI x.2.1)).length + (grp (foldI x.2.2)).length := by
      unfold lv1
      simp only [List.length_append]
      rfl
    rw [e1, List.length_append, e2, List.length_cons, e3]
    omega
theorem rpB_len (r : Ry) (ho : RpOk r) (hk : LvOk r.levels) : (rpB r).length ≤ r.id.size + wv r.levels + 30 * r.levels.length + 100 := by
  have g1 := grp_le r.id.size (by have := ho.b0; omega)
  have g3 := grp_le r.levels.length (by have := ho.b0; omega)
  have g4 := grp_le (foldI r.err) (foldI_lt _ ho.b1.1 ho.b1.2)
  have g5 := grp_le (foldI r.line) (foldI_lt _ ho.b2.1 ho.b2.2)
  have g6 := grp_le (foldI r.now) (foldI_lt _ ho.b3.1 ho.b3.2)
  have g7 := lvB_len r.levels hk
  have e1 : r.id.data.toList.length = r.id.size := rfl
  unfold rpB txB
  simp only [List.length_append]
  omega
end Go.Proofs.Ytfhicemfhkhjaab
