/-
  split: the safe operations and the loose ones.
-/
import Derived.Test.YtjaopckdhohpbaaDoorDk8
namespace Go.Proofs.YtjaopckdhohpbaaDoor
open Go.RowKit
set_option maxRecDepth 100000

/-- a list of operations, cut out of a row -/
def OpS (w : World) (base : Nat) (v : Value) (L : List Opn) : Prop := ∃ ao c, v = .slice ao L.length c ∧ ∀ i (hi : i < L.length), ∃ g off, ao = some ⟨g, off, none⟩ ∧ base ≤ g ∧ w.rangeAt g (off + i * 129) (opc L[i])
theorem OpS.below {w w' : World} {base : Nat} {v : Value} {L : List Opn} (h : OpS w base v L) (hb : Below w.heap.size w w') : OpS w' base v L := by
  obtain ⟨ao, c, hv, hr⟩ := h
  refine ⟨ao, c, hv, fun i hi => ?_⟩
  obtain ⟨g, off, ha, hg, hc⟩ := hr i hi
  exact ⟨g, off, ha, hg, fun j v hv => below_cells hb _ _ (hc j v hv)⟩
/-- operations that may be -/
def OkO (N : Nat) (O : List Opn) : Prop := ∀ o ∈ O, o = flO ∨ ∃ n : Nat, o.1 = (n : Int) ∧ (n + 1) * 128 ≤ N
theorem DK.cut {w : World} {base d f s cap : Nat} {tail : List Value} {F S : List UInt8} {g oc : Nat} {O : List Opn} (h : DK w base d f s cap tail F S (.slice (some ⟨g, 0, none⟩) O.length oc) O) (a b c k : Nat) (hab : a ≤ b) (hb : b ≤ O.length) (hk : k = b - a) : OpS w base (.slice (some ⟨g, a * 129, none⟩) k c) ((O.take b).drop a) := by
  subst hk
  have hl : ((O.take b).drop a).length = b - a := by rw [List.length_drop, List.length_take]; omega
  refine ⟨_, c, by rw [hl], fun i hi => ?_⟩
  rw [hl] at hi
  obtain ⟨g', c', hv, _, hg, hr⟩ := h.opR (a + i) (by omega)
  cases hv
  refine ⟨g, a * 129, rfl, hg, ?_⟩
  rw [List.getElem_drop, List.getElem_take, show a * 129 + i * 129 = (a + i) * 129 by omega]
  exact hr
theorem OpS.nil {w : World} {base c : Nat} {ao : Option Addr} : OpS w base (.slice ao 0 c) [] := ⟨ao, c, rfl, fun i hi => by simp at hi⟩
set_option maxHeartbeats 8000000 in
theorem split_any (base d f s cap n : Nat) (tail : List Value) (F S : List UInt8) (dv : Value) (O : List Opn) (w : World) (hfl : HasFl w) (h : DK w base d f s cap tail F S dv O) (hok : OkO F.length O) (hn : n ≤ O.length) (hO : O.length ≤ 65536) :
    Calls Tryd.prog 27 #[.pointer (some ⟨d, 0, none⟩), .int .i64 (n : Int)] w fun e w' => (∃ sv lv, e = .returned (.tuple #[sv, lv]) ∧ OpS w' base sv (O.take (brr O n)) ∧ OpS w' base lv ((O.take n).drop (brr O n))) ∧ Below w.heap.size w w' := by
  obtain ⟨ao, oc, rfl⟩ := h.form
  have HD := hid h
  have HF := hid hfl
  have HOK := hid hok
  clear h hfl hok
  go_enter Tryd.func27, Tryd.ntmps27
  go_wp2_with fail
  go_loopw [6] (fun i wx => ∃ b : Nat, b ≤ n ∧ i = .int .i64 (b : Int) ∧ brr O n = brr O b ∧ Below w.heap.size w wx) (fun i _ => (intOf i).toNat)
  case atStart => exact ⟨n, Nat.le_refl _, rfl, rfl, Below.refl _ _⟩
  case round =>
    obtain ⟨b, hbn, rfl, hbr, hbl⟩ := hrel
    have HBr := hid hbr
    have HB := hid hbl
    have HD1 := hid (HD.out.below hbl)
    have HF1 := hid (HF.out.below hbl)
    obtain ⟨c0, c1, c2, c3⟩ := HD1.out.cells
    clear hbr hbl
    cases b with
    | zero =>
      clear c0 c2 c3
      go_wp2_with fail
      go_quiet (fail)
      have HB2 := hid (HB.out.trans (below_drewN (Below.refl w.heap.size wr) nq))
      have HD2 := hid (HD1.out.below (below_drewN (Below.refl wr.heap.size wr) nq))
      clear HB HD1 HF1 c1
      generalize wr.drewN nq = W2 at *
      obtain ⟨c0, c1, c2, c3⟩ := HD2.out.cells
      clear c0 c2 c3
      have hform : (ao = none ∧ O.length = 0 ∧ oc = 0) ∨ ∃ g, ao = some ⟨g, 0, none⟩ ∧ O.length ≤ oc := by
        rcases HD2.out.own.2 with ⟨h, h0⟩ | ⟨g, c, cur, h, _, _, hn, _⟩
        · simp only [Value.slice.injEq] at h
          exact .inl ⟨h.1, h0, h.2.2⟩
        · simp only [Value.slice.injEq] at h
          exact .inr ⟨g, h.1, by rw [h.2.2]; exact hn⟩
      rcases hform with ⟨rfl, hO0, rfl⟩ | ⟨g, rfl, hoc⟩
      · have hOn : O = [] := List.eq_nil_of_length_eq_zero hO0
        subst hOn
        have hn0 : n = 0 := by simpa using hn
        subst hn0
        go_wp2_with fail
        go_quiet (fail)
        have B3 := hid (HB2.out.trans (below_drewN (Below.refl w.heap.size W2) nq))
        have D3 := hid (HD2.out.below (below_drewN (Below.refl W2.heap.size W2) nq))
        go_wp2
        go_ret2
        exact ⟨⟨_, _, rfl, by simpa using OpS.nil, by simpa using OpS.nil⟩, B3.out⟩
      · have hnc : n ≤ oc := by omega
        by_cases hn0 : n = 0
        · subst hn0
          go_wp2_with fail
          go_quiet (fail)
          have B3 := hid (HB2.out.trans (below_drewN (Below.refl w.heap.size W2) nq))
          have D3 := hid (HD2.out.below (below_drewN (Below.refl W2.heap.size W2) nq))
          go_wp2
          go_ret2
          exact ⟨⟨_, _, rfl, by simpa [brr] using OpS.nil, by simpa [brr] using OpS.nil⟩, B3.out⟩
        · have hn1 : (0 : Int) < (n : Int) := by omega
          go_wp2_with fail
          go_quiet (fail)
          have B3 := hid (HB2.out.trans (below_drewN (Below.refl w.heap.size W2) nq))
          have D3 := hid (HD2.out.below (below_drewN (Below.refl W2.heap.size W2) nq))
          go_wp2
          go_ret2
          rw [HBr.out]
          exact ⟨⟨_, _, rfl, D3.out.cut 0 0 0 0 (by omega) (by omega) rfl, D3.out.cut 0 n n n (by omega) hn rfl⟩, B3.out⟩
    | succ k =>
      obtain ⟨g, c, hv, hc, hg, hr⟩ := HD1.out.opR k (by omega)
      have hvo : ao = some ⟨g, 0, none⟩ := by cases hv; rfl
      have hvc : oc = c := by cases hv; rfl
      subst hvo hvc
      clear hv
      have hlo := HD1.out.op _ (List.getElem_mem (show k < O.length by omega))
      have K1 := hid (show ∀ w', (∃ n, w' = wr.drewN n) → (Instr.loadAt 75 (.pointer (some ⟨g, k * 129, none⟩))).run Tryd.prog w' = .ok (.agg (opc (O[k]'(by omega))).toArray) w' from fun w' ⟨m, h⟩ => by rw [h]; exact op_load (range_drewN hr m) hlo)
      have K2 := hid (show ∀ w', (∃ n, w' = wr.drewN n) → (Instr.loadAt 75 (.pointer (some ⟨0, 0, none⟩))).run Tryd.prog w' = .ok (.agg (opc flO).toArray) w' from fun w' ⟨m, h⟩ => by rw [h]; exact op_load (range_drewN (fl_range HF1.out) m) rfl)
      have hI0 : (0 : Int) < (k : Int) + 1 := by omega
      have hIk : (k : Int) < (O.length : Int) := by omega
      clear hr hlo
      go_wp2_with fail
      refine wp_region_quiet_lit (by kernel_rfl) (by kernel_rfl) ?_
      iterate 10 (go_big_quiet_step (fail))
      (go_big_quiet_want; refine quiet_load 75 _ rfl ⟨g, k * 129, none⟩ rfl _ K1.out ?_; simp only [Act.put, List.setIfInBounds_toArray, List.set_cons_zero, List.set_cons_succ]; go_big_quiet_on)
      (go_big_quiet_want; refine quiet_load 75 _ rfl ⟨0, 0, none⟩ rfl _ K2.out ?_; simp only [Act.put, List.setIfInBounds_toArray, List.set_cons_zero, List.set_cons_succ]; go_big_quiet_on)
      by_cases hfk : O[k]'(by omega) = flO
      · have K3 := hid (show ∀ w, (Op.equalIn 10000 75 (.agg (opc (O[k]'(by omega))).toArray) (.agg (opc flO).toArray)).run Tryd.prog w = .ok true w from fun w => by rw [hfk]; exact eq_flush w)
        have hbk : brr O (k + 1) = k + 1 := by rw [brr, if_pos (by rw [List.getElem?_eq_getElem (by omega), hfk])]
        rw [hbk] at HBr
        clear hbk
        (go_big_quiet_want; refine quiet_neq 75 _ _ _ rfl _ _ rfl rfl op_guard true K3.out ?_; simp only [Act.put, List.setIfInBounds_toArray, List.set_cons_zero, List.set_cons_succ]; go_big_quiet_on)
        go_big_quiet_step (fail)
        refine wpQuiet_nil ?_
        intro _ hw'
        obtain ⟨nq, hw''⟩ := hw'
        subst hw''
        have HB2 := hid (HB.out.trans (below_drewN (Below.refl w.heap.size wr) nq))
        have HD2 := hid (HD1.out.below (below_drewN (Below.refl wr.heap.size wr) nq))
        clear HB HD1 HF1 c1 c0 c2 c3 K1 K2 K3
        generalize wr.drewN nq = W2 at *
        obtain ⟨c0, c1, c2, c3⟩ := HD2.out.cells
        clear c0 c2 c3
        have hkc : k + 1 ≤ oc := by omega
        have hnc : n ≤ oc := by omega
        have hkn : (k : Int) + 1 ≤ (n : Int) := by omega
        by_cases hnk : n = k + 1
        · subst hnk
          go_wp2_with fail
          go_quiet (fail)
          have B3 := hid (HB2.out.trans (below_drewN (Below.refl w.heap.size W2) nq))
          have D3 := hid (HD2.out.below (below_drewN (Below.refl W2.heap.size W2) nq))
          go_wp2
          go_ret2
          rw [HBr.out]
          exact ⟨⟨_, _, rfl, D3.out.cut 0 (k + 1) (k + 1) (k + 1) (by omega) (by omega) (by omega), by rw [List.drop_of_length_le (by rw [List.length_take]; omega)]; exact OpS.nil⟩, B3.out⟩
        · have hkn2 : (k : Int) + 1 < (n : Int) := by omega
          go_wp2_with fail
          go_quiet (fail)
          have B3 := hid (HB2.out.trans (below_drewN (Below.refl w.heap.size W2) nq))
          have D3 := hid (HD2.out.below (below_drewN (Below.refl W2.heap.size W2) nq))
          go_wp2
          go_ret2
          rw [HBr.out]
          exact ⟨⟨_, _, rfl, D3.out.cut 0 (k + 1) (k + 1) (k + 1) (by omega) (by omega) (by omega), D3.out.cut (k + 1) n (n - (k + 1)) (n - (k + 1)) hbn hn rfl⟩, B3.out⟩
      · have K3 := hid (eq_write (O[k]'(by omega)) (by
          rcases HOK.out _ (List.getElem_mem (show k < O.length by omega)) with h | ⟨m, h, _⟩
          · exact absurd h hfk
          · rw [h]; omega))
        have hbk : brr O (k + 1) = brr O k := by rw [brr, if_neg (by rw [List.getElem?_eq_getElem (by omega)]; intro h; exact hfk (Option.some.inj h))]
        rw [hbk] at HBr
        clear hbk
        (go_big_quiet_want; refine quiet_neq 75 _ _ _ rfl _ _ rfl rfl op_guard false K3.out ?_; simp only [Act.put, List.setIfInBounds_toArray, List.set_cons_zero, List.set_cons_succ]; go_big_quiet_on)
        go_big_quiet_step (fail)
        refine wpQuiet_nil ?_
        intro _ hw'
        obtain ⟨nq, hw''⟩ := hw'
        subst hw''
        have HB2 := hid (HB.out.trans (below_drewN (Below.refl w.heap.size wr) nq))
        clear HB HD1 HF1 c1 c0 c2 c3 K1 K2 K3
        go_wp2
        go_roundw
        case rel => exact ⟨k, by omega, by go_num, HBr.out, HB2.out⟩
        case measure => simp [intOf]
end Go.Proofs.YtjaopckdhohpbaaDoor
