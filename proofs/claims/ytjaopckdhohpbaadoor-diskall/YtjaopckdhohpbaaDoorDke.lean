/-
  Durable, Pending; what is seen of a sector, and what is durable.
-/
import Derived.Test.YtjaopckdhohpbaaDoorDkd
namespace Go.Proofs.YtjaopckdhohpbaaDoor
open Go.RowKit
set_option maxRecDepth 100000
attribute [local go_sem ↓] mki_op

theorem sec_len {S : List UInt8} {n : Nat} (hS : S.length = 768) (hn : n < 6) : (sec S n).length = 128 := by unfold sec; rw [List.length_take, List.length_drop]; omega
theorem sec_splice {S : List UInt8} {n m : Nat} (b : UInt8) (hS : S.length = 768) (hn : n < 6) (hm : m < 6) : sec (splice S (m * 128) (one b)) n = if m = n then one b else sec S n := by
  have hl : (splice S (m * 128) (one b)).length = 768 := by rw [length_splice _ _ _ (by rw [one_len]; omega), hS]
  apply List.ext_getElem
  · rw [sec_len hl hn]
    split
    · rw [one_len]
    · rw [sec_len hS hn]
  · intro i h1 h2
    have hi : i < 128 := by rw [sec_len hl hn] at h1; exact h1
    have hq : (sec (splice S (m * 128) (one b)) n)[i]? = (if m = n then one b else sec S n)[i]? := by
      unfold sec splice
      rw [List.getElem?_take, if_pos hi, List.getElem?_drop]
      by_cases h : m = n
      · subst h
        rw [if_pos rfl, List.getElem?_append_right (by rw [List.length_take]; omega), List.length_take, show min (m * 128) S.length = m * 128 by omega, show m * 128 + i - m * 128 = i by omega, List.getElem?_append_left (by rw [one_len]; exact hi)]
      · rw [if_neg h, List.getElem?_take, if_pos hi, List.getElem?_drop]
        by_cases hlt : n < m
        · rw [List.getElem?_append_left (by rw [List.length_take]; omega), List.getElem?_take, if_pos (by omega)]
        · have hgt : m < n := by omega
          rw [List.getElem?_append_right (by rw [List.length_take]; omega), List.length_take, show min (m * 128) S.length = m * 128 by omega, List.getElem?_append_right (by rw [one_len]; omega), one_len, List.getElem?_drop]
          congr 1
          omega
    rw [List.getElem?_eq_getElem h1, List.getElem?_eq_getElem h2] at hq
    exact Option.some.inj hq
theorem sec_zs {n : Nat} (hn : n < 6) : sec (zs 768) n = one 0 := by
  apply List.ext_getElem
  · rw [sec_len (zs_len 768) hn, one_len]
  · intro i h1 h2
    simp only [sec, zs, one, List.getElem_take, List.getElem_drop, List.getElem_replicate]
theorem sec_seen (n : Nat) (hn : n < 6) : ∀ k (P : List Pt), P.length = k → sec (seenP P) n = one (lst P n) := by
  intro k
  induction k with
  | zero =>
    intro P h
    have : P = [] := List.eq_nil_of_length_eq_zero h
    subst this
    exact sec_zs hn
  | succ k ih =>
    intro P h
    obtain ⟨Q, p, rfl⟩ : ∃ Q p, P = Q ++ [p] := by
      rcases List.eq_nil_or_concat P with h0 | ⟨Q, p, h0⟩
      · subst h0; simp at h
      · exact ⟨Q, p, by rw [h0, List.concat_eq_append]⟩
    have hq := ih Q (by simp at h; exact h)
    rw [seenP_snoc, lst_snoc]
    unfold putS lsP
    cases hf : p.2.2 with
    | true => simpa using hq
    | false =>
      simp only [Bool.false_eq_true, if_false, true_and]
      rw [sec_splice _ (seenP_len Q) hn (sct_lt _)]
      by_cases hs : sct p.1 = n
      · rw [if_pos hs, if_pos hs]
      · rw [if_neg hs, if_neg hs]; exact hq
theorem lay1_put (S : List UInt8) (p : Pt) : lay1 S (opP p) 128 = putS S p := by
  unfold lay1 putS
  by_cases hf : p.2.2 = true
  · rw [if_pos ((opP_fl p).2 hf), if_pos hf]
  · rw [if_neg (fun e => hf ((opP_fl p).1 e)), if_neg hf]
    unfold opP
    rw [if_neg hf, Int.toNat_natCast, List.take_of_length_le (by rw [one_len]; omega)]
theorem layN_seen (P : List Pt) : ∀ j, j ≤ P.length → layN (zs 768) (P.map opP) (fun _ => 128) j = seenP (P.take j) := by
  intro j
  induction j with
  | zero => intro _; rfl
  | succ j ih =>
    intro h
    rw [layN_step (by rw [List.length_map]; omega), ih (by omega), List.getElem_map, lay1_put, List.take_add_one, List.getElem?_eq_getElem (by omega), Option.toList_some, seenP_snoc]
theorem splice_nil {α : Type} (S : List α) (a : Nat) : splice S a [] = S := by simp [splice]
theorem layN_none (im : List UInt8) (L : List Opn) : ∀ j, layN im L (fun i => (spr [] (-1) 0 i).toNat) j = im := by
  intro j
  induction j with
  | zero => rfl
  | succ j ih =>
    rw [layN]
    cases L[j]? with
    | none => exact ih
    | some o =>
      simp only
      rw [ih]
      unfold lay1
      split
      · rfl
      · have : (spr [] (-1) 0 j).toNat = 0 := by unfold spr; simp
        rw [this, List.take_zero, splice_nil]
/-- what is durable -/
theorem at_durable (P : List Pt) : atI (zs 768) (P.map opP) P.length [] (-1) 0 = seenP (P.take (bar P P.length)) := by
  unfold atI
  rw [layN_none, brr_is]
  have hb := bar_le P P.length
  have := layN_seen (P.take (bar P P.length)) (P.take (bar P P.length)).length (Nat.le_refl _)
  rw [List.take_length] at this
  rw [← List.map_take, List.length_map]
  exact this
theorem RI.nil (w : World) : RI w (.slice none 0 0) [] := ⟨none, 0, rfl, Nat.le_refl _, fun i hi => by simp at hi⟩
set_option maxHeartbeats 2000000 in
theorem durable_any (base d f s cap : Nat) (tail : List Value) (S : List UInt8) (dv : Value) (P : List Pt) (w : World) (hfl : HasFl w) (h : DK w base d f s cap tail (zs 768) S dv (P.map opP)) (hP : P.length ≤ 65536) :
    Calls Tryd.prog 15 #[.pointer (some ⟨d, 0, none⟩)] w fun e w' => (∃ v', e = .returned v' ∧ Reads w' v' (seenP (P.take (bar P P.length)))) ∧ Below w.heap.size w w' := by
  have HC := hid (count_any base d f s cap tail (zs 768) S dv _ w h)
  have HA := hid (at_any base d f s cap P.length tail (zs 768) S dv (.slice none 0 0) (P.map opP) [] (-1) 0 w hfl h (by rw [zs_len]; exact OkP P) (by simp) (by simpa using hP) (by rw [zs_len]; omega) (by rw [zs_len]; omega) (RI.nil w) (by simp) (by omega) (by omega))
  rw [at_durable] at HA
  rw [List.length_map] at HC
  clear h hfl
  go_enter Tryd.func15, Tryd.ntmps15
  go_wp2_with fail
  refine HC.out.mono ?_
  rintro e wz ⟨rfl, hwz⟩
  have hws := hwz.symm
  clear hwz HC
  subst hws
  go_wp2_with fail
  refine HA.out.mono ?_
  rintro e w1 ⟨⟨v', rfl, hr⟩, hb⟩
  have H1 := hid hr
  have B1 := hid hb
  clear hr hb
  go_wp2
  go_ret
  exact ⟨⟨_, rfl, H1.out⟩, B1.out⟩
set_option maxHeartbeats 4000000 in
theorem pending_any (base d f s cap : Nat) (tail : List Value) (F S : List UInt8) (dv : Value) (O : List Opn) (w : World) (hfl : HasFl w) (h : DK w base d f s cap tail F S dv O) (hok : OkO F.length O) (hO : O.length ≤ 65536) :
    Calls Tryd.prog 7 #[.pointer (some ⟨d, 0, none⟩)] w fun e w' => (∃ g, e = .returned (.slice (some ⟨g, 0, none⟩) (O.length - brr O O.length) (O.length - brr O O.length))) ∧ Below w.heap.size w w' := by
  obtain ⟨ao, oc, rfl⟩ := h.form
  obtain ⟨c0, c1, c2, c3⟩ := h.cells
  have HS := hid (split_any base d f s cap O.length tail F S _ O w hfl h hok (Nat.le_refl _) hO)
  rw [List.take_length] at HS
  have hbr := brr_le O O.length
  have hl2 : (O.drop (brr O O.length)).length = O.length - brr O O.length := by rw [List.length_drop]
  obtain ⟨m, hm⟩ : ∃ m, O.length - brr O O.length = m := ⟨_, rfl⟩
  rw [hm] at hl2 ⊢
  have hm6 : m ≤ 65536 := by omega
  generalize O.drop (brr O O.length) = L2 at *
  generalize O.take (brr O O.length) = L1 at *
  clear h hfl hok hm hbr
  have hmk := run_mkI m (by omega)
  go_enter Tryd.func7, Tryd.ntmps7
  go_wp2_with fail
  refine HS.out.mono ?_
  rintro e w1 ⟨⟨sv, lv, rfl, hsv, hlv⟩, hb1⟩
  obtain ⟨sao, sc, rfl, hsv⟩ := hsv
  obtain ⟨lao, lc, rfl, hlv⟩ := hlv
  have HLv := hid hlv
  have B1 := hid hb1
  clear hsv hlv hb1 HS c0 c1 c2 c3
  rw [hl2]
  have bA := (Below.refl w1.heap.size w1).alloc (Nat.le_refl _) (.cells (ic (List.replicate m 0)).toArray 3)
  have HA := hid (heap_alloc_new w1 (.cells (ic (List.replicate m 0)).toArray 3))
  obtain ⟨W, hW⟩ : ∃ W, w1.alloc (.cells (ic (List.replicate m 0)).toArray 3) = W := ⟨_, rfl⟩
  rw [hW] at bA HA
  have BW := hid bA
  clear bA
  go_wp2_with fail
  clear hW hmk
  go_loopw [24] (fun i wx => ∃ (k : Nat) (R : List Int), k ≤ m ∧ R.length = m ∧ i = .int .i64 (k : Int) ∧ wx.heap[w1.heap.size]? = some (.cells (ic R).toArray 3 (0, 0)) ∧ Below w1.heap.size w1 wx) (fun i _ => m - (intOf i).toNat)
  case atStart => exact ⟨0, List.replicate m 0, by omega, by simp, rfl, HA.out, BW.out⟩
  case round =>
    obtain ⟨k, R, hk, hR, rfl, hh, hb⟩ := hrel
    have HH := hid hh
    have HB := hid hb
    clear hh hb
    by_cases hlt : k < m
    · have hI : (k : Int) < (m : Int) := by omega
      obtain ⟨p, off, hao, _, hr⟩ := HLv.out k (by omega)
      subst hao
      have q0 := below_cells HB.out _ _ (hr 0 _ rfl)
      rw [Nat.add_zero] at q0
      obtain ⟨z, hz⟩ : ∃ z, (L2[k]'(by omega)).1 = z := ⟨_, rfl⟩
      rw [hz] at q0
      have c0 : wr.cell? ⟨w1.heap.size, k, none⟩ = some (.int .i64 (R[k]'(by omega))) := by
        rw [cell_of_row wr _ k _ _ _ HH.out]
        simp only [List.getElem?_toArray]
        exact ic_at R k (by omega)
      have f0 : wr.frozen? ⟨w1.heap.size, k, none⟩ = false := by simp [World.frozen?, HH.out]
      have HN := hid (show (wr.setCell ⟨w1.heap.size, k, none⟩ (.int .i64 z)).heap[w1.heap.size]? = some (.cells (ic (R.set k z)).toArray 3 (0, 0)) by
        rw [heap_setCell_same wr w1.heap.size k _ _ _ HH.out, List.setIfInBounds_toArray]
        unfold ic
        rw [List.map_set])
      have BN := hid (HB.out.setCell (p := ⟨w1.heap.size, k, none⟩) (Nat.le_refl _) (.int .i64 z))
      clear hr hz
      go_wp2
      go_roundw
      case rel => exact ⟨k + 1, R.set k z, by omega, by rw [List.length_set]; exact hR, by go_num, HN.out, BN.out⟩
      case measure => simp [intOf]; omega
    · have hI : ¬ (k : Int) < (m : Int) := by omega
      have BF := hid (B1.out.trans (HB.out.mono B1.out.size))
      go_wp2
      go_ret
      exact ⟨⟨_, rfl⟩, BF.out⟩
end Go.Proofs.YtjaopckdhohpbaaDoor
