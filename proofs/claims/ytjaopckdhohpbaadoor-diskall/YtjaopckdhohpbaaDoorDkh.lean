/-
  At, with the block it answers with; moments gone by, all kept, behind a flush.
-/
import Derived.Test.YtjaopckdhohpbaaDoorDkg
namespace Go.Proofs.YtjaopckdhohpbaaDoor
open Go.RowKit
set_option maxRecDepth 100000

set_option maxHeartbeats 16000000 in
theorem at_row (base d f s cap n : Nat) (tail : List Value) (F S : List UInt8) (dv kv : Value) (O : List Opn) (K : List Int) (T B : Int) (w : World) (hfl : HasFl w) (h : DK w base d f s cap tail F S dv O) (hok : OkO F.length O) (hn : n ≤ O.length) (hO : O.length ≤ 65536) (hF0 : 0 < F.length) (hF : F.length ≤ 1000000) (hK : RI w kv K) (hKl : K.length ≤ 9223372036854775807) (hB0 : 0 ≤ B) (hB1 : B ≤ 128) :
    Calls Tryd.prog 10 #[.pointer (some ⟨d, 0, none⟩), .int .i64 (n : Int), .agg #[kv, .int .i64 T, .int .i64 B]] w fun e w' => (∃ g cap, e = .returned (.tuple #[.slice (some ⟨g, 0, none⟩) (atI F O n K T B).length cap, .int .i64 0]) ∧ w.heap.size ≤ g ∧ (atI F O n K T B).length ≤ cap ∧ ∃ tail, w'.heap[g]? = some (.cells (bc (atI F O n K T B) ++ tail).toArray 5 (0, 0))) ∧ Below w.heap.size w w' := by
  have bA := (Below.refl w.heap.size w).alloc (Nat.le_refl _) (.cells #[kv, .int .i64 T, .int .i64 B] 33)
  have hA := heap_alloc_new w (.cells #[kv, .int .i64 T, .int .i64 B] 33)
  obtain ⟨W, hW⟩ : ∃ W, w.alloc (.cells #[kv, .int .i64 T, .int .i64 B] 33) = W := ⟨_, rfl⟩
  rw [hW] at bA hA
  have hwW : w.heap.size < W.heap.size := (Array.getElem?_eq_some_iff.1 hA).1
  have HDW := hid (h.below bA)
  have HFW := hid (hfl.below bA)
  have HKW := hid (hK.below bA)
  have HAW := hid hA
  have BW := hid bA
  obtain ⟨ao, oc, rfl⟩ := h.form
  obtain ⟨ko, kc, rfl, hkc, _⟩ := hK
  obtain ⟨c0, c1, c2, c3⟩ := HDW.out.cells
  have e0 : W.cell? ⟨w.heap.size, 0, none⟩ = some (.slice ko K.length kc) := by rw [cell_of_row W _ 0 _ _ _ HAW.out]; rfl
  have e1 : W.cell? ⟨w.heap.size, 1, none⟩ = some (.int .i64 T) := by rw [cell_of_row W _ 1 _ _ _ HAW.out]; rfl
  have e2 : W.cell? ⟨w.heap.size, 2, none⟩ = some (.int .i64 B) := by rw [cell_of_row W _ 2 _ _ _ HAW.out]; rfl
  have HSp := hid (split_any base d f s cap n tail F S _ O W HFW.out HDW.out hok hn hO)
  have HOK := hid hok
  clear h hfl bA hA hok
  have hnI0 : ¬ (n : Int) < 0 := by omega
  have hnI : ¬ (O.length : Int) < (n : Int) := by omega
  have hBI0 : ¬ B < 0 := by omega
  have hBI1 : ¬ (128 : Int) < B := by omega
  go_enter Tryd.func10, Tryd.ntmps10
  go_wp2_with fail
  refine HSp.out.mono ?_
  rintro e w1 ⟨⟨sv, lv, rfl, hsv, hlv⟩, hb1⟩
  have B1 := hid hb1
  obtain ⟨sao, sc, rfl, hsv⟩ := hsv
  obtain ⟨lao, lc, rfl, hlv⟩ := hlv
  have HSv := hid hsv
  have HLv := hid hlv
  clear hsv hlv
  have hop1 : ∀ o ∈ O.take (brr O n), o.2.length = 128 ∧ OkN F.length o := fun o ho => ⟨HDW.out.op o (List.mem_of_mem_take ho), HOK.out o (List.mem_of_mem_take ho)⟩
  have hop2 : ∀ o ∈ (O.take n).drop (brr O n), o.2.length = 128 ∧ OkN F.length o := fun o ho => ⟨HDW.out.op o (List.mem_of_mem_take (List.mem_of_mem_drop ho)), HOK.out o (List.mem_of_mem_take (List.mem_of_mem_drop ho))⟩
  have hl1 : (O.take (brr O n)).length ≤ 65536 := by rw [List.length_take]; omega
  have hl2 : ((O.take n).drop (brr O n)).length ≤ 65536 := by rw [List.length_drop, List.length_take]; omega
  have HAT := hid (show atI F O n K T B = layN (layN F (O.take (brr O n)) (fun _ => 128) (O.take (brr O n)).length) ((O.take n).drop (brr O n)) (fun i => (spr K T B i).toNat) ((O.take n).drop (brr O n)).length from rfl)
  generalize O.take (brr O n) = L1 at *
  generalize (O.take n).drop (brr O n) = L2 at *
  have HP1 := hid hop1
  have HP2 := hid hop2
  clear hop1 hop2
  have HD1 := hid (HDW.out.below hb1)
  obtain ⟨f0, _⟩ := HD1.out.cells
  clear hb1 HSp
  have HC := hid (clone_any f 0 F.length F w1 (reads_row HD1.out.first) hF)
  go_wp2_with fail
  refine HC.out.mono ?_
  rintro e w2 ⟨⟨iv, rfl, ho⟩, hb2⟩
  obtain ⟨g, gcap, gtail, rfl, hg, hgl, hgm, hrow⟩ := ho.row hF0
  have HRow := hid hrow
  have B2 := hid (B1.out.trans (hb2.mono B1.out.size))
  have hWg : W.heap.size ≤ g := Nat.le_trans B1.out.size hg
  have hbk := hb2
  clear ho hrow hb2 HC HD1 c0 c1 c2 c3 f0
  have hB2' : Below w1.heap.size w1 w2 := hbk
  have HB2 := hid hB2'
  clear hbk hB2'
  have HF1 := hid (HFW.out.below B1.out)
  go_wp2_with fail
  go_loopw [50] (fun i wx => ∃ j : Nat, j ≤ L1.length ∧ i = .int .i64 (j : Int) ∧ wx.heap[g]? = some (.cells (bc (layN F L1 (fun _ => 128) j) ++ gtail).toArray 5 (0, 0)) ∧ Below w1.heap.size w1 wx) (fun i _ => L1.length - (intOf i).toNat)
  case atStart => exact ⟨0, by omega, rfl, HRow.out, HB2.out⟩
  case round =>
    obtain ⟨j, hj, rfl, hh, hb⟩ := hrel
    have HH := hid hh
    have HB := hid hb
    clear hh hb
    by_cases hlt : j < L1.length
    · have hI : (j : Int) < (L1.length : Int) := by omega
      obtain ⟨p, off, hao, hbp, hr⟩ := HSv.out j hlt
      subst hao
      have hpl := range_lt hr
      have HLay := hid (lay_any p (off + j * 129) g F.length gcap 128 L1[j] _ gtail wr (HF1.out.below HB.out) (fun a v hv => below_cells HB.out _ _ (hr a v hv)) (HP1.out _ (List.getElem_mem hlt)).1 (HP1.out _ (List.getElem_mem hlt)).2 (by omega) HH.out (layN_len rfl HP1.out j) hgl hgm (Nat.le_refl _))
      clear hr
      go_wp2_with fail
      refine HLay.out.mono ?_
      rintro e w3 ⟨rfl, h3, g3⟩
      rw [← layN_step hlt] at h3
      have H3 := hid h3
      have B3 := hid (HB.out.grown g3 HB.out.size (fun k hk => by cases hk; exact hg))
      clear h3 g3 HLay
      go_wp2
      go_roundw
      case rel => exact ⟨j + 1, by omega, by go_num, H3.out, B3.out⟩
      case measure => simp [intOf]; omega
    · have hI : ¬ (j : Int) < (L1.length : Int) := by omega
      have hjL : j = L1.length := by omega
      subst hjL
      have k0 := below_cells (B1.out.trans (HB.out.mono B1.out.size)) _ _ e0
      have k1 := below_cells (B1.out.trans (HB.out.mono B1.out.size)) _ _ e1
      have k2 := below_cells (B1.out.trans (HB.out.mono B1.out.size)) _ _ e2
      have HKr := hid (HKW.out.below (B1.out.trans (HB.out.mono B1.out.size)))
      have HSpa := hid (spared_any _ K T B L2.length wr HKr.out (by omega) hKl)
      have hgl2 : g < wr.heap.size := (Array.getElem?_eq_some_iff.1 HH.out).1
      clear e0 e1 e2
      go_wp2_with fail
      refine HSpa.out.mono ?_
      rintro e w4 ⟨⟨gz, rfl, hgz, hz⟩, hb4⟩
      have HZ := hid hz
      have HH4 := hid ((hb4.block g hgl2).trans HH.out)
      have HB4 := hid (HB.out.trans (hb4.mono HB.out.size))
      clear hz hb4 HSpa k0 k1 k2
      go_wp2_with fail
      go_loopw [64] (fun i wx => ∃ j : Nat, j ≤ L2.length ∧ i = .int .i64 (j : Int) ∧ wx.heap[g]? = some (.cells (bc (layN (layN F L1 (fun _ => 128) L1.length) L2 (fun i => (spr K T B i).toNat) j) ++ gtail).toArray 5 (0, 0)) ∧ wx.heap[gz]? = some (.cells (ic (sprL K T B L2.length)).toArray 3 (0, 0)) ∧ Below w1.heap.size w1 wx) (fun i _ => L2.length - (intOf i).toNat)
      case atStart => exact ⟨0, by omega, rfl, HH4.out, HZ.out, HB4.out⟩
      case round =>
        obtain ⟨j, hj2, rfl, hh, hzz, hb⟩ := hrel
        have HH5 := hid hh
        have HZ5 := hid hzz
        have HB5 := hid hb
        clear hh hzz hb
        by_cases hlt : j < L2.length
        · have hI2 : (j : Int) < (L2.length : Int) := by omega
          obtain ⟨p, off, hao, hbp, hr⟩ := HLv.out j hlt
          subst hao
          have hpl := range_lt hr
          have hsp := spr_le K T B j hB0 hB1
          have cz : wr.cell? ⟨gz, j, none⟩ = some (.int .i64 (spr K T B j)) := by
            rw [cell_of_row wr _ j _ _ _ HZ5.out]
            simp only [List.getElem?_toArray]
            rw [ic_at _ j (by rw [sprL_len]; exact hlt), sprL_at]
          obtain ⟨sz, hsz⟩ : ∃ sz : Nat, spr K T B j = (sz : Int) := ⟨(spr K T B j).toNat, by omega⟩
          have HSt := hid (layN_step (im := layN F L1 (fun _ => 128) L1.length) (z := fun i => (spr K T B i).toNat) hlt)
          simp only [hsz, Int.toNat_natCast] at HSt
          rw [hsz] at cz hsp
          have HLay := hid (lay_any p (off + j * 129) g F.length gcap sz L2[j] _ gtail wr (HF1.out.below HB5.out) (fun a v hv => below_cells HB5.out _ _ (hr a v hv)) (HP2.out _ (List.getElem_mem hlt)).1 (HP2.out _ (List.getElem_mem hlt)).2 (by omega) HH5.out (layN_len (layN_len rfl HP1.out _) HP2.out j) hgl hgm (by omega))
          clear hr hsz
          go_wp2_with fail
          refine HLay.out.mono ?_
          rintro e w3 ⟨rfl, h3, g3⟩
          rw [← HSt.out] at h3
          have H3 := hid h3
          have Z3 := hid ((g3.block gz (Array.getElem?_eq_some_iff.1 HZ5.out).1 (fun e => by have := Option.some.inj e; omega)).trans HZ5.out)
          have B3 := hid (HB5.out.grown g3 HB5.out.size (fun k hk => by cases hk; exact hg))
          clear h3 g3 HLay
          go_wp2
          go_roundw
          case rel => exact ⟨j + 1, by omega, by go_num, H3.out, Z3.out, B3.out⟩
          case measure => simp [intOf]; omega
        · have hI2 : ¬ (j : Int) < (L2.length : Int) := by omega
          have hjL : j = L2.length := by omega
          subst hjL
          have hll := layN_len (L := L2) (z := fun i => (spr K T B i).toNat) (layN_len (L := L1) (z := fun _ => 128) rfl HP1.out L1.length) HP2.out L2.length
          have HRd := hid HH5.out
          rw [← HAT.out] at HRd hll
          have BF := hid (BW.out.trans ((B1.out.trans (HB5.out.mono B1.out.size)).mono (Nat.le_of_lt hwW)))
          go_wp2
          go_ret2
          exact ⟨⟨g, gcap, rfl, by omega, hgl, gtail, HRd.out⟩, BF.out⟩
theorem brr_app (O M : List Opn) : ∀ n, n ≤ O.length → brr (O ++ M) n = brr O n := by
  intro n
  induction n with
  | zero => intro _; rfl
  | succ n ih =>
    intro h
    unfold brr
    rw [List.getElem?_append_left (by omega), ih (by omega)]
theorem at_app (F : List UInt8) (O M : List Opn) (n : Nat) (K : List Int) (T B : Int) (h : n ≤ O.length) : atI F (O ++ M) n K T B = atI F O n K T B := by
  have hb := brr_le O n
  unfold atI
  rw [brr_app O M n h, List.take_append_of_le_length h, List.take_append_of_le_length (by omega)]
theorem layN_from (P : List Pt) (k : Nat) (z : Nat → Nat) : ∀ j, k + j ≤ P.length → (∀ i, i < j → z i = 128) → layN (seenP (P.take k)) ((P.map opP).drop k) z j = seenP (P.take (k + j)) := by
  intro j
  induction j with
  | zero => intro _ _; rfl
  | succ j ih =>
    intro h hz
    rw [layN_step (by rw [List.length_drop, List.length_map]; omega), ih (by omega) (fun i hi => hz i (by omega)), hz j (by omega), List.getElem_drop, List.getElem_map, lay1_put, ← Nat.add_assoc, List.take_add_one, List.getElem?_eq_getElem (by omega), Option.toList_some, seenP_snoc]
/-- 0 .. m-1 -/
def upI (m : Nat) : List Int := (List.range m).map fun i : Nat => (i : Int)
theorem upI_len (m : Nat) : (upI m).length = m := by simp [upI]
theorem upI_snoc (m : Nat) : upI (m + 1) = upI m ++ [(m : Int)] := by simp [upI, List.range_succ]
theorem mem_upI {m i : Nat} (h : i < m) : (i : Int) ∈ upI m := by
  unfold upI
  exact List.mem_map.2 ⟨i, List.mem_range.2 h, rfl⟩
theorem at_all (P : List Pt) : atI (zs 768) (P.map opP) P.length (upI (P.length - bar P P.length)) (-1) 0 = seenP P := by
  have hb := bar_le P P.length
  have h1 := layN_seen (P.take (bar P P.length)) (P.take (bar P P.length)).length (Nat.le_refl _)
  rw [List.take_length] at h1
  have h2 := layN_from P (bar P P.length) (fun i => (spr (upI (P.length - bar P P.length)) (-1) 0 i).toNat) (P.length - bar P P.length) (by omega) (fun i hi => by
    unfold spr
    rw [if_pos (mem_upI hi)]
    rfl)
  unfold atI
  have ht : (P.map opP).take P.length = P.map opP := List.take_of_length_le (by simp)
  rw [brr_is, ht, ← List.map_take, List.length_map, h1, List.length_drop, List.length_map, h2, Nat.add_sub_cancel' hb, List.take_length]
theorem bar_fl (P : List Pt) : bar (P ++ [(0, 0, true)]) (P ++ [(0, 0, true)]).length = (P ++ [(0, 0, true)]).length := by
  rw [List.length_append, List.length_singleton]
  unfold bar
  simp
theorem at_flushed (P : List Pt) (K : List Int) (T B : Int) : atI (zs 768) ((P ++ [(0, 0, true)]).map opP) (P ++ [(0, 0, true)]).length K T B = seenP (P ++ [(0, 0, true)]) := by
  have h1 := layN_seen (P ++ [(0, 0, true)]) (P ++ [(0, 0, true)]).length (Nat.le_refl _)
  rw [List.take_length] at h1
  unfold atI
  rw [brr_is, bar_fl]
  generalize P ++ [((0 : Int), (0 : UInt8), true)] = P' at *
  rw [List.take_of_length_le (by simp), List.drop_of_length_le (by simp), List.length_map, h1]
  rfl
theorem seen_fl (P : List Pt) : seenP (P ++ [(0, 0, true)]) = seenP P := by rw [seenP_snoc]; rfl
theorem map_fl (P : List Pt) : (P ++ [(0, 0, true)]).map opP = P.map opP ++ [flO] := by rw [List.map_append]; rfl
theorem own_ints {w : World} {base n : Nat} {v : Value} {K : List Int} (h : w.ownsRow base 3 1 v n (ic K)) : RI w v K ∧ ∃ ao c, v = .slice ao n c := by
  have hl : K.length = n := by have := h.1; simp [ic] at this; exact this
  rcases h.2 with ⟨rfl, rfl⟩ | ⟨g, cap, cur, rfl, _, hh, hc, _, hs, ht⟩
  · have : K = [] := List.eq_nil_of_length_eq_zero hl
    subst this
    exact ⟨RI.nil w, _, _, rfl⟩
  · refine ⟨⟨_, cap, by rw [hl], by omega, fun i hi => ⟨g, 0, rfl, ?_⟩⟩, _, _, rfl⟩
    rw [cell_of_row w g (0 + i) _ _ _ hh, Nat.zero_add]
    have h1 : (cur.toList.take (n * 1))[i]? = some (.int .i64 K[i]) := by rw [ht]; exact ic_at K i hi
    rw [List.getElem?_take, if_pos (by omega)] at h1
    simpa using h1
end Go.Proofs.YtjaopckdhohpbaaDoor
