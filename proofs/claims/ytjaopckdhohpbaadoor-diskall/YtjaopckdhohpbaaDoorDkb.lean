/-
  At: what a power failure leaves.
-/
import Derived.Test.YtjaopckdhohpbaaDoorDka
namespace Go.Proofs.YtjaopckdhohpbaaDoor
open Go.RowKit
set_option maxRecDepth 100000

/-- an operation laid over an image, so many bytes of it -/
def lay1 (im : List UInt8) (o : Opn) (sz : Nat) : List UInt8 := if o = flO then im else splice im (o.1.toNat * 128) (o.2.take sz)
abbrev OkN (N : Nat) (o : Opn) : Prop := o = flO ∨ ∃ n : Nat, o.1 = (n : Int) ∧ (n + 1) * 128 ≤ N
theorem lay1_len {N : Nat} {im : List UInt8} {o : Opn} {sz : Nat} (hl : im.length = N) (ho : o.2.length = 128) (hok : OkN N o) : (lay1 im o sz).length = N := by
  unfold lay1
  split
  · exact hl
  · rename_i hne
    obtain ⟨n, h1, h2⟩ : ∃ n : Nat, o.1 = (n : Int) ∧ (n + 1) * 128 ≤ N := by
      rcases hok with h | h
      · exact absurd h hne
      · exact h
    rw [length_splice _ _ _ (by rw [h1, Int.toNat_natCast, List.length_take]; omega)]
    exact hl
theorem splice_bc2 (S X : List UInt8) (tail : List Value) (a : Nat) (h : a + X.length ≤ S.length) : splice (bc S ++ tail) a (bc X) = bc (splice S a X) ++ tail := by
  unfold splice
  rw [List.take_append_of_le_length (by rw [bc_length]; omega), List.drop_append_of_le_length (by rw [bc_length, bc_length]; omega), bc_length, bc_append, bc_append]
  simp only [List.append_assoc]
  unfold bc
  rw [List.map_take, List.map_drop]
theorem lay_any (p off s N cap sz : Nat) (o : Opn) (im : List UInt8) (tail : List Value) (w : World) (hf : HasFl w) (hp : w.rangeAt p off (opc o)) (ho : o.2.length = 128) (hok : OkN N o) (hps : p ≠ s) (hs : w.heap[s]? = some (.cells (bc im ++ tail).toArray 5 (0, 0))) (hl : im.length = N) (hN : N ≤ cap) (hc : cap ≤ 9223372036854775807) (hz : sz ≤ 128) :
    Calls Tryd.prog 33 #[.pointer (some ⟨p, off, none⟩), .slice (some ⟨s, 0, none⟩) N cap, .int .i64 (sz : Int)] w fun e w' => e = .returned (.tuple #[]) ∧ w'.heap[s]? = some (.cells (bc (lay1 im o sz) ++ tail).toArray 5 (0, 0)) ∧ w.grownBy w' (some s) := by
  by_cases hfo : o = flO
  · subst hfo
    refine (lay_flush p off _ (sz : Int) w hf hp).mono fun e w' h => ⟨h.1, ?_, gb_of h.2⟩
    unfold lay1
    rw [if_pos rfl]
    exact (h.2.block s (Array.getElem?_eq_some_iff.1 hs).1).trans hs
  · obtain ⟨n, h1, h2⟩ : ∃ n : Nat, o.1 = (n : Int) ∧ (n + 1) * 128 ≤ N := by
      rcases hok with h | h
      · exact absurd h hfo
      · exact h
    obtain ⟨z, B⟩ := o
    simp only at h1 ho
    subst h1
    refine (lay_write p off s n N cap sz B (bc im ++ tail) w hf hp ho hps hs h2 hN hc (by simp [bc_length, hl]) hz).mono fun e w' h => ⟨h.1, ?_, h.2.2⟩
    unfold lay1
    rw [if_neg hfo, h.2.1, splice_bc2 _ _ _ _ (by rw [List.length_take]; omega)]
    simp
/-- the first j of a list laid over an image -/
def layN (im : List UInt8) (L : List Opn) (z : Nat → Nat) : Nat → List UInt8
  | 0 => im
  | j + 1 => match L[j]? with
    | some o => lay1 (layN im L z j) o (z j)
    | none => layN im L z j
theorem layN_step {im : List UInt8} {L : List Opn} {z : Nat → Nat} {j : Nat} (h : j < L.length) : layN im L z (j + 1) = lay1 (layN im L z j) L[j] (z j) := by
  rw [layN, List.getElem?_eq_getElem h]
theorem layN_len {N : Nat} {im : List UInt8} {L : List Opn} {z : Nat → Nat} (hl : im.length = N) (h : ∀ o ∈ L, o.2.length = 128 ∧ OkN N o) : ∀ j, (layN im L z j).length = N := by
  intro j
  induction j with
  | zero => exact hl
  | succ j ih =>
    by_cases hj : j < L.length
    · rw [layN_step hj]
      have := h _ (List.getElem_mem hj)
      exact lay1_len ih this.1 this.2
    · rw [layN, List.getElem?_eq_none (by omega)]
      exact ih
/-- what At answers -/
def atI (F : List UInt8) (O : List Opn) (n : Nat) (K : List Int) (T B : Int) : List UInt8 :=
  layN (layN F (O.take (brr O n)) (fun _ => 128) (O.take (brr O n)).length) ((O.take n).drop (brr O n)) (fun i => (spr K T B i).toNat) ((O.take n).drop (brr O n)).length
theorem spr_le (K : List Int) (T B : Int) (i : Nat) (h0 : 0 ≤ B) (h1 : B ≤ 128) : 0 ≤ spr K T B i ∧ spr K T B i ≤ 128 := by
  unfold spr
  split
  · omega
  · split <;> omega
theorem readsT {w : World} {b cap : Nat} {l : List UInt8} {tail : List Value} {t : TypeId} {fr : Nat × Nat} (h : w.heap[b]? = some (.cells (bc l ++ tail).toArray t fr)) (hc : l.length ≤ cap) : Reads w (.slice (some ⟨b, 0, none⟩) l.length cap) l := by
  refine .inr ⟨b, 0, cap, rfl, hc, fun j hj => ?_⟩
  rw [cell_of_row w b (0 + j) _ _ _ h, Nat.zero_add]
  simp only [List.getElem?_toArray]
  rw [List.getElem?_append_left (by rw [bc_length]; exact hj)]
  exact bc_at l j hj
theorem range_lt {w : World} {p off : Nat} {o : Opn} (h : w.rangeAt p off (opc o)) : p < w.heap.size := World.block_lt_of_cell? w _ (h 0 _ rfl)
set_option maxHeartbeats 16000000 in
theorem at_any (base d f s cap n : Nat) (tail : List Value) (F S : List UInt8) (dv kv : Value) (O : List Opn) (K : List Int) (T B : Int) (w : World) (hfl : HasFl w) (h : DK w base d f s cap tail F S dv O) (hok : OkO F.length O) (hn : n ≤ O.length) (hO : O.length ≤ 65536) (hF0 : 0 < F.length) (hF : F.length ≤ 1000000) (hK : RI w kv K) (hKl : K.length ≤ 9223372036854775807) (hB0 : 0 ≤ B) (hB1 : B ≤ 128) :
    Calls Tryd.prog 10 #[.pointer (some ⟨d, 0, none⟩), .int .i64 (n : Int), .agg #[kv, .int .i64 T, .int .i64 B]] w fun e w' => (∃ v', e = .returned (.tuple #[v', .int .i64 0]) ∧ Reads w' v' (atI F O n K T B)) ∧ Below w.heap.size w w' := by
  have bA := (Below.refl w.heap.size w).alloc (Nat.le_refl _) (.cells #[kv, .int .i64 T, .int .i64 B] 33)
  have hA := heap_alloc_new w (.cells #[kv, .int .i64 T, .int .i64 B] 33)
  obtain ⟨W, hW⟩ : ∃ W, w.alloc (.cells #[kv, .int .i64 T, .int .i64 B] 33) = W := ⟨_, rfl⟩
  rw [hW] at bA hA
  have hwW : w.heap.size < W.heap.size := (Array.getElem?_eq_some_iff.1 hA).1
  have HDW := hid (h.below bA)
  have HFW := hid (hfl.below bA)
  have HKW := hid (hK.below bA)
  have HAW := hid hA
  have BW := hid bA
  obtain ⟨ao, oc, rfl⟩ := h.form
  obtain ⟨ko, kc, rfl, hkc, _⟩ := hK
  obtain ⟨c0, c1, c2, c3⟩ := HDW.out.cells
  have e0 : W.cell? ⟨w.heap.size, 0, none⟩ = some (.slice ko K.length kc) := by rw [cell_of_row W _ 0 _ _ _ HAW.out]; rfl
  have e1 : W.cell? ⟨w.heap.size, 1, none⟩ = some (.int .i64 T) := by rw [cell_of_row W _ 1 _ _ _ HAW.out]; rfl
  have e2 : W.cell? ⟨w.heap.size, 2, none⟩ = some (.int .i64 B) := by rw [cell_of_row W _ 2 _ _ _ HAW.out]; rfl
  have HSp := hid (split_any base d f s cap n tail F S _ O W HFW.out HDW.out hok hn hO)
  have HOK := hid hok
  clear h hfl bA hA hok
  have hnI0 : ¬ (n : Int) < 0 := by omega
  have hnI : ¬ (O.length : Int) < (n : Int) := by omega
  have hBI0 : ¬ B < 0 := by omega
  have hBI1 : ¬ (128 : Int) < B := by omega
  go_enter Tryd.func10, Tryd.ntmps10
  go_wp2_with fail
  refine HSp.out.mono ?_
  rintro e w1 ⟨⟨sv, lv, rfl, hsv, hlv⟩, hb1⟩
  have B1 := hid hb1
  obtain ⟨sao, sc, rfl, hsv⟩ := hsv
  obtain ⟨lao, lc, rfl, hlv⟩ := hlv
  have HSv := hid hsv
  have HLv := hid hlv
  clear hsv hlv
  have hop1 : ∀ o ∈ O.take (brr O n), o.2.length = 128 ∧ OkN F.length o := fun o ho => ⟨HDW.out.op o (List.mem_of_mem_take ho), HOK.out o (List.mem_of_mem_take ho)⟩
  have hop2 : ∀ o ∈ (O.take n).drop (brr O n), o.2.length = 128 ∧ OkN F.length o := fun o ho => ⟨HDW.out.op o (List.mem_of_mem_take (List.mem_of_mem_drop ho)), HOK.out o (List.mem_of_mem_take (List.mem_of_mem_drop ho))⟩
  have hl1 : (O.take (brr O n)).length ≤ 65536 := by rw [List.length_take]; omega
  have hl2 : ((O.take n).drop (brr O n)).length ≤ 65536 := by rw [List.length_drop, List.length_take]; omega
  have HAT := hid (show atI F O n K T B = layN (layN F (O.take (brr O n)) (fun _ => 128) (O.take (brr O n)).length) ((O.take n).drop (brr O n)) (fun i => (spr K T B i).toNat) ((O.take n).drop (brr O n)).length from rfl)
  generalize O.take (brr O n) = L1 at *
  generalize (O.take n).drop (brr O n) = L2 at *
  have HP1 := hid hop1
  have HP2 := hid hop2
  clear hop1 hop2
  have HD1 := hid (HDW.out.below hb1)
  obtain ⟨f0, _⟩ := HD1.out.cells
  clear hb1 HSp
  have HC := hid (clone_any f 0 F.length F w1 (reads_row HD1.out.first) hF)
  go_wp2_with fail
  refine HC.out.mono ?_
  rintro e w2 ⟨⟨iv, rfl, ho⟩, hb2⟩
  obtain ⟨g, gcap, gtail, rfl, hg, hgl, hgm, hrow⟩ := ho.row hF0
  have HRow := hid hrow
  have B2 := hid (B1.out.trans (hb2.mono B1.out.size))
  have hWg : W.heap.size ≤ g := Nat.le_trans B1.out.size hg
  have hbk := hb2
  clear ho hrow hb2 HC HD1 c0 c1 c2 c3 f0
  have hB2' : Below w1.heap.size w1 w2 := hbk
  have HB2 := hid hB2'
  clear hbk hB2'
  have HF1 := hid (HFW.out.below B1.out)
  go_wp2_with fail
  go_loopw [50] (fun i wx => ∃ j : Nat, j ≤ L1.length ∧ i = .int .i64 (j : Int) ∧ wx.heap[g]? = some (.cells (bc (layN F L1 (fun _ => 128) j) ++ gtail).toArray 5 (0, 0)) ∧ Below w1.heap.size w1 wx) (fun i _ => L1.length - (intOf i).toNat)
  case atStart => exact ⟨0, by omega, rfl, HRow.out, HB2.out⟩
  case round =>
    obtain ⟨j, hj, rfl, hh, hb⟩ := hrel
    have HH := hid hh
    have HB := hid hb
    clear hh hb
    by_cases hlt : j < L1.length
    · have hI : (j : Int) < (L1.length : Int) := by omega
      obtain ⟨p, off, hao, hbp, hr⟩ := HSv.out j hlt
      subst hao
      have hpl := range_lt hr
      have HLay := hid (lay_any p (off + j * 129) g F.length gcap 128 L1[j] _ gtail wr (HF1.out.below HB.out) (fun a v hv => below_cells HB.out _ _ (hr a v hv)) (HP1.out _ (List.getElem_mem hlt)).1 (HP1.out _ (List.getElem_mem hlt)).2 (by omega) HH.out (layN_len rfl HP1.out j) hgl hgm (Nat.le_refl _))
      clear hr
      go_wp2_with fail
      refine HLay.out.mono ?_
      rintro e w3 ⟨rfl, h3, g3⟩
      rw [← layN_step hlt] at h3
      have H3 := hid h3
      have B3 := hid (HB.out.grown g3 HB.out.size (fun k hk => by cases hk; exact hg))
      clear h3 g3 HLay
      go_wp2
      go_roundw
      case rel => exact ⟨j + 1, by omega, by go_num, H3.out, B3.out⟩
      case measure => simp [intOf]; omega
    · have hI : ¬ (j : Int) < (L1.length : Int) := by omega
      have hjL : j = L1.length := by omega
      subst hjL
      have k0 := below_cells (B1.out.trans (HB.out.mono B1.out.size)) _ _ e0
      have k1 := below_cells (B1.out.trans (HB.out.mono B1.out.size)) _ _ e1
      have k2 := below_cells (B1.out.trans (HB.out.mono B1.out.size)) _ _ e2
      have HKr := hid (HKW.out.below (B1.out.trans (HB.out.mono B1.out.size)))
      have HSpa := hid (spared_any _ K T B L2.length wr HKr.out (by omega) hKl)
      have hgl2 : g < wr.heap.size := (Array.getElem?_eq_some_iff.1 HH.out).1
      clear e0 e1 e2
      go_wp2_with fail
      refine HSpa.out.mono ?_
      rintro e w4 ⟨⟨gz, rfl, hgz, hz⟩, hb4⟩
      have HZ := hid hz
      have HH4 := hid ((hb4.block g hgl2).trans HH.out)
      have HB4 := hid (HB.out.trans (hb4.mono HB.out.size))
      clear hz hb4 HSpa k0 k1 k2
      go_wp2_with fail
      go_loopw [64] (fun i wx => ∃ j : Nat, j ≤ L2.length ∧ i = .int .i64 (j : Int) ∧ wx.heap[g]? = some (.cells (bc (layN (layN F L1 (fun _ => 128) L1.length) L2 (fun i => (spr K T B i).toNat) j) ++ gtail).toArray 5 (0, 0)) ∧ wx.heap[gz]? = some (.cells (ic (sprL K T B L2.length)).toArray 3 (0, 0)) ∧ Below w1.heap.size w1 wx) (fun i _ => L2.length - (intOf i).toNat)
      case atStart => exact ⟨0, by omega, rfl, HH4.out, HZ.out, HB4.out⟩
      case round =>
        obtain ⟨j, hj2, rfl, hh, hzz, hb⟩ := hrel
        have HH5 := hid hh
        have HZ5 := hid hzz
        have HB5 := hid hb
        clear hh hzz hb
        by_cases hlt : j < L2.length
        · have hI2 : (j : Int) < (L2.length : Int) := by omega
          obtain ⟨p, off, hao, hbp, hr⟩ := HLv.out j hlt
          subst hao
          have hpl := range_lt hr
          have hsp := spr_le K T B j hB0 hB1
          have cz : wr.cell? ⟨gz, j, none⟩ = some (.int .i64 (spr K T B j)) := by
            rw [cell_of_row wr _ j _ _ _ HZ5.out]
            simp only [List.getElem?_toArray]
            rw [ic_at _ j (by rw [sprL_len]; exact hlt), sprL_at]
          obtain ⟨sz, hsz⟩ : ∃ sz : Nat, spr K T B j = (sz : Int) := ⟨(spr K T B j).toNat, by omega⟩
          have HSt := hid (layN_step (im := layN F L1 (fun _ => 128) L1.length) (z := fun i => (spr K T B i).toNat) hlt)
          simp only [hsz, Int.toNat_natCast] at HSt
          rw [hsz] at cz hsp
          have HLay := hid (lay_any p (off + j * 129) g F.length gcap sz L2[j] _ gtail wr (HF1.out.below HB5.out) (fun a v hv => below_cells HB5.out _ _ (hr a v hv)) (HP2.out _ (List.getElem_mem hlt)).1 (HP2.out _ (List.getElem_mem hlt)).2 (by omega) HH5.out (layN_len (layN_len rfl HP1.out _) HP2.out j) hgl hgm (by omega))
          clear hr hsz
          go_wp2_with fail
          refine HLay.out.mono ?_
          rintro e w3 ⟨rfl, h3, g3⟩
          rw [← HSt.out] at h3
          have H3 := hid h3
          have Z3 := hid ((g3.block gz (Array.getElem?_eq_some_iff.1 HZ5.out).1 (fun e => by have := Option.some.inj e; omega)).trans HZ5.out)
          have B3 := hid (HB5.out.grown g3 HB5.out.size (fun k hk => by cases hk; exact hg))
          clear h3 g3 HLay
          go_wp2
          go_roundw
          case rel => exact ⟨j + 1, by omega, by go_num, H3.out, Z3.out, B3.out⟩
          case measure => simp [intOf]; omega
        · have hI2 : ¬ (j : Int) < (L2.length : Int) := by omega
          have hjL : j = L2.length := by omega
          subst hjL
          have hll := layN_len (L := L2) (z := fun i => (spr K T B i).toNat) (layN_len (L := L1) (z := fun _ => 128) rfl HP1.out L1.length) HP2.out L2.length
          have HRd := hid (readsT (cap := gcap) HH5.out (by rw [hll]; exact hgl))
          rw [hll, ← HAT.out] at HRd
          have BF := hid (BW.out.trans ((B1.out.trans (HB5.out.mono B1.out.size)).mono (Nat.le_of_lt hwW)))
          go_wp2
          go_ret2
          exact ⟨⟨_, rfl, HRd.out⟩, BF.out⟩
end Go.Proofs.YtjaopckdhohpbaaDoor
