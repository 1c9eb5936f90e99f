/-
  DiskBack: the law's own walk, out of the contracts.
-/
import Derived.Test.YtdgkhenejjodaaaDoorDkf
import Derived.Test.YtdgkhenejjodaaaDoorLawDSe
namespace Go.Proofs.YtdgkhenejjodaaaDoor
open Go.RowKit
set_option maxRecDepth 100000

theorem crash_set {W : World} {g : Nat} {a : Value} {T B B' : Int} {t : TypeId} {fr : Nat × Nat} (h : W.heap[g]? = some (.cells #[a, .int .i64 T, .int .i64 B] t fr)) :
    (W.setCell ⟨g, 2, none⟩ (.int .i64 B')).cell? ⟨g, 0, none⟩ = some a ∧ (W.setCell ⟨g, 2, none⟩ (.int .i64 B')).cell? ⟨g, 1, none⟩ = some (.int .i64 T) ∧ (W.setCell ⟨g, 2, none⟩ (.int .i64 B')).cell? ⟨g, 2, none⟩ = some (.int .i64 B') := by
  have e0 : W.cell? ⟨g, 0, none⟩ = some a := by rw [cell_of_row W _ 0 _ _ _ h]; rfl
  have e1 : W.cell? ⟨g, 1, none⟩ = some (.int .i64 T) := by rw [cell_of_row W _ 1 _ _ _ h]; rfl
  have e2 : W.cell? ⟨g, 2, none⟩ = some (.int .i64 B) := by rw [cell_of_row W _ 2 _ _ _ h]; rfl
  refine ⟨?_, ?_, ?_⟩
  · exact (World.cell?_setCell_other _ ⟨g, 2, none⟩ ⟨g, 0, none⟩ _ (by simp)).trans e0
  · exact (World.cell?_setCell_other _ ⟨g, 2, none⟩ ⟨g, 1, none⟩ _ (by simp)).trans e1
  · apply World.cell?_setCell_same; exact e2
theorem few_at (v : Value) (P : List Pt) (w W : World) (hp : PT w v P) (hP : P.length ≤ 9223372036854775807) :
    Calls Tryd.prog 9 #[v] W fun e w' => (∃ v', e = .returned v' ∧ PT w v' (P.take 300)) ∧ w' = W := by
  obtain ⟨ao, c, rfl, hc, hz, hcell⟩ := hp
  have hPT : PT w (.slice ao P.length c) P := ⟨ao, c, rfl, hc, hz, hcell⟩
  by_cases h3 : 300 < P.length
  · have hI : (300 : Int) < (P.length : Int) := by omega
    obtain ⟨_, g, off, rfl, _⟩ := hcell 0 (by omega)
    have HT := hid (hPT.take 300 (by omega))
    have hc3 : 300 ≤ c := by omega
    clear hcell hPT
    go_enter Tryd.func9, Tryd.ntmps9
    go_wp2
    go_ret
    exact ⟨⟨_, rfl, HT.out⟩, rfl⟩
  · have hI : ¬ (300 : Int) < (P.length : Int) := by omega
    have HT := hid hPT
    clear hcell hPT
    go_enter Tryd.func9, Tryd.ntmps9
    go_wp2
    go_ret
    exact ⟨⟨_, rfl, by rw [List.take_of_length_le (by omega)]; exact HT.out⟩, rfl⟩
set_option maxHeartbeats 16000000 in
theorem dback_any (v : Value) (P : List Pt) (x : Int) (kv : Value) (K : List Int) (T B : Int) (b : UInt8) (w : World) (hfl : HasFl w) (hp : PT w v P) (hP : P.length ≤ 9223372036854775807)
    (x0 : -9223372036854775808 ≤ x) (x1 : x ≤ 9223372036854775807) (hK : RI w kv K) (hKl : K.length ≤ 9223372036854775807) (b0 : -9223372036854775808 ≤ B) (b1 : B ≤ 9223372036854775807) :
    Calls Tryd.prog 6 #[v, .int .i64 x, .agg #[kv, .int .i64 T, .int .i64 B], .int .u8 (b.toNat : Int)] w fun e w' => e = .returned (.bool true) ∧ Below w.heap.size w w' := by
  have hw0 : 0 < w.heap.size := by
    obtain ⟨t, fr, hh⟩ := hfl
    exact (Array.getElem?_eq_some_iff.1 hh).1
  have bA := (Below.refl w.heap.size w).alloc (Nat.le_refl _) (.cells #[kv, .int .i64 T, .int .i64 B] 34)
  have hA := heap_alloc_new w (.cells #[kv, .int .i64 T, .int .i64 B] 34)
  obtain ⟨W, hW⟩ : ∃ W, w.alloc (.cells #[kv, .int .i64 T, .int .i64 B] 34) = W := ⟨_, rfl⟩
  rw [hW] at bA hA
  have hwW : w.heap.size < W.heap.size := (Array.getElem?_eq_some_iff.1 hA).1
  have hB2 := wth_le B 128
  have hX3 := crash_set (B' := (wth B 128 : Int)) hA
  have bX : Below w.heap.size w (W.setCell ⟨w.heap.size, 2, none⟩ (.int .i64 (wth B 128 : Int))) := bA.setCell (Nat.le_refl _) _
  obtain ⟨X, hX⟩ : ∃ X, W.setCell ⟨w.heap.size, 2, none⟩ (.int .i64 (wth B 128 : Int)) = X := ⟨_, rfl⟩
  rw [hX] at hX3 bX
  have hwX : w.heap.size < X.heap.size := World.block_lt_of_cell? X _ hX3.1
  have e0 : W.cell? ⟨w.heap.size, 0, none⟩ = some kv := by rw [cell_of_row W _ 0 _ _ _ hA]; rfl
  have e1 : W.cell? ⟨w.heap.size, 1, none⟩ = some (.int .i64 T) := by rw [cell_of_row W _ 1 _ _ _ hA]; rfl
  have e2 : W.cell? ⟨w.heap.size, 2, none⟩ = some (.int .i64 B) := by rw [cell_of_row W _ 2 _ _ _ hA]; rfl
  have fz2 : W.frozen? ⟨w.heap.size, 2, none⟩ = false := by simp [World.frozen?, hA]
  have HFw := hid (few_at v P w W hp hP)
  have hQ : (P.take 300).length ≤ 300 := by rw [List.length_take]; omega
  generalize P.take 300 = Q at *
  have HF := hid hfl
  have HK := hid hK
  have HX3 := hid hX3
  have BX := hid bX
  obtain ⟨vo, vc, rfl, _⟩ := hp
  obtain ⟨ko, kc, rfl, hkc, _⟩ := hK
  have HW1 := hid (within_to B 128 W (by omega) b0 b1)
  rw [show ((128 : Nat) : Int) = 128 from rfl] at HW1
  clear hfl hA hX3 bX
  have HbA := hid bA
  clear bA
  go_enter Tryd.func6, Tryd.ntmps6
  go_wp2_with fail
  refine HFw.out.mono ?_
  rintro e wz ⟨⟨qv, rfl, hq⟩, hwz⟩
  have hws := hwz.symm
  clear hwz HFw
  subst hws
  obtain ⟨qo, qc, rfl, hqc, hqz, hqn⟩ := hq.len
  have HQW := hid hq
  clear hq
  go_wp2_with fail
  refine HW1.out.mono ?_
  rintro e wz ⟨rfl, hwz⟩
  have hws := hwz.symm
  clear hwz HW1
  subst hws
  go_wp2_with fail
  have HQX := hid (HQW.out.below BX.out)
  have HL := hid (laid_any _ Q X (HF.out.below BX.out) HQX.out (by omega) (by omega))
  refine HL.out.mono ?_
  rintro e w1 ⟨⟨d, f, s, cap, tail, dv, rfl, hdk⟩, hb1⟩
  have HD1 := hid hdk
  have B1 := hid hb1
  clear hdk hb1 HL
  have b1 := B1.out
  have g0 := (b1.cell (p := ⟨w.heap.size, 0, none⟩) hwX).trans HX3.out.1
  have g1 := (b1.cell (p := ⟨w.heap.size, 1, none⟩) hwX).trans HX3.out.2.1
  have g2 := (b1.cell (p := ⟨w.heap.size, 2, none⟩) hwX).trans HX3.out.2.2
  have BW1 := hid (BX.out.trans (b1.mono (Nat.le_of_lt hwX)))
  have HF1 := hid (HF.out.below BW1.out)
  have HK1 := hid (HK.out.below BW1.out)
  have HQ1 := hid (HQW.out.below BW1.out)
  have HG := hid (And.intro g0 (And.intro g1 g2))
  obtain ⟨n, hn⟩ : ∃ n, wth x Q.length = n := ⟨_, rfl⟩
  have hnq : n ≤ Q.length := by rw [← hn]; exact wth_le _ _
  have HW2 := hid (fun w => within_to x Q.length w (by omega) x0 x1)
  rw [hn] at HW2
  obtain ⟨cb, hcb⟩ : ∃ cb, wth B 128 = cb := ⟨_, rfl⟩
  rw [hcb] at HG hB2 hX
  clear b1 g0 g1 g2 HX3 hcb hn
  have BD := hid ((Below.refl w1.heap.size w1).drew)
  go_wp2_with fail
  go_region_held3 (fun w' => w'.cell? ⟨w.heap.size, 0, none⟩ = some (.slice ko K.length kc) ∧ w'.cell? ⟨w.heap.size, 1, none⟩ = some (.int .i64 T) ∧ w'.cell? ⟨w.heap.size, 2, none⟩ = some (.int .i64 (cb : Int))) (first | exact HG.out | exact QG.out) (first
    | (go_at_call 11; refine (HW2.out _).mono ?_; rintro e w' ⟨rfl, rfl⟩)
    | (go_at_call 13; refine (at_any X.heap.size d f s cap n tail (zs 768) (seenP Q) dv _ (Q.map opP) K T (cb : Int) w1.drew (HF1.out.below BD.out) (HD1.out.below BD.out) (by rw [zs_len]; exact OkP Q) (by rw [List.length_map]; exact hnq) (by rw [List.length_map]; omega) (by rw [zs_len]; omega) (by rw [zs_len]; omega) (HK1.out.below BD.out) hKl (by omega) (by omega)).mono ?_; rintro e w2 ⟨⟨iv, rfl, hr2⟩, hb2⟩; have R2 := hid hr2; have B2 := hid (BD.out.trans hb2); have QG := hid (And.intro (below_cells B2.out _ _ HG.out.1) (And.intro (below_cells B2.out _ _ HG.out.2.1) (below_cells B2.out _ _ HG.out.2.2))); clear hr2 hb2))
  all_goals
    have hsl := seenP_len Q
    have hal : (atI (zs 768) (Q.map opP) n K T (cb : Int)).length = 768 := by rw [atI_len _ _ _ _ _ _ (by rw [zs_len]; exact OkP Q) HD1.out.op, zs_len]
    obtain ⟨im, him⟩ : ∃ im, atI (zs 768) (Q.map opP) n K T (cb : Int) = im := ⟨_, rfl⟩
    rw [him] at R2 hal
    have BW2 := hid (BW1.out.trans (B2.out.mono BW1.out.size))
    have HD2 := hid (HD1.out.below B2.out)
    have hx2 : X.heap.size ≤ w2.heap.size := Nat.le_trans B1.out.size B2.out.size
    clear him HG QG HW2 BD B1 B2 HD1 HF1 HK1 HQ1 HK BW1 hX hW e0 e1 e2 fz2 HbA BX HQX
    have HI := hid (image_any X.heap.size d f s cap tail (zs 768) (seenP Q) dv _ w2 HD2.out (by omega))
    go_wp2_with fail
    refine HI.out.mono ?_
    rintro e w3 ⟨⟨wv, rfl, ho⟩, hb3⟩
    have V3 := hid ho.reads
    have I3 := hid (R2.out.below hb3)
    have D3 := hid (HD2.out.below hb3)
    have BW3 := hid (BW2.out.trans (hb3.mono BW2.out.size))
    have F3 := hid (HF.out.below BW3.out)
    have Q3 := hid (HQW.out.below BW3.out)
    have hw03 : 0 < w3.heap.size := Nat.lt_of_lt_of_le hw0 BW3.out.size
    clear ho hb3 HI R2 HD2 BW2
    have HN := hid (new_any iv im 6 w3 I3.out (by omega) (by omega) (by omega))
    rw [show 6 * 128 = 768 from rfl, pad_full im 768 hal, show ((6 : Nat) : Int) = 6 from rfl] at HN
    go_wp2_with fail
    refine HN.out.mono ?_
    rintro e w4 ⟨⟨xd, xf, xs, xcap, xtail, rfl, hx4⟩, hb4⟩
    have X4 := hid hx4
    have C4 := hid hb4
    clear hx4 hb4 HN
    have HI := hid (image_any w3.heap.size xd xf xs xcap xtail im im _ _ w4 X4.out (by omega))
    go_wp2_with fail
    refine HI.out.mono ?_
    rintro e w5 ⟨⟨ov, rfl, ho⟩, hb5⟩
    have O5 := hid ho.reads
    have X5 := hid (X4.out.below hb5)
    have C5 := hid (C4.out.trans (hb5.mono C4.out.size))
    clear ho hb5 HI X4 C4
    have HY := hid (bytes_true ov iv im w5 O5.out (I3.out.below C5.out) (by omega) (by omega))
    go_wp2_with fail
    refine HY.out.mono ?_
    rintro e w6 ⟨rfl, hb6⟩
    have X6 := hid (X5.out.below hb6)
    have C6 := hid (C5.out.trans (hb6.mono C5.out.size))
    clear hb6 HY X5 C5 O5
    have HU := hid (durable_of w3.heap.size xd xf xs xcap xtail im im _ [] w6 (F3.out.below C6.out) X6.out (fun o ho => by cases ho) (by simp) (by omega) (by omega))
    rw [List.length_nil, at_fresh] at HU
    go_wp2_with fail
    refine HU.out.mono ?_
    rintro e w7 ⟨⟨uv, rfl, hu⟩, hb7⟩
    have U7 := hid hu
    have X7 := hid (X6.out.below hb7)
    have C7 := hid (C6.out.trans (hb7.mono C6.out.size))
    clear hu hb7 HU X6 C6
    have HY := hid (bytes_true uv iv im w7 U7.out (I3.out.below C7.out) (by omega) (by omega))
    go_wp2_with fail
    refine HY.out.mono ?_
    rintro e w8 ⟨rfl, hb8⟩
    have X8 := hid (X7.out.below hb8)
    have C8 := hid (C7.out.trans (hb8.mono C7.out.size))
    clear hb8 HY X7 C7 U7
    have HC := hid (count_any w3.heap.size xd xf xs xcap xtail im im _ _ w8 X8.out)
    rw [List.length_nil, show ((0 : Nat) : Int) = 0 from rfl] at HC
    go_wp2_with fail
    refine HC.out.mono ?_
    rintro e wz ⟨rfl, hwz⟩
    have hws := hwz.symm
    clear hwz HC
    subst hws
    have HFu := hid (full_any b w8)
    go_wp2_with fail
    refine HFu.out.mono ?_
    rintro e w9 ⟨⟨g9, rfl, hr9⟩, hb9⟩
    have R9 := hid hr9
    have X9 := hid (X8.out.below hb9)
    have C9 := hid (C8.out.trans (hb9.mono C8.out.size))
    clear hr9 hb9 HFu X8 C8
    have HWr := hid (write_any w3.heap.size xd xf xs xcap 5 xtail im im (one b) _ _ [] w9 (F3.out.below C9.out) X9.out (by simp) R9.out (one_len b) (by omega) rfl C9.out.size hw03)
    rw [List.nil_append, show ((5 : Nat) : Int) = 5 from rfl] at HWr
    go_wp2_with fail
    refine HWr.out.mono ?_
    rintro e w10 ⟨rfl, ⟨xv, hx10⟩, hb10⟩
    have X10 := hid hx10
    have C10 := hid (C9.out.trans hb10)
    clear hx10 hb10 HWr X9 C9 R9
    have hOk : OkO im.length [((5 : Int), one b)] := fun o ho => by
      rw [List.mem_singleton] at ho
      subst ho
      exact .inr ⟨5, rfl, by omega⟩
    have HAt := hid (at_any w3.heap.size xd xf xs xcap 1 xtail im _ xv (.slice none 0 0) [((5 : Int), one b)] [] (-1) 0 w10 (F3.out.below C10.out) X10.out hOk (by simp) (by simp) (by omega) (by omega) (RI.nil w10) (by simp) (by omega) (by omega))
    rw [at_loose im _ (by simp [flO]), show ((1 : Nat) : Int) = 1 from rfl] at HAt
    clear hOk
    go_wp2_with fail
    refine HAt.out.mono ?_
    rintro e w11 ⟨⟨yv, rfl, hy⟩, hb11⟩
    have Y11 := hid hy
    have X11 := hid (X10.out.below hb11)
    have C11 := hid (C10.out.trans (hb11.mono C10.out.size))
    clear hy hb11 HAt X10 C10
    have hspl : im.length = (splice im (5 * 128) (one b)).length := by rw [length_splice _ _ _ (by rw [one_len]; omega)]
    have HR := hid (read_any w3.heap.size xd xf xs xcap 5 xtail im _ xv _ w11 X11.out (by omega) hspl)
    rw [show ((5 : Nat) : Int) = 5 from rfl] at HR
    go_wp2_with fail
    refine HR.out.mono ?_
    rintro e w12 ⟨⟨pv, rfl, ho⟩, hb12⟩
    have P12 := hid (show Reads w12 pv (one b) by
      have h1 := ho.reads
      change Reads w12 pv (sec (splice im (5 * 128) (one b)) 5) at h1
      rw [sec_splice b hal (by omega) (by omega), if_pos rfl] at h1
      exact h1)
    have Y12 := hid (Y11.out.below hb12)
    have X12 := hid (X11.out.below hb12)
    have C12 := hid (C11.out.trans (hb12.mono C11.out.size))
    clear ho hb12 HR X11 C11 Y11 hspl
    have HR := hid (read_any X.heap.size d f s cap 5 tail (zs 768) (seenP Q) dv _ w12 (D3.out.below C12.out) (by rw [zs_len]; omega) (by rw [zs_len, hsl]))
    rw [show ((5 : Nat) : Int) = 5 from rfl] at HR
    go_wp2_with fail
    refine HR.out.mono ?_
    rintro e w13 ⟨⟨rv, rfl, ho⟩, hb13⟩
    have R13 := hid (show Reads w13 rv (one (lst Q 5)) by
      have h1 := ho.reads
      change Reads w13 rv (sec (seenP Q) 5) at h1
      rw [sec_seen 5 (by omega) _ Q rfl] at h1
      exact h1)
    have P13 := hid (P12.out.below hb13)
    have Y13 := hid (Y12.out.below hb13)
    have X13 := hid (X12.out.below hb13)
    have C13 := hid (C12.out.trans (hb13.mono C12.out.size))
    clear ho hb13 HR X12 C12 Y12 P12
    have HY := hid (bytes_true yv iv im w13 Y13.out (I3.out.below C13.out) (by omega) (by omega))
    go_wp2_with fail
    refine HY.out.mono ?_
    rintro e w14 ⟨rfl, hb14⟩
    have P14 := hid (P13.out.below hb14)
    have R14 := hid (R13.out.below hb14)
    have X14 := hid (X13.out.below hb14)
    have C14 := hid (C13.out.trans (hb14.mono C13.out.size))
    clear hb14 HY X13 C13 Y13 P13 R13
    have HA := hid (all_true pv b w14 P14.out)
    go_wp2_with fail
    refine HA.out.mono ?_
    rintro e wz ⟨rfl, hwz⟩
    have hws := hwz.symm
    clear hwz HA
    subst hws
    have HLs := hid (lastOf_any _ Q 5 w14 (Q3.out.below C14.out) (by omega))
    rw [show ((5 : Nat) : Int) = 5 from rfl] at HLs
    go_wp2_with fail
    refine HLs.out.mono ?_
    rintro e wz ⟨rfl, hwz⟩
    have hws := hwz.symm
    clear hwz HLs
    subst hws
    have HA := hid (all_true rv (lst Q 5) w14 R14.out)
    go_wp2_with fail
    refine HA.out.mono ?_
    rintro e wz ⟨rfl, hwz⟩
    have hws := hwz.symm
    clear hwz HA
    subst hws
    have HI := hid (image_any X.heap.size d f s cap tail (zs 768) (seenP Q) dv _ w14 (D3.out.below C14.out) (by omega))
    go_wp2_with fail
    refine HI.out.mono ?_
    rintro e w15 ⟨⟨zv, rfl, ho⟩, hb15⟩
    have Z15 := hid ho.reads
    have X15 := hid (X14.out.below hb15)
    have C15 := hid (C14.out.trans (hb15.mono C14.out.size))
    clear ho hb15 HI X14 C14 P14 R14
    have HY := hid (bytes_true zv wv (seenP Q) w15 Z15.out (V3.out.below C15.out) (by omega) (by omega))
    go_wp2_with fail
    refine HY.out.mono ?_
    rintro e w16 ⟨rfl, hb16⟩
    have X16 := hid (X15.out.below hb16)
    have C16 := hid (C15.out.trans (hb16.mono C15.out.size))
    clear hb16 HY X15 C15 Z15
    have HC := hid (count_any X.heap.size d f s cap tail (zs 768) (seenP Q) dv _ w16 (D3.out.below C16.out))
    rw [List.length_map] at HC
    go_wp2_with fail
    refine HC.out.mono ?_
    rintro e wz ⟨rfl, hwz⟩
    have hws := hwz.symm
    clear hwz HC
    subst hws
    have HC := hid (count_any w3.heap.size xd xf xs xcap xtail im _ xv _ w16 X16.out)
    rw [List.length_singleton, show ((1 : Nat) : Int) = 1 from rfl] at HC
    go_wp2_with fail
    refine HC.out.mono ?_
    rintro e wz ⟨rfl, hwz⟩
    have hws := hwz.symm
    clear hwz HC
    subst hws
    have BF := hid (BW3.out.trans (C16.out.mono BW3.out.size))
    go_wp2
    go_ret
    exact ⟨rfl, BF.out⟩
end Go.Proofs.YtdgkhenejjodaaaDoor
