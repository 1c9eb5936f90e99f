/-
  DiskStays: the law's own walk, out of the contracts.
-/
import Derived.Test.YtdgkhenejjodaaaDoorDkh
import Derived.Test.YtdgkhenejjodaaaDoorLawDBk
namespace Go.Proofs.YtdgkhenejjodaaaDoor
open Go.RowKit
set_option maxRecDepth 100000

set_option maxHeartbeats 16000000 in
theorem dstays_any (v : Value) (P : List Pt) (v2 : Value) (P2 : List Pt) (x : Int) (kv : Value) (K : List Int) (T B : Int) (w : World) (hfl : HasFl w) (hp : PT w v P) (hP : P.length ≤ 9223372036854775807) (hp2 : PT w v2 P2) (hP2 : P2.length ≤ 9223372036854775807)
    (x0 : -9223372036854775808 ≤ x) (x1 : x ≤ 9223372036854775807) (hK : RI w kv K) (hKl : K.length ≤ 9223372036854775807) (b0 : -9223372036854775808 ≤ B) (b1 : B ≤ 9223372036854775807) :
    Calls Tryd.prog 4 #[v, v2, .int .i64 x, .agg #[kv, .int .i64 T, .int .i64 B]] w fun e w' => e = .returned (.bool true) ∧ Below w.heap.size w w' := by
  have hw0 : 0 < w.heap.size := by
    obtain ⟨t, fr, hh⟩ := hfl
    exact (Array.getElem?_eq_some_iff.1 hh).1
  have bA := (Below.refl w.heap.size w).alloc (Nat.le_refl _) (.cells #[kv, .int .i64 T, .int .i64 B] 34)
  have hA := heap_alloc_new w (.cells #[kv, .int .i64 T, .int .i64 B] 34)
  obtain ⟨W, hW⟩ : ∃ W, w.alloc (.cells #[kv, .int .i64 T, .int .i64 B] 34) = W := ⟨_, rfl⟩
  rw [hW] at bA hA
  have hwW : w.heap.size < W.heap.size := (Array.getElem?_eq_some_iff.1 hA).1
  have hB2 := wth_le B 128
  have hX3 := crash_set (B' := (wth B 128 : Int)) hA
  have bX : Below w.heap.size w (W.setCell ⟨w.heap.size, 2, none⟩ (.int .i64 (wth B 128 : Int))) := bA.setCell (Nat.le_refl _) _
  obtain ⟨X, hX⟩ : ∃ X, W.setCell ⟨w.heap.size, 2, none⟩ (.int .i64 (wth B 128 : Int)) = X := ⟨_, rfl⟩
  rw [hX] at hX3 bX
  have hwX : w.heap.size < X.heap.size := World.block_lt_of_cell? X _ hX3.1
  have e0 : W.cell? ⟨w.heap.size, 0, none⟩ = some kv := by rw [cell_of_row W _ 0 _ _ _ hA]; rfl
  have e1 : W.cell? ⟨w.heap.size, 1, none⟩ = some (.int .i64 T) := by rw [cell_of_row W _ 1 _ _ _ hA]; rfl
  have e2 : W.cell? ⟨w.heap.size, 2, none⟩ = some (.int .i64 B) := by rw [cell_of_row W _ 2 _ _ _ hA]; rfl
  have fz2 : W.frozen? ⟨w.heap.size, 2, none⟩ = false := by simp [World.frozen?, hA]
  have HFw := hid (few_at v P w W hp hP)
  have HFw2 := hid (few_at v2 P2 w W hp2 hP2)
  have hM : (P2.take 300).length ≤ 300 := by rw [List.length_take]; omega
  generalize P2.take 300 = M at *
  have hQ : (P.take 300).length ≤ 300 := by rw [List.length_take]; omega
  generalize P.take 300 = Q at *
  have HF := hid hfl
  have HK := hid hK
  have HX3 := hid hX3
  have BX := hid bX
  obtain ⟨vo, vc, rfl, _⟩ := hp
  obtain ⟨vo2, vc2, rfl, _⟩ := hp2
  obtain ⟨ko, kc, rfl, hkc, _⟩ := hK
  have HW1 := hid (within_to B 128 W (by omega) b0 b1)
  rw [show ((128 : Nat) : Int) = 128 from rfl] at HW1
  clear hfl hA hX3 bX
  have HbA := hid bA
  clear bA
  go_enter Tryd.func4, Tryd.ntmps4
  go_wp2_with fail
  refine HFw.out.mono ?_
  rintro e wz ⟨⟨qv, rfl, hq⟩, hwz⟩
  have hws := hwz.symm
  clear hwz HFw
  subst hws
  obtain ⟨qo, qc, rfl, hqc, hqz, hqn⟩ := hq.len
  have HQW := hid hq
  clear hq
  go_wp2_with fail
  refine HFw2.out.mono ?_
  rintro e wz ⟨⟨mv, rfl, hm⟩, hwz⟩
  have hws := hwz.symm
  clear hwz HFw2
  subst hws
  obtain ⟨mo, mc, rfl, hmc, hmz, hmn⟩ := hm.len
  have HMW := hid hm
  clear hm
  go_wp2_with fail
  refine HW1.out.mono ?_
  rintro e wz ⟨rfl, hwz⟩
  have hws := hwz.symm
  clear hwz HW1
  subst hws
  go_wp2_with fail
  have HQX := hid (HQW.out.below BX.out)
  have HL := hid (laid_any _ Q X (HF.out.below BX.out) HQX.out (by omega) (by omega))
  refine HL.out.mono ?_
  rintro e w1 ⟨⟨d, f, s, cap, tail, dv, rfl, hdk⟩, hb1⟩
  have HD1 := hid hdk
  have B1 := hid hb1
  clear hdk hb1 HL
  obtain ⟨n, hn⟩ : ∃ n, wth x Q.length = n := ⟨_, rfl⟩
  have hnq : n ≤ Q.length := by rw [← hn]; exact wth_le _ _
  have HW2 := hid (fun w => within_to x Q.length w (by omega) x0 x1)
  rw [hn] at HW2
  obtain ⟨cb, hcb⟩ : ∃ cb, wth B 128 = cb := ⟨_, rfl⟩
  rw [hcb] at HX3 hB2
  -- what stands since X
  have HCr := hid (show ∀ w', Below X.heap.size X w' → w'.cell? ⟨w.heap.size, 0, none⟩ = some (.slice ko K.length kc) ∧ w'.cell? ⟨w.heap.size, 1, none⟩ = some (.int .i64 T) ∧ w'.cell? ⟨w.heap.size, 2, none⟩ = some (.int .i64 (cb : Int)) from fun w' hb => ⟨(hb.cell (p := ⟨w.heap.size, 0, none⟩) hwX).trans HX3.out.1, (hb.cell (p := ⟨w.heap.size, 1, none⟩) hwX).trans HX3.out.2.1, (hb.cell (p := ⟨w.heap.size, 2, none⟩) hwX).trans HX3.out.2.2⟩)
  have HSt := hid (show ∀ w', Below X.heap.size X w' → Below w.heap.size w w' from fun w' hb => BX.out.trans (hb.mono (Nat.le_of_lt hwX)))
  clear hX hW e0 e1 e2 fz2 HbA hcb hn HX3 BX HQX
  go_wp2_with fail
  refine (HW2.out _).mono ?_
  rintro e wz ⟨rfl, hwz⟩
  have hws := hwz.symm
  clear hwz HW2
  subst hws
  obtain ⟨g0, g1, g2⟩ := HCr.out w1 B1.out
  have HOk := hid (show OkO (zs 768).length (Q.map opP) by rw [zs_len]; exact OkP Q)
  have hsl := seenP_len Q
  have hal : (atI (zs 768) (Q.map opP) n K T (cb : Int)).length = 768 := by rw [atI_len _ _ _ _ _ _ HOk.out HD1.out.op, zs_len]
  have HA1 := hid (at_row X.heap.size d f s cap n tail (zs 768) (seenP Q) dv _ (Q.map opP) K T (cb : Int) w1 (HF.out.below (HSt.out _ B1.out)) HD1.out HOk.out (by rw [List.length_map]; exact hnq) (by rw [List.length_map]; omega) (by rw [zs_len]; omega) (by rw [zs_len]; omega) (HK.out.below (HSt.out _ B1.out)) hKl (by omega) (by omega))
  obtain ⟨im, him⟩ : ∃ im, atI (zs 768) (Q.map opP) n K T (cb : Int) = im := ⟨_, rfl⟩
  rw [him] at HA1 hal
  have HIm := hid him
  clear him
  rw [hal] at HA1
  go_wp2_with fail
  refine HA1.out.mono ?_
  rintro e w2 ⟨⟨ag, ac, rfl, hag, hac, atl, harow⟩, hb2⟩
  have hs1 : s < w1.heap.size := (Array.getElem?_eq_some_iff.1 HD1.out.seen).1
  have AR2 := hid harow
  have HD2 := hid (HD1.out.below hb2)
  have B2 := hid (B1.out.trans (hb2.mono B1.out.size))
  clear harow hb2 HA1 HD1 B1 g0 g1 g2
  obtain ⟨m, hm⟩ : ∃ m, Q.length - bar Q Q.length = m := ⟨_, rfl⟩
  have hm3 : m ≤ 300 := by omega
  obtain ⟨j0, hj0, hy0, hy1, hy2⟩ := info_parts intinfo
  go_wp2_with fail
  go_loopw [12, 13] (fun v i wx => ∃ k : Nat, k ≤ m ∧ i = .int .i64 (k : Int) ∧ wx.ownsRow w2.heap.size 3 1 v k (ic (upI k)) ∧ Below w2.heap.size w2 wx) (fun _ i _ => m - (intOf i).toNat)
  case atStart => exact ⟨0, by omega, rfl, World.ownsRow_nil _ _ _ _, Below.refl _ _⟩
  case round =>
    obtain ⟨k, hk, rfl, how, hb⟩ := hrel
    have HOw := hid how
    have HB := hid hb
    clear how hb
    have HPe := hid (pending_any X.heap.size d f s cap tail (zs 768) (seenP Q) dv _ wr (HF.out.below (HSt.out _ (B2.out.trans (HB.out.mono B2.out.size)))) (HD2.out.below HB.out) HOk.out (by rw [List.length_map]; omega))
    rw [List.length_map, brr_is, hm] at HPe
    go_wp2_with fail
    refine HPe.out.mono ?_
    rintro e w3 ⟨⟨pg, rfl⟩, hb3⟩
    have O3 := hid (World.ownsRow.kept HOw.out (gb_of (row := none) hb3) (Classical.em _))
    have B3 := hid (HB.out.trans (hb3.mono HB.out.size))
    clear hb3 HPe
    by_cases hlt : k < m
    · have hI : (k : Int) < (m : Int) := by omega
      have hsz3 := B3.out.size
      go_wp2_with (at_builtin; refine wpList_append_own _ rfl _ _ 23 rfl w2.heap.size 3 j0 (.int .i64 0) 1 8 Tryd.underlying23 hj0 hy0 hy1 hy2 rfl (by decide) _ _ _ rfl (World.ownsRow.alloc O3.out _) ⟨w3.heap.size, 0, none⟩ 1 1 [.int .i64 (k : Int)] rfl rfl ?c1 ?c2 ?c3 ?c4 ?c5 ?c6)
      case c1 =>
        intro j u hj
        match j, hj with
        | 0, hj => simp at hj; subst hj; simp [Addr.add]
      case c2 => intro u hu; simp at hu; subst hu; rfl
      case c3 => unfold maxLen; omega
      case c4 => omega
      case c5 => simp; omega
      case c6 =>
        intro v' w4 hown' hgrow _
        have O4 := hid (show w4.ownsRow w2.heap.size 3 1 v' (k + 1) (ic (upI (k + 1))) by
          rw [upI_snoc]
          simpa [ic] using hown')
        have B4 := hid ((B3.out.alloc hsz3 _).grown hgrow (by simp; omega) (fun k hk => (World.ownsRow.lt O3.out k hk).1))
        clear hown' hgrow
        go_wp2
        go_roundw
        case rel => exact ⟨k + 1, by omega, by go_num, O4.out, B4.out⟩
        case measure => simp [intOf]; omega
    · have hI : ¬ (k : Int) < (m : Int) := by omega
      obtain rfl : k = m := by omega
      obtain ⟨hri, eo, ec, rfl⟩ := own_ints O3.out
      have RI3 := hid hri
      have HAll := hid (show atI (zs 768) (Q.map opP) Q.length (upI k) (-1) 0 = seenP Q by rw [← hm]; exact at_all Q)
      have hag2 : ag < w2.heap.size := (Array.getElem?_eq_some_iff.1 AR2.out).1
      have AR3 := hid ((B3.out.block ag hag2).trans AR2.out)
      have HD3 := hid (HD2.out.below B3.out)
      have BX3 := hid (B2.out.trans (B3.out.mono B2.out.size))
      clear hri O3 HOw HB AR2 HD2 B2 B3 hag2
      have HC := hid (count_any X.heap.size d f s cap tail (zs 768) (seenP Q) dv _ w3 HD3.out)
      rw [List.length_map] at HC
      have HA := hid (at_any X.heap.size d f s cap Q.length tail (zs 768) (seenP Q) dv (.slice eo k ec) (Q.map opP) (upI k) (-1) 0 w3 (HF.out.below (HSt.out _ BX3.out)) HD3.out HOk.out (by rw [List.length_map]; omega) (by rw [List.length_map]; omega) (by rw [zs_len]; omega) (by rw [zs_len]; omega) RI3.out (by rw [upI_len]; omega) (by omega) (by omega))
      rw [HAll.out] at HA
      go_wp2_with fail
      refine HC.out.mono ?_
      rintro e wz ⟨rfl, hwz⟩
      have hws := hwz.symm
      clear hwz HC
      subst hws
      go_wp2_with fail
      refine HA.out.mono ?_
      rintro e w4 ⟨⟨xv, rfl, hx⟩, hb4⟩
      have X4 := hid hx
      have HD4 := hid (HD3.out.below hb4)
      have C4 := hid hb4
      clear hx hb4 HA RI3 HAll
      have HC := hid (count_any X.heap.size d f s cap tail (zs 768) (seenP Q) dv _ w4 HD4.out)
      rw [List.length_map] at HC
      have HA := hid (at_any X.heap.size d f s cap Q.length tail (zs 768) (seenP Q) dv (.slice none 0 0) (Q.map opP) [] (-1) 0 w4 (HF.out.below (HSt.out _ (BX3.out.trans (C4.out.mono BX3.out.size)))) HD4.out HOk.out (by rw [List.length_map]; omega) (by rw [List.length_map]; omega) (by rw [zs_len]; omega) (by rw [zs_len]; omega) (RI.nil w4) (by simp) (by omega) (by omega))
      rw [at_durable] at HA
      go_wp2_with fail
      refine HC.out.mono ?_
      rintro e wz ⟨rfl, hwz⟩
      have hws := hwz.symm
      clear hwz HC
      subst hws
      go_wp2_with fail
      refine HA.out.mono ?_
      rintro e w5 ⟨⟨yv, rfl, hy⟩, hb5⟩
      have Y5 := hid hy
      have X5 := hid (X4.out.below hb5)
      have HD5 := hid (HD4.out.below hb5)
      have C5 := hid (C4.out.trans (hb5.mono C4.out.size))
      clear hy hb5 HA X4 HD4 C4
      have HI := hid (image_any X.heap.size d f s cap tail (zs 768) (seenP Q) dv _ w5 HD5.out (by omega))
      go_wp2_with fail
      refine HI.out.mono ?_
      rintro e w6 ⟨⟨ov, rfl, ho⟩, hb6⟩
      have O6 := hid ho.reads
      have Y6 := hid (Y5.out.below hb6)
      have X6 := hid (X5.out.below hb6)
      have HD6 := hid (HD5.out.below hb6)
      have C6 := hid (C5.out.trans (hb6.mono C5.out.size))
      clear ho hb6 HI X5 Y5 HD5 C5
      have HY := hid (bytes_true xv ov (seenP Q) w6 X6.out O6.out (by omega) (by omega))
      go_wp2_with fail
      refine HY.out.mono ?_
      rintro e w7 ⟨rfl, hb7⟩
      have Y7 := hid (Y6.out.below hb7)
      have HD7 := hid (HD6.out.below hb7)
      have C7 := hid (C6.out.trans (hb7.mono C6.out.size))
      clear hb7 HY O6 X6 Y6 HD6 C6
      have HU := hid (durable_any X.heap.size d f s cap tail (seenP Q) dv Q w7 (HF.out.below (HSt.out _ (BX3.out.trans (C7.out.mono BX3.out.size)))) HD7.out (by omega))
      go_wp2_with fail
      refine HU.out.mono ?_
      rintro e w8 ⟨⟨uv, rfl, hu⟩, hb8⟩
      have U8 := hid hu
      have Y8 := hid (Y7.out.below hb8)
      have HD8 := hid (HD7.out.below hb8)
      have C8 := hid (C7.out.trans (hb8.mono C7.out.size))
      clear hu hb8 HU Y7 HD7 C7
      have hdl := seenP_len (Q.take (bar Q Q.length))
      have HY := hid (bytes_true yv uv _ w8 Y8.out U8.out (by omega) (by omega))
      go_wp2_with fail
      refine HY.out.mono ?_
      rintro e w9 ⟨rfl, hb9⟩
      have HD9 := hid (HD8.out.below hb9)
      have C9 := hid (C8.out.trans (hb9.mono C8.out.size))
      clear hb9 HY U8 Y8 HD8 C8 hdl
      have AR9 := hid ((C9.out.block ag (Array.getElem?_eq_some_iff.1 AR3.out).1).trans AR3.out)
      have B9 := hid (BX3.out.trans (C9.out.mono BX3.out.size))
      clear AR3 BX3 HD3 C9
      have hags : ag ≠ s := by omega
      obtain ⟨_, _, hmv, _, _, hmcell⟩ := HMW.out
      cases hmv
      have HMC := hid hmcell
      clear hmcell
      have hw0X : 0 < X.heap.size := Nat.lt_trans hw0 hwX
      go_wp2_with fail
      go_loopw [18] (fun i wx => ∃ k : Nat, k ≤ M.length ∧ i = .int .i64 (k : Int) ∧ (∃ dv, DK wx X.heap.size d f s cap tail (zs 768) (seenP (Q ++ M.take k)) dv ((Q ++ M.take k).map opP)) ∧ wx.heap[ag]? = some (.cells (bc im ++ atl).toArray 5 (0, 0)) ∧ Below X.heap.size X wx) (fun i _ => M.length - (intOf i).toNat)
      case atStart => exact ⟨0, by omega, rfl, ⟨dv, by simpa using HD9.out⟩, AR9.out, B9.out⟩
      case round =>
        obtain ⟨k2, hk2, rfl, ⟨dv2, hdk⟩, har, hb⟩ := hrel
        have HDk := hid hdk
        have HAR := hid har
        have HB := hid hb
        have hws := hb.size
        clear hdk hb har
        by_cases hlt2 : k2 < M.length
        · have hI2 : (k2 : Int) < (M.length : Int) := by omega
          obtain ⟨⟨y0, y1⟩, g, off, hao, p0, p1, p2⟩ := HMC.out k2 hlt2
          subst hao
          have HGB := hid (Nat.lt_trans (World.block_lt_of_cell? w _ p0) hwX)
          have hbw := HSt.out _ HB.out
          have p0 := below_cells hbw _ _ p0
          have p1 := below_cells hbw _ _ p1
          have p2 := below_cells hbw _ _ p2
          clear hbw
          have HTk := hid (show Q ++ M.take (k2 + 1) = (Q ++ M.take k2) ++ [M[k2]] by rw [List.take_add_one, List.getElem?_eq_getElem hlt2, List.append_assoc]; rfl)
          obtain ⟨y, hy⟩ : ∃ y, M[k2] = y := ⟨_, rfl⟩
          rw [hy] at p0 p1 p2 y0 y1 HTk
          obtain ⟨z, b, fl⟩ := y
          simp only at p0 p1 p2 y0 y1
          have HS1 := hid (show seenP (Q ++ M.take (k2 + 1)) = putS (seenP (Q ++ M.take k2)) (z, b, fl) by rw [HTk.out, seenP_snoc])
          have HM1 := hid (show (Q ++ M.take (k2 + 1)).map opP = (Q ++ M.take k2).map opP ++ [opP (z, b, fl)] by rw [HTk.out]; simp)
          have hml : ((Q ++ M.take k2).map opP).length < 65536 := by rw [List.length_map, List.length_append, List.length_take]; omega
          have HFr := hid (HF.out.below (HSt.out _ HB.out))
          have hsl2 := seenP_len (Q ++ M.take k2)
          clear hy
          cases fl with
          | true =>
            have HFl := hid (flush_k X.heap.size d f s cap tail (zs 768) (seenP (Q ++ M.take k2)) dv2 _ wr HFr.out HDk.out hml hws hw0X)
            go_wp2_with fail
            refine HFl.out.mono ?_
            rintro e w10 ⟨rfl, ⟨dv3, h3⟩, b3, ku⟩
            have H3 := hid (show DK w10 X.heap.size d f s cap tail (zs 768) (seenP (Q ++ M.take (k2 + 1))) dv3 ((Q ++ M.take (k2 + 1)).map opP) by rw [HS1.out, HM1.out]; exact h3)
            have B3 := hid (HB.out.trans b3)
            have A3 := hid (ku _ _ _ hags HAR.out)
            clear h3 b3 HFl ku
            go_wp2
            go_roundw
            case rel => exact ⟨k2 + 1, by omega, by go_num, ⟨_, H3.out⟩, A3.out, B3.out⟩
            case measure => simp [intOf]; omega
          | false =>
            have hxl := sct_lt z
            have HWi := hid (fun w => within_any z w y0 y1)
            have BD := hid ((Below.refl wr.heap.size wr).drew)
            have HP0 := hid p0
            have HP1 := hid p1
            go_wp2_with fail
            go_region_held3 (fun w' => w'.cell? ⟨g, off + k2 * 3, none⟩ = some (.int .i64 z) ∧ w'.cell? ⟨g, off + k2 * 3 + 1, none⟩ = some (.int .u8 (b.toNat : Int))) (first | exact ⟨HP0.out, HP1.out⟩ | exact ⟨Q0.out, Q1.out⟩ | exact ⟨QA.out, QB.out⟩) (first
              | (go_at_call 11; refine (HWi.out _).mono ?_; rintro e w' ⟨rfl, rfl⟩)
              | (go_at_call 23; refine (full_any b wr.drew).mono ?_; rintro e w4 ⟨⟨g4, rfl, hr4⟩, hb4⟩; have R4 := hid hr4; have B4 := hid (BD.out.trans hb4); have Q0 := hid (below_cells B4.out _ _ HP0.out); have Q1 := hid (below_cells B4.out _ _ HP1.out); clear hr4 hb4)
              | (go_at_call 22; refine (write_k X.heap.size d f s cap (sct z) tail (zs 768) (seenP (Q ++ M.take k2)) (one b) dv2 _ _ w4 (HFr.out.below B4.out) (HDk.out.below B4.out) hml R4.out (one_len b) (by rw [zs_len]; omega) (by rw [zs_len, hsl2]) (Nat.le_trans hws B4.out.size) hw0X).mono ?_; rintro e w5 ⟨rfl, ⟨dv5, h5⟩, b5, ku5⟩; have H5 := hid h5; have B5 := hid b5; have K5 := hid ku5; have QA := hid ((b5.cell (p := ⟨g, off + k2 * 3, none⟩) HGB.out).trans Q0.out); have QB := hid ((b5.cell (p := ⟨g, off + k2 * 3 + 1, none⟩) HGB.out).trans Q1.out); clear h5 b5 ku5))
            all_goals
              have H3 := hid (show DK w5 X.heap.size d f s cap tail (zs 768) (seenP (Q ++ M.take (k2 + 1))) dv5 ((Q ++ M.take (k2 + 1)).map opP) by rw [HS1.out, HM1.out]; exact H5.out)
              have B3 := hid ((HB.out.trans (B4.out.mono hws)).trans B5.out)
              have A3 := hid (K5.out _ _ _ hags ((B4.out.block ag (Array.getElem?_eq_some_iff.1 HAR.out).1).trans HAR.out))
              clear H5 B4 B5 R4 K5
              go_wp2
              go_roundw
              case rel => exact ⟨k2 + 1, by omega, by go_num, ⟨_, H3.out⟩, A3.out, B3.out⟩
              case measure => simp [intOf]; omega
        · have hI2 : ¬ (k2 : Int) < (M.length : Int) := by omega
          rw [List.take_of_length_le (by omega)] at HDk
          clear AR9 B9 HD9 HMC
          obtain ⟨g0, g1, g2⟩ := HCr.out wr HB.out
          have HOkR := hid (show OkO (zs 768).length ((Q ++ M).map opP) by rw [zs_len]; exact OkP _)
          have hRl : (Q ++ M).length ≤ 600 := by rw [List.length_append]; omega
          have hnR : n ≤ (Q ++ M).length := by rw [List.length_append]; omega
          have HA := hid (at_row X.heap.size d f s cap n tail (zs 768) (seenP (Q ++ M)) dv2 _ ((Q ++ M).map opP) K T (cb : Int) wr (HF.out.below (HSt.out _ HB.out)) HDk.out HOkR.out (by rw [List.length_map]; exact hnR) (by rw [List.length_map]; omega) (by rw [zs_len]; omega) (by rw [zs_len]; omega) (HK.out.below (HSt.out _ HB.out)) hKl (by omega) (by omega))
          rw [show atI (zs 768) ((Q ++ M).map opP) n K T (cb : Int) = im by rw [List.map_append, at_app _ _ _ _ _ _ _ (by rw [List.length_map]; exact hnq), HIm.out], hal] at HA
          go_wp2_with fail
          refine HA.out.mono ?_
          rintro e wA ⟨⟨bg, bk, rfl, hbg, hbk, btl, hbrow⟩, hbA⟩
          have hsr : s < wr.heap.size := (Array.getElem?_eq_some_iff.1 HDk.out.seen).1
          have hbgs : bg ≠ s := by omega
          have BR := hid hbrow
          have AR := hid ((hbA.block ag (Array.getElem?_eq_some_iff.1 HAR.out).1).trans HAR.out)
          have HDA := hid (HDk.out.below hbA)
          have BA := hid (HB.out.trans (hbA.mono HB.out.size))
          clear hbrow hbA HA g0 g1 g2 HDk HAR HB HIm
          have HFl := hid (flush_k X.heap.size d f s cap tail (zs 768) (seenP (Q ++ M)) dv2 _ wA (HF.out.below (HSt.out _ BA.out)) HDA.out (by rw [List.length_map]; omega) BA.out.size hw0X)
          rw [← map_fl, ← seen_fl] at HFl
          have hbar := bar_fl (Q ++ M)
          have hatf := at_flushed (Q ++ M) K T (cb : Int)
          have hRl2 : (Q ++ M ++ [((0 : Int), (0 : UInt8), true)]).length ≤ 601 := by rw [List.length_append, List.length_singleton]; omega
          have HSR := hid (seen_fl (Q ++ M))
          generalize Q ++ M ++ [((0 : Int), (0 : UInt8), true)] = R at *
          have hRs := seenP_len R
          go_wp2_with fail
          refine HFl.out.mono ?_
          rintro e wB ⟨rfl, ⟨dv3, h3⟩, b3, ku⟩
          have HDB := hid h3
          have BB := hid (BA.out.trans b3)
          have BR2 := hid (ku _ _ _ hbgs BR.out)
          have AR2 := hid (ku _ _ _ hags AR.out)
          clear h3 b3 ku HFl BR AR HDA BA
          have HG := hid (HCr.out wB BB.out)
          have HFB := hid (HF.out.below (HSt.out _ BB.out))
          have HKB := hid (HK.out.below (HSt.out _ BB.out))
          have BD := hid ((Below.refl wB.heap.size wB).drew)
          have HCt := hid (fun w' (hb : Below wB.heap.size wB w') => count_any X.heap.size d f s cap tail (zs 768) (seenP R) dv3 _ w' (HDB.out.below hb))
          rw [List.length_map] at HCt
          have HOkR2 := hid (show OkO (zs 768).length (R.map opP) by rw [zs_len]; exact OkP _)
          go_wp2_with fail
          go_region_held3 (fun w' => w'.cell? ⟨w.heap.size, 0, none⟩ = some (.slice ko K.length kc) ∧ w'.cell? ⟨w.heap.size, 1, none⟩ = some (.int .i64 T) ∧ w'.cell? ⟨w.heap.size, 2, none⟩ = some (.int .i64 (cb : Int))) (first | exact HG.out | exact QG.out) (first
            | (go_at_call 17; refine (HCt.out _ BD.out).mono ?_; rintro e w' ⟨rfl, rfl⟩)
            | (go_at_call 13; refine (at_any X.heap.size d f s cap R.length tail (zs 768) (seenP R) dv3 _ (R.map opP) K T (cb : Int) wB.drew (HFB.out.below BD.out) (HDB.out.below BD.out) HOkR2.out (by rw [List.length_map]; omega) (by rw [List.length_map]; omega) (by rw [zs_len]; omega) (by rw [zs_len]; omega) (HKB.out.below BD.out) hKl (by omega) (by omega)).mono ?_; rintro e wC ⟨⟨zv, rfl, hr2⟩, hb2⟩; have ZC := hid hr2; have BC := hid (BD.out.trans hb2); have QG := hid (And.intro (below_cells BC.out _ _ HG.out.1) (And.intro (below_cells BC.out _ _ HG.out.2.1) (below_cells BC.out _ _ HG.out.2.2))); clear hr2 hb2))
          all_goals
            rw [hatf] at ZC
            have HDC := hid (HDB.out.below BC.out)
            have RA := hid (readsT (cap := ac) ((BC.out.block ag (Array.getElem?_eq_some_iff.1 AR2.out).1).trans AR2.out) (by omega))
            have RB := hid (readsT (cap := bk) ((BC.out.block bg (Array.getElem?_eq_some_iff.1 BR2.out).1).trans BR2.out) (by omega))
            rw [hal] at RA RB
            have BXC := hid (BB.out.trans (BC.out.mono BB.out.size))
            clear HG QG HCt BD HDB BC AR2 BR2 HKB HFB BB
            have HY := hid (bytes_true _ _ im wC RA.out RB.out (by omega) (by omega))
            go_wp2_with fail
            refine HY.out.mono ?_
            rintro e wD ⟨rfl, hbD⟩
            have ZD := hid (ZC.out.below hbD)
            have HDD := hid (HDC.out.below hbD)
            have BXD := hid (BXC.out.trans (hbD.mono BXC.out.size))
            clear hbD HY RA RB ZC HDC BXC
            have HI := hid (image_any X.heap.size d f s cap tail (zs 768) (seenP R) dv3 _ wD HDD.out (by omega))
            go_wp2_with fail
            refine HI.out.mono ?_
            rintro e wE ⟨⟨ov, rfl, ho⟩, hbE⟩
            have OE := hid ho.reads
            have ZE := hid (ZD.out.below hbE)
            have HDE := hid (HDD.out.below hbE)
            have BXE := hid (BXD.out.trans (hbE.mono BXD.out.size))
            clear ho hbE HI ZD HDD BXD
            have HY := hid (bytes_true zv ov (seenP R) wE ZE.out OE.out (by omega) (by omega))
            go_wp2_with fail
            refine HY.out.mono ?_
            rintro e wG ⟨rfl, hbG⟩
            have ZG := hid (ZE.out.below hbG)
            have HDG := hid (HDE.out.below hbG)
            have BXG := hid (BXE.out.trans (hbG.mono BXE.out.size))
            clear hbG HY OE ZE HDE BXE
            have HU := hid (durable_any X.heap.size d f s cap tail (seenP R) dv3 R wG (HF.out.below (HSt.out _ BXG.out)) HDG.out (by omega))
            rw [hbar, List.take_length] at HU
            go_wp2_with fail
            refine HU.out.mono ?_
            rintro e wH ⟨⟨uv, rfl, hu⟩, hbH⟩
            have UH := hid hu
            have ZH := hid (ZG.out.below hbH)
            have HDH := hid (HDG.out.below hbH)
            have BXH := hid (BXG.out.trans (hbH.mono BXG.out.size))
            clear hu hbH HU ZG HDG BXG
            have HY := hid (bytes_true zv uv (seenP R) wH ZH.out UH.out (by omega) (by omega))
            go_wp2_with fail
            refine HY.out.mono ?_
            rintro e wI ⟨rfl, hbI⟩
            have HDI := hid (HDH.out.below hbI)
            have BXI := hid (BXH.out.trans (hbI.mono BXH.out.size))
            clear hbI HY UH ZH HDH BXH
            have HPe := hid (pending_any X.heap.size d f s cap tail (zs 768) (seenP R) dv3 _ wI (HF.out.below (HSt.out _ BXI.out)) HDI.out HOkR2.out (by rw [List.length_map]; omega))
            rw [List.length_map, brr_is, hbar, Nat.sub_self] at HPe
            go_wp2_with fail
            refine HPe.out.mono ?_
            rintro e wJ ⟨⟨pg2, rfl⟩, hbJ⟩
            have BF := hid (HSt.out _ (BXI.out.trans (hbJ.mono BXI.out.size)))
            clear hbJ HPe
            go_wp2
            go_ret
            exact ⟨rfl, BF.out⟩
end Go.Proofs.YtdgkhenejjodaaaDoor
