/-
  DiskSubset: the law's own walk, out of the contracts.
-/
import Derived.Test.YtdgkhenejjodaaaDoorDki
import Derived.Test.YtdgkhenejjodaaaDoorLawDSe
namespace Go.Proofs.YtdgkhenejjodaaaDoor
open Go.RowKit
set_option maxRecDepth 100000

/-- the law's own list of what is kept -/
def ownF (k n : Nat) (L : List Int) : List Int := if k < n then L.map (fun z => (wth z (n - k - 1) : Int)) else []
theorem ownF_pos {k n : Nat} (h : k < n) (L : List Int) (z : Int) : ownF k n (L ++ [z]) = ownF k n L ++ [(wth z (n - k - 1) : Int)] := by simp [ownF, h]
theorem ownF_neg {k n : Nat} (h : ¬ k < n) (L L' : List Int) : ownF k n L = ownF k n L' := by simp [ownF, h]
theorem ownF_le {k n : Nat} (L : List Int) : (ownF k n L).length ≤ L.length := by unfold ownF; split <;> simp
set_option maxHeartbeats 16000000 in
theorem dsub_any (v : Value) (P : List Pt) (x : Int) (kv : Value) (K : List Int) (tn hf : Int) (w : World) (hfl : HasFl w) (hp : PT w v P) (hP : P.length ≤ 9223372036854775807)
    (x0 : -9223372036854775808 ≤ x) (x1 : x ≤ 9223372036854775807) (hK : RI w kv K) (hKb : ∀ z ∈ K, -9223372036854775808 ≤ z ∧ z ≤ 9223372036854775807) (hKl : K.length * 8 ≤ 140737488351232)
    (t0 : -9223372036854775808 ≤ tn) (t1 : tn ≤ 9223372036854775807) (f0 : -9223372036854775808 ≤ hf) (f1 : hf ≤ 9223372036854775807) :
    Calls Tryd.prog 3 #[v, .int .i64 x, kv, .int .i64 tn, .int .i64 hf] w fun e w' => e = .returned (.bool true) ∧ Below w.heap.size w w' := by
  have hw0 : 0 < w.heap.size := by
    obtain ⟨t, fr, hh⟩ := hfl
    exact (Array.getElem?_eq_some_iff.1 hh).1
  have HFw := hid (few_any v P w hp hP)
  have hQ : (P.take 300).length ≤ 300 := by rw [List.length_take]; omega
  generalize P.take 300 = Q at *
  have HF := hid hfl
  have HK := hid hK
  have HKb := hid hKb
  obtain ⟨vo, vc, rfl, _⟩ := hp
  obtain ⟨ko, kc, rfl, hkc, hkcell⟩ := hK
  have HKC := hid hkcell
  clear hfl hKb hkcell
  go_enter Tryd.func3, Tryd.ntmps3
  go_wp2_with fail
  refine HFw.out.mono ?_
  rintro e wz ⟨⟨qv, rfl, hq⟩, hwz⟩
  have hws := hwz.symm
  clear hwz HFw
  subst hws
  have HQ := hid hq
  obtain ⟨qo, qc, rfl, hqc, hqz, hqn⟩ := hq.len
  obtain ⟨_, _, hqv, hl1, hl2, hqcell⟩ := hq
  cases hqv
  have HQC := hid hqcell
  clear hqcell hl1 hl2
  have HL := hid (laid_any _ Q w HF.out HQ.out (by omega) hw0)
  go_wp2_with fail
  refine HL.out.mono ?_
  rintro e w1 ⟨⟨d, f, s, cap, tail, dv, rfl, hdk⟩, hb1⟩
  have HD1 := hid hdk
  have B1 := hid hb1
  clear hdk hb1 HL
  obtain ⟨n, hn⟩ : ∃ n, wth x Q.length = n := ⟨_, rfl⟩
  have hnq : n ≤ Q.length := by rw [← hn]; exact wth_le _ _
  have HW2 := hid (within_to x Q.length w1 (by omega) x0 x1)
  rw [hn] at HW2
  go_wp2_with fail
  refine HW2.out.mono ?_
  rintro e wz ⟨rfl, hwz⟩
  have hws := hwz.symm
  clear hwz HW2 hn
  subst hws
  have HBa := hid (barrier_any _ (Q.take n) w1 ((HQ.out.below B1.out).take n hnq) (by rw [List.length_take]; omega))
  rw [show (Q.take n).length = n by rw [List.length_take]; omega, bar_take Q n n (Nat.le_refl _)] at HBa
  have hbl := bar_le Q n
  obtain ⟨kk, hkk⟩ : ∃ kk, bar Q n = kk := ⟨_, rfl⟩
  rw [hkk] at HBa hbl
  have hnc : n ≤ qc := by omega
  have hnI : (n : Int) ≤ (qc : Int) := by omega
  have hkI : (kk : Int) ≤ (qc : Int) := by omega
  have HQk := hid (HQ.out.take kk (by omega))
  have hh1 := wth_le hf 128
  have HWh := hid (within_to hf 128 w1 (by omega) f0 f1)
  rw [show ((128 : Nat) : Int) = 128 from rfl] at HWh
  obtain ⟨hh, hhe⟩ : ∃ hh, wth hf 128 = hh := ⟨_, rfl⟩
  rw [hhe] at HWh hh1
  obtain ⟨j0, hj0, hy0, hy1, hy2⟩ := info_parts intinfo
  have HQZ := hid hqz
  clear hhe hqz hqn
  rcases qo with _ | qa
  all_goals
    go_wp2_with fail
    refine HBa.out.mono ?_
    rintro e wz ⟨rfl, hwz⟩
    have hws := hwz.symm
    clear hwz HBa
    subst hws
    go_wp2_with fail
    refine HWh.out.mono ?_
    rintro e wz ⟨rfl, hwz⟩
    have hws := hwz.symm
    clear hwz HWh
    subst hws
    go_wp2_with fail
    go_loopw [13, 14] (fun v i wx => ∃ c : Nat, c ≤ K.length ∧ i = .int .i64 (c : Int) ∧ wx.ownsRow w1.heap.size 3 1 v (ownF kk n (K.take c)).length (ic (ownF kk n (K.take c))) ∧ Below w1.heap.size w1 wx) (fun _ i _ => K.length - (intOf i).toNat)
    case atStart =>
      refine ⟨0, by omega, rfl, ?_, Below.refl _ _⟩
      have : ownF kk n (K.take 0) = [] := by unfold ownF; simp
      rw [this]
      exact World.ownsRow_nil _ _ _ _
    case round =>
      obtain ⟨c, hc, rfl, how, hb⟩ := hrel
      have HOw := hid how
      have HB := hid hb
      clear how hb
      by_cases hlt : c < K.length
      · have hI : (c : Int) < (K.length : Int) := by omega
        have HTk := hid (show K.take (c + 1) = K.take c ++ [K[c]] by rw [List.take_add_one, List.getElem?_eq_getElem hlt]; rfl)
        by_cases hnk : kk < n
        · have hI2 : (kk : Int) < (n : Int) := by omega
          obtain ⟨g, off, hao, p0⟩ := HKC.out c hlt
          subst hao
          have p0 := below_cells (B1.out.trans (HB.out.mono B1.out.size)) _ _ p0
          obtain ⟨z0, z1⟩ := HKb.out K[c] (List.getElem_mem hlt)
          have hol := ownF_le (k := kk) (n := n) (K.take c)
          rw [List.length_take] at hol
          have hwl := wth_le K[c] (n - kk - 1)
          have HWi := hid (within_to K[c] (n - kk - 1) wr (by omega) z0 z1)
          rw [show ((n - kk - 1 : Nat) : Int) = (n : Int) - (kk : Int) - 1 by omega] at HWi
          have hOwl : (ownF kk n (K.take (c + 1))).length = (ownF kk n (K.take c)).length + 1 := by rw [HTk.out, ownF_pos hnk]; simp
          have HO1 := hid (show ic (ownF kk n (K.take (c + 1))) = ic (ownF kk n (K.take c)) ++ [.int .i64 (wth K[c] (n - kk - 1) : Int)] by rw [HTk.out, ownF_pos hnk]; simp [ic])
          have hsz3 := HB.out.size
          go_wp2_with fail
          refine HWi.out.mono ?_
          rintro e wz ⟨rfl, hwz⟩
          have hws := hwz.symm
          clear hwz HWi
          subst hws
          go_wp2_with (at_builtin; refine wpList_append_own _ rfl _ _ 23 rfl w1.heap.size 3 j0 (.int .i64 0) 1 8 Tryd.underlying23 hj0 hy0 hy1 hy2 rfl (by decide) _ _ _ rfl (World.ownsRow.alloc HOw.out _) ⟨wr.heap.size, 0, none⟩ 1 1 [.int .i64 (wth K[c] (n - kk - 1) : Int)] rfl rfl ?c1 ?c2 ?c3 ?c4 ?c5 ?c6)
          case c1 =>
            intro j u hj
            match j, hj with
            | 0, hj => simp at hj; subst hj; simp [Addr.add]
          case c2 => intro u hu; simp at hu; subst hu; rfl
          case c3 => unfold maxLen; omega
          case c4 => omega
          case c5 => simp; omega
          case c6 =>
            intro v' w4 hown' hgrow _
            have O4 := hid (show w4.ownsRow w1.heap.size 3 1 v' (ownF kk n (K.take (c + 1))).length (ic (ownF kk n (K.take (c + 1)))) by
              rw [HO1.out, hOwl]
              exact hown')
            have B4 := hid ((HB.out.alloc hsz3 _).grown hgrow (by simp; omega) (fun k hk => (World.ownsRow.lt HOw.out k hk).1))
            clear hown' hgrow
            go_wp2
            go_roundw
            case rel => exact ⟨c + 1, by omega, by go_num, O4.out, B4.out⟩
            case measure => simp [intOf]; omega
        · have hI2 : ¬ (kk : Int) < (n : Int) := by omega
          have O4 := hid (show wr.ownsRow w1.heap.size 3 1 _ (ownF kk n (K.take (c + 1))).length (ic (ownF kk n (K.take (c + 1)))) from ownF_neg hnk (K.take c) (K.take (c + 1)) ▸ HOw.out)
          go_wp2
          go_roundw
          case rel => exact ⟨c + 1, by omega, by go_num, O4.out, HB.out⟩
          case measure => simp [intOf]; omega
      · have hI : ¬ (c : Int) < (K.length : Int) := by omega
        rw [List.take_of_length_le (by omega)] at HOw
        obtain ⟨hri, eo, ec, rfl⟩ := own_ints HOw.out
        have hol := ownF_le (k := kk) (n := n) K
        generalize ownF kk n K = OW at *
        have RI3 := hid hri
        clear hri HOw
        have HD2 := hid (HD1.out.below HB.out)
        have BX := hid (B1.out.trans (HB.out.mono B1.out.size))
        clear HD1 HKC HK HKb hkc
        rcases Nat.lt_or_ge kk n with hnk | hnk
        case' inl =>
          have hI2 : (kk : Int) < (n : Int) := by omega
          have HWi := hid (within_to tn (n - kk - 1) wr (by omega) t0 t1)
          rw [show ((n - kk - 1 : Nat) : Int) = (n : Int) - (kk : Int) - 1 by omega] at HWi
          obtain ⟨t, ht⟩ : ∃ t : Int, (wth tn (n - kk - 1) : Int) = t := ⟨_, rfl⟩
          rw [ht] at HWi
          clear ht
          go_wp2_with fail
          refine HWi.out.mono ?_
          rintro e wz ⟨rfl, hwz⟩
          have hws := hwz.symm
          clear hwz HWi
          subst hws
        case' inr =>
          have hI2 : ¬ (kk : Int) < (n : Int) := by omega
          obtain ⟨t, ht⟩ : ∃ t : Int, t = -1 := ⟨_, rfl⟩
        all_goals
          have HA := hid (at_any w.heap.size d f s cap n tail (zs 768) (seenP Q) dv (.slice eo OW.length ec) (Q.map opP) OW t (hh : Int) wr (HF.out.below BX.out) HD2.out (by rw [zs_len]; exact OkP Q) (by rw [List.length_map]; exact hnq) (by rw [List.length_map]; omega) (by rw [zs_len]; omega) (by rw [zs_len]; omega) RI3.out (by omega) (by omega) (by omega))
          have hal : (atI (zs 768) (Q.map opP) n OW t (hh : Int)).length = 768 := by rw [atI_len _ _ _ _ _ _ (by rw [zs_len]; exact OkP Q) HD2.out.op, zs_len]
          have HSec := hid (fun s hs => at_sec Q n s hh OW t hs hh1 hnq)
          rw [hkk] at HSec
          generalize atI (zs 768) (Q.map opP) n OW t (hh : Int) = im at *
          try rw [ht] at HA
          try (have HT := hid ht; clear ht)
          go_wp2_with fail
          refine HA.out.mono ?_
          rintro e w4 ⟨⟨iv, rfl, hr4⟩, hb4⟩
          obtain ⟨ig, io, ic4, rfl, hic, hicell⟩ := hr4.here (by omega)
          have HIC := hid hicell
          clear hicell
          have HIm := hid hr4
          rw [hal] at HIm hic ⊢
          have B4 := hid (BX.out.trans (hb4.mono BX.out.size))
          have HOWc := hid (show ∀ i (hi : i < OW.length), ∃ g off, eo = some (⟨g, off, none⟩ : Addr) ∧ w4.cell? ⟨g, off + i, none⟩ = some (.int .i64 OW[i]) from by
            obtain ⟨_, _, e9, _, hc9⟩ := RI3.out.below hb4
            cases e9
            exact hc9)
          have HQk4 := hid (HQk.out.below B4.out)
          have HQC4 := hid (show ∀ i (hi : i < Q.length), (-9223372036854775808 ≤ Q[i].1 ∧ Q[i].1 ≤ 9223372036854775807) ∧ ∃ g off, _ = some (⟨g, off, none⟩ : Addr) ∧ w4.cell? ⟨g, off + i * 3, none⟩ = some (.int .i64 Q[i].1) ∧ w4.cell? ⟨g, off + i * 3 + 1, none⟩ = some (.int .u8 (Q[i].2.1.toNat : Int)) from fun i hi => by
            obtain ⟨q0, g, off, qa0, q1, q2, _⟩ := HQC.out i hi
            exact ⟨q0, g, off, qa0, below_cells B4.out _ _ q1, below_cells B4.out _ _ q2⟩)
          clear hr4 hb4 HA HQC HQk HD2 RI3 BX HB
          go_wp2_with fail
          go_loop [18] (fun i => ∃ s : Nat, s ≤ 6 ∧ i = .int .i64 (s : Int)) (fun i => 6 - (intOf i).toNat)
          case atStart => exact ⟨0, by omega, rfl⟩
          case round =>
            obtain ⟨sc, hsc, rfl⟩ := hrel
            by_cases hlt6 : sc < 6
            · have hI6 : (sc : Int) < 6 := by omega
              have HLs := hid (lastOf_any _ (Q.take kk) sc w4 HQk4.out (by rw [List.length_take]; omega))
              go_wp2_with fail
              refine HLs.out.mono ?_
              rintro e wz ⟨rfl, hwz⟩
              have hws := hwz.symm
              clear hwz HLs
              subst hws
              go_wp2_with fail
              go_loop [19, 20, 21] (fun a b i => ∃ j : Nat, kk ≤ j ∧ j ≤ n ∧ i = .int .i64 (j : Int) ∧ a = .int .u8 ((fb Q kk sc OW t (j - kk)).1.toNat : Int) ∧ b = .int .u8 ((fb Q kk sc OW t (j - kk)).2.toNat : Int)) (fun _ _ i => n - (intOf i).toNat)
              case atStart => exact ⟨kk, Nat.le_refl _, hbl, rfl, by rw [Nat.sub_self]; rfl, by rw [Nat.sub_self]; rfl⟩
              case round =>
                obtain ⟨j, hj1, hj2, rfl, rfl, rfl⟩ := hrel
                by_cases hltn : j < n
                · have hIn : (j : Int) < (n : Int) := by omega
                  obtain ⟨⟨y0, y1⟩, g, off, hao, p0, p1⟩ := HQC4.out j (by omega)
                  have hjQ : j < Q.length := by omega
                  have hjQI : (j : Int) < (Q.length : Int) := by omega
                  cases hao
                  all_goals try (exfalso; omega)
                  all_goals
                    have HfS := hid (show fb Q kk sc OW t (j + 1 - kk) = (if sct (Q[j]'(by omega)).1 ≠ sc then fb Q kk sc OW t (j - kk) else if ((j - kk : Nat) : Int) ∈ OW then ((Q[j]'(by omega)).2.1, (Q[j]'(by omega)).2.1) else if ((j - kk : Nat) : Int) = t then ((Q[j]'(by omega)).2.1, (fb Q kk sc OW t (j - kk)).2) else fb Q kk sc OW t (j - kk)) by
                      rw [show j + 1 - kk = (j - kk) + 1 by omega, fb, show kk + (j - kk) = j by omega, List.getElem?_eq_getElem (by omega)])
                    generalize Q[j]'(by omega) = y at *
                    obtain ⟨z, b, fl⟩ := y
                    simp only at p0 p1 y0 y1 HfS
                    have hxl := sct_lt z
                    have HWi := hid (within_any z w4 y0 y1)
                    by_cases hse : sct z = sc
                    · have hbe : ((sct z : Int) != (sc : Int)) = false := by simp [hse]
                      rw [if_neg (by simpa using hse)] at HfS
                      go_wp2_with fail
                      refine HWi.out.mono ?_
                      rintro e wz ⟨rfl, hwz⟩
                      have hws := hwz.symm
                      clear hwz HWi
                      subst hws
                      have HP0 := hid p0
                      have HP1 := hid p1
                      clear p0 p1
                      go_wp2_with fail
                      go_loop [22, 23] (fun th c => ∃ (c2 : Nat) (tb : Bool), c2 ≤ OW.length ∧ c = .int .i64 (c2 : Int) ∧ th = .bool tb ∧ (tb = true ↔ ((j - kk : Nat) : Int) ∈ OW.take c2)) (fun _ c => OW.length - (intOf c).toNat)
                      case atStart => exact ⟨0, false, by omega, rfl, rfl, by simp⟩
                      case round =>
                        obtain ⟨c2, tb, hc2, rfl, rfl, htb⟩ := hrel
                        have HTB := hid htb
                        clear htb
                        have hsub : ((j - kk : Nat) : Int) = (j : Int) - (kk : Int) := by omega
                        have HSub := hid hsub
                        clear hsub
                        by_cases hlo : c2 < OW.length
                        · have hIo : (c2 : Int) < (OW.length : Int) := by omega
                          obtain ⟨g2, off2, he2, q0⟩ := HOWc.out c2 hlo
                          subst he2
                          have HTk := hid (show OW.take (c2 + 1) = OW.take c2 ++ [OW[c2]] by rw [List.take_add_one, List.getElem?_eq_getElem hlo]; rfl)
                          by_cases heq : OW[c2] = (j : Int) - (kk : Int)
                          · have HI := hid (show ((j - kk : Nat) : Int) ∈ OW.take (c2 + 1) by rw [HTk.out, HSub.out, heq]; simp)
                            have hb : (OW[c2] == (j : Int) - (kk : Int)) = true := by simp [heq]
                            go_wp2
                            go_round
                            case rel => exact ⟨c2 + 1, true, by omega, by go_num, rfl, by simp [HI.out]⟩
                            case measure => simp [intOf]; omega
                          · have HI := hid (show (tb = true ↔ ((j - kk : Nat) : Int) ∈ OW.take (c2 + 1)) by
                              rw [HTk.out, HTB.out, List.mem_append, List.mem_singleton, HSub.out]
                              exact ⟨.inl, fun h => h.elim id (fun h => absurd h.symm heq)⟩)
                            have hb : (OW[c2] == (j : Int) - (kk : Int)) = false := by simp [heq]
                            go_wp2
                            go_round
                            case rel => exact ⟨c2 + 1, tb, by omega, by go_num, rfl, HI.out⟩
                            case measure => simp [intOf]; omega
                        · have hIo : ¬ (c2 : Int) < (OW.length : Int) := by omega
                          rw [List.take_of_length_le (by omega)] at HTB
                          have p1 := HP1.out
                          cases tb with
                          | true =>
                            rw [if_pos (HTB.out.1 rfl)] at HfS
                            go_wp2
                            go_round
                            case rel => exact ⟨j + 1, by omega, by omega, by go_num, by rw [HfS.out], by rw [HfS.out]⟩
                            case measure => simp [intOf]; omega
                          | false =>
                            rw [if_neg (fun h => by have := HTB.out.2 h; cases this)] at HfS
                            by_cases hT : (j : Int) - (kk : Int) = t
                            · have hb : (((j : Int) - (kk : Int)) == t) = true := by simp [hT]
                              rw [if_pos (HSub.out.trans hT)] at HfS
                              go_wp2
                              go_round
                              case rel => exact ⟨j + 1, by omega, by omega, by go_num, by rw [HfS.out], by rw [HfS.out]⟩
                              case measure => simp [intOf]; omega
                            · have hb : (((j : Int) - (kk : Int)) == t) = false := by simp [hT]
                              rw [if_neg (fun h => hT (HSub.out.symm.trans h))] at HfS
                              go_wp2
                              go_round
                              case rel => exact ⟨j + 1, by omega, by omega, by go_num, by rw [HfS.out], by rw [HfS.out]⟩
                              case measure => simp [intOf]; omega
                    · have hbe : ((sct z : Int) != (sc : Int)) = true := by simp; omega
                      rw [if_pos hse] at HfS
                      go_wp2_with fail
                      refine HWi.out.mono ?_
                      rintro e wz ⟨rfl, hwz⟩
                      have hws := hwz.symm
                      clear hwz HWi
                      subst hws
                      go_wp2
                      go_round
                      case rel => exact ⟨j + 1, by omega, by omega, by go_num, by rw [HfS.out], by rw [HfS.out]⟩
                      case measure => simp [intOf]; omega
                · have hIn : ¬ (j : Int) < (n : Int) := by omega
                  have hjn : j - kk = n - kk := by omega
                  rw [hjn]
                  have HSe := hid (HSec.out sc hlt6)
                  have HPc := hid (show ∀ i, i < 128 → w4.cell? ⟨ig, io + sc * 128 + i, none⟩ = some (.int .u8 ((if i < hh then (fb Q kk sc OW t (n - kk)).1 else (fb Q kk sc OW t (n - kk)).2).toNat : Int)) from fun i hi => by
                    have h1 := HIC.out (sc * 128 + i) (by omega)
                    have h2 : im[sc * 128 + i]? = (mix (fb Q kk sc OW t (n - kk)).1 (fb Q kk sc OW t (n - kk)).2 hh)[i]? := by
                      rw [← HSe.out]
                      unfold sec
                      rw [List.getElem?_take, if_pos hi, List.getElem?_drop]
                    rw [mix_at _ _ _ _ hi hh1, List.getElem?_eq_getElem (by omega)] at h2
                    rw [Nat.add_assoc, h1, Option.some.inj h2])
                  generalize (fb Q kk sc OW t (n - kk)).1 = fa at *
                  generalize (fb Q kk sc OW t (n - kk)).2 = ba at *
                  have HS2 := hid (secFn2 ig io ic4 sc w4 hic hlt6)
                  go_wp2_with fail
                  refine HS2.out.mono ?_
                  rintro e wz ⟨rfl, hwz⟩
                  have hws := hwz.symm
                  clear hwz HS2
                  subst hws
                  go_wp2_with fail
                  go_loop [25] (fun i => ∃ c2 : Nat, c2 ≤ 128 ∧ i = .int .i64 (c2 : Int)) (fun i => 128 - (intOf i).toNat)
                  case atStart => exact ⟨0, by omega, rfl⟩
                  case round =>
                    obtain ⟨c2, hc2, rfl⟩ := hrel
                    by_cases hlo : c2 < 128
                    · have hIo : (c2 : Int) < 128 := by omega
                      have q0 := HPc.out c2 hlo
                      by_cases hch : c2 < hh
                      · have hIc : (c2 : Int) < (hh : Int) := by omega
                        rw [if_pos hch] at q0
                        go_wp2
                        go_round
                        case rel => exact ⟨c2 + 1, by omega, by go_num⟩
                        case measure => simp [intOf]; omega
                      · have hIc : ¬ (c2 : Int) < (hh : Int) := by omega
                        rw [if_neg hch] at q0
                        go_wp2
                        go_round
                        case rel => exact ⟨c2 + 1, by omega, by go_num⟩
                        case measure => simp [intOf]; omega
                    · have hIo : ¬ (c2 : Int) < 128 := by omega
                      go_wp2
                      go_round
                      case rel => exact ⟨sc + 1, by omega, by go_num⟩
                      case measure => simp [intOf]; omega
            · have hI6 : ¬ (sc : Int) < 6 := by omega
              go_wp2
              go_ret
              exact ⟨rfl, B4.out⟩
end Go.Proofs.YtdgkhenejjodaaaDoor
