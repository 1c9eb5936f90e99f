/-
  SchedLines: the law's walk.
-/
import Derived.Test.YthkddjffofehjabLi1
import Derived.Deep.RegionHeld3
namespace Go.Proofs.Ythkddjffofehjab
open Go.RowKit Go.Maps
set_option maxRecDepth 100000

theorem stE_ready (S : List Hd) (i : Nat) (h : i < S.length) : nRd (S.set i (1, 0, 0)) (i : Int) = 0 := by
  unfold nRd
  rw [(inH_iff (i : Int) (S.set i (1, 0, 0)).length).2 ⟨by omega, by simp; omega⟩]
  simp [h]
theorem stE_in {S : List Hd} {x : Int} (h : stE S x = 0) : ∃ q : Nat, x = (q : Int) ∧ q < S.length := by
  unfold stE at h
  by_cases e : 0 ≤ x ∧ x < (S.length : Int)
  · exact ⟨x.toNat, by omega, by omega⟩
  · rw [inH_no e] at h
    simp at h

set_option maxHeartbeats 40000000 in
theorem lines_any (v : Value) (Or : List Int) (on other : Int) (w : World) (hr : RI w v Or) (hl : Or.length * 8 ≤ reachBytes) (hon : i64 on) (hot : i64 other) :
    Calls Try.prog 3 #[v, .int .i64 on, .int .i64 other] w fun e w' => e = .returned (.bool true) ∧ Below w.heap.size w w' := by
  have hl' : Or.length ≤ 17592186043904 := by have : reachBytes = 140737488351232 := rfl; omega
  clear hl
  obtain ⟨i0, hi0, hz0, hz1, hz2⟩ := info_parts intinfo
  have HNew := hid (new_any 16 w (by omega) (by omega))
  obtain ⟨ao, cap, rfl, hc, hn, hcell⟩ := hr
  have HC := hid hcell
  have HI := hid hi0
  clear hcell hn
  go_enter Try.func3, Try.ntmps3
  by_cases hoo : on = other
  · have hb : (on == other) = true := by simp [hoo]
    clear hoo HNew
    go_wp2
    go_ret
    exact ⟨rfl, Below.refl _ _⟩
  have hb : (on == other) = false := by simp [hoo]
  have HNE := hid hoo
  clear hoo
  go_wp2_with fail
  refine HNew.out.mono ?_
  rintro e w1 ⟨⟨d, hb', mb, rfl, hbd⟩, hb1⟩
  have hw0 : w.heap.size ≤ w1.heap.size := hb1.size
  have HST := hid (show ST w w1 w.heap.size d hb' mb on other 0 (.slice none 0 0) (.slice none 0 0) 0 (List.replicate 16 (0, 0, 0)) (fun _ => .slice none 0 0) (fun _ => []) from
    ⟨Nat.le_refl _, hbd, by simp, fun h hh => by rw [List.getElem_replicate]; decide, OI.nil _ _, OI.nil _ _, fun g hg => by simp [Value.ownBlock] at hg, fun g hg => by simp [Value.ownBlock] at hg, fun g hg => by simp [Value.ownBlock] at hg, by simp, by simp, by simp, by simp, hb1⟩)
  clear hbd hb1 HNew hb
  go_wp2
  go_loopw [9, 10, 11] (fun vw vr i wr => ∃ (k N : Nat) (S : List Hd) (M : Int → Value) (L : Int → List Int), k ≤ Or.length ∧ i = .int .i64 (k : Int) ∧ ST w wr w.heap.size d hb' mb on other k vw vr N S M L) (fun _ _ i _ => Or.length - (intOf i).toNat)
  case atStart => exact ⟨0, 0, _, _, _, Nat.zero_le _, rfl, HST.out⟩
  case round =>
    obtain ⟨k, N, S, M, L, hk, rfl, hst⟩ := hrel
    have HS := hid hst
    have hB := hst.below.size
    clear hst HST
    by_cases h : k < Or.length
    · have hI : (k : Int) < (Or.length : Int) := by omega
      obtain ⟨g, off, hao, cx⟩ := HC.out k h
      subst hao
      have hgl := World.block_lt_of_cell? _ _ cx
      have cx0 := HS.out.below.block g hgl
      have c1 := (World.cell?_of_block (a := ⟨g, off + k, none⟩) cx0).trans cx
      have HCX := hid cx
      generalize Or[k] = x at c1 HCX
      have HStart := hid (start_any x wr HS.out.bd)
      clear cx cx0
      by_cases hs : stE S x = 0
      · obtain ⟨q, rfl, hq⟩ := stE_in hs
        have hq16 : q < 16 := by have := HS.out.len; omega
        rw [hs, stS_yes hs, Int.toNat_natCast] at HStart
        go_wp2_with fail
        refine HStart.out.mono ?_
        rintro e w2 ⟨rfl, hb2, hk2⟩
        have HB2 := hid hb2
        have HK2 := hid hk2
        have hz2' := hk2.size
        have c2 : w2.cell? ⟨g, off + k, none⟩ = some (.int .i64 (q : Int)) := (World.cell?_of_block (a := ⟨g, off + k, none⟩) (hk2.block g (by omega) (fun e => by have := (HS.out.bd.lt g e).2; omega))).trans c1
        have HOW := hid (HS.out.ow.kb hk2 HS.out.dw)
        have HOR := hid (HS.out.orr.kb hk2 HS.out.dr)
        clear hb2 hk2 HStart
        have hm3 : (k : Int) % 3 = 2 ∨ ¬ (k : Int) % 3 = 2 := by omega
        rcases hm3 with hm3 | hm3
        · have hmb : ((k : Int) % 3 == 2) = true := by simp [hm3]
          have HLen := hid (show (L other).length ≤ 17592186043903 by have := HS.out.lr; omega)
          clear hm3 c1
          go_wp2_with (at_builtin; refine wpList_append_own_at _ rfl _ _ 22 rfl w.heap.size 3 i0 (.int .i64 0) 1 8 Try.underlying22 HI.out hz0 hz1 hz2 rfl (by decide) _ _ _ rfl (HOR.out.alloc _) ⟨w2.heap.size, 0, none⟩ 1 1 [.int .i64 (q : Int)] rfl rfl (one_new _ _) (one_one _) ?m1 ?m2 ?m3 ?hnext)
          case m1 => unfold maxLen; have := HLen.out; omega
          case m2 => have := HLen.out; omega
          case m3 => simp; omega
          case hnext =>
            intro vw' w3 hown' hgrow _ hloc
            have HST1 := hid (HS.out.swap)
            have hoi : OI w3 w.heap.size vw' (L other ++ [(q : Int)]) := by
              unfold OI
              rw [ic_snoc, List.length_append]
              exact hown'
            have hb3 := (HB2.out.later (Below.refl _ _ |>.alloc (Nat.le_refl _) (.cells #[.int .i64 (q : Int)] 3))).kept hgrow (fun kk e => HST1.out.dw kk e)
            have c3 : w3.cell? ⟨g, off + k, none⟩ = some (.int .i64 (q : Int)) := by
              have e1 := hgrow.block g (by simp; omega) (fun e => by have := (HST1.out.ow.lt g e.symm).1; omega)
              have e2 := ((Below.refl w2.heap.size w2).alloc (Nat.le_refl _) (.cells #[.int .i64 (q : Int)] 3)).block g (by omega)
              rw [World.cell?_of_block (a := ⟨g, off + k, none⟩) e1, World.cell?_of_block (a := ⟨g, off + k, none⟩) e2]
              exact c2
            have HBl := hid (block_yes q other w3 hb3 (by simpa using hq) (stE_ready S q hq) hot (by have := HST1.out.n; unfold maxLen; omega) (by have := HLen.out; omega))
            have HGr := hid hgrow
            have HLoc := hid hloc
            have HOI := hid hoi
            clear hown' hgrow hloc hoi hb3
            go_wp2_with fail
            refine HBl.out.mono ?_
            rintro e w4 ⟨rfl, v', hb4, hk4, hv4⟩
            have HN := hid (HST1.out.next (fun e => HNE.out e.symm) (by omega) hq16 HK2.out HGr.out HOI.out (by have := HLoc.out; simpa using this) hb4 hk4 hv4)
            clear hb4 hk4 hv4 HBl
            go_wp2
            go_roundw
            case rel => exact ⟨k + 1, _, _, _, _, by omega, by go_num, HN.out.swap⟩
            case measure => simp [intOf]; omega
        · have hmb : ((k : Int) % 3 == 2) = false := by simp [hm3]
          have HLen := hid (show (L on).length ≤ 17592186043903 by have := HS.out.lw; omega)
          clear hm3 c1
          go_wp2_with (at_builtin; refine wpList_append_own_at _ rfl _ _ 22 rfl w.heap.size 3 i0 (.int .i64 0) 1 8 Try.underlying22 HI.out hz0 hz1 hz2 rfl (by decide) _ _ _ rfl (HOW.out.alloc _) ⟨w2.heap.size, 0, none⟩ 1 1 [.int .i64 (q : Int)] rfl rfl (one_new _ _) (one_one _) ?m1 ?m2 ?m3 ?hnext)
          case m1 => unfold maxLen; have := HLen.out; omega
          case m2 => have := HLen.out; omega
          case m3 => simp; omega
          case hnext =>
            intro vw' w3 hown' hgrow _ hloc
            have HST1 := hid (HS.out)
            have hoi : OI w3 w.heap.size vw' (L on ++ [(q : Int)]) := by
              unfold OI
              rw [ic_snoc, List.length_append]
              exact hown'
            have hb3 := (HB2.out.later (Below.refl _ _ |>.alloc (Nat.le_refl _) (.cells #[.int .i64 (q : Int)] 3))).kept hgrow (fun kk e => HST1.out.dw kk e)
            have c3 : w3.cell? ⟨g, off + k, none⟩ = some (.int .i64 (q : Int)) := by
              have e1 := hgrow.block g (by simp; omega) (fun e => by have := (HST1.out.ow.lt g e.symm).1; omega)
              have e2 := ((Below.refl w2.heap.size w2).alloc (Nat.le_refl _) (.cells #[.int .i64 (q : Int)] 3)).block g (by omega)
              rw [World.cell?_of_block (a := ⟨g, off + k, none⟩) e1, World.cell?_of_block (a := ⟨g, off + k, none⟩) e2]
              exact c2
            have HBl := hid (block_yes q on w3 hb3 (by simpa using hq) (stE_ready S q hq) hon (by have := HST1.out.n; unfold maxLen; omega) (by have := HLen.out; omega))
            have HGr := hid hgrow
            have HLoc := hid hloc
            have HOI := hid hoi
            clear hown' hgrow hloc hoi hb3
            go_wp2_with fail
            refine HBl.out.mono ?_
            rintro e w4 ⟨rfl, v', hb4, hk4, hv4⟩
            have HN := hid (HST1.out.next HNE.out (by omega) hq16 HK2.out HGr.out HOI.out (by have := HLoc.out; simpa using this) hb4 hk4 hv4)
            clear hb4 hk4 hv4 HBl
            go_wp2
            go_roundw
            case rel => exact ⟨k + 1, _, _, _, _, by omega, by go_num, HN.out⟩
            case measure => simp [intOf]; omega
      · have hsb : (stE S x == 0) = false := by simp [hs]
        rw [stS_no hs] at HStart
        go_wp2_with fail
        refine HStart.out.mono ?_
        rintro e w2 ⟨rfl, hb2, hk2⟩
        have HN := hid (HS.out.skip hb2 hk2 (by omega))
        clear hb2 hk2 HStart
        go_wp2
        go_roundw
        case rel => exact ⟨k + 1, _, _, _, _, by omega, by go_num, HN.out⟩
        case measure => simp [intOf]; omega
    · have hI : ¬ (k : Int) < (Or.length : Int) := by omega
      have HRw := hid HS.out.ow.reads
      have HRr := hid HS.out.orr.reads
      have HLw := hid (show (L on).length ≤ 17592186043904 by have := HS.out.lw; omega)
      have HLo := hid (show (L other).length ≤ 17592186043904 by have := HS.out.lr; omega)
      have HSt := hid (rdy_idle S HS.out.idle S.length (Nat.le_refl _))
      obtain ⟨aw, cw, hvw⟩ := HS.out.ow.reads.len0
      obtain ⟨ar, cr, hvr⟩ := HS.out.orr.reads.len0
      subst hvw hvr
      have HW1 := hid (waiting_any on wr HS.out.bd hon HLw.out)
      go_wp2_with fail
      refine HW1.out.mono ?_
      rintro e w5 ⟨⟨v5, rfl, ho5⟩, hb5⟩
      have HSm := hid (same_any _ _ _ _ w5 ho5.reads (HRw.out.below hb5) (by have := HLw.out; omega) (by have := HLw.out; omega))
      have B5 := hid hb5
      clear ho5 hb5 HW1
      go_wp2_with fail
      refine HSm.out.mono ?_
      rintro e w6 ⟨⟨b, rfl, hbt⟩, hb6⟩
      obtain rfl : b = true := by simpa using hbt
      have B6 := hid (B5.out.trans (hb6.mono B5.out.size))
      have HW2 := hid (waiting_any other w6 (HS.out.bd.later B6.out) hot HLo.out)
      clear hbt hb6 HSm B5
      go_wp2_with fail
      refine HW2.out.mono ?_
      rintro e w7 ⟨⟨v7, rfl, ho7⟩, hb7⟩
      have B7 := hid (B6.out.trans (hb7.mono B6.out.size))
      have HSm := hid (same_any _ _ _ _ w7 ho7.reads (HRr.out.below B7.out) (by have := HLo.out; omega) (by have := HLo.out; omega))
      clear ho7 hb7 HW2 B6
      go_wp2_with fail
      refine HSm.out.mono ?_
      rintro e w8 ⟨⟨b, rfl, hbt⟩, hb8⟩
      obtain rfl : b = true := by simpa using hbt
      have B8 := hid (B7.out.trans (hb8.mono B7.out.size))
      have HRd := hid (ready_any w8 (HS.out.bd.later B8.out))
      rw [HSt.out] at HRd
      clear hbt hb8 HSm B7
      go_wp2_with fail
      refine HRd.out.mono ?_
      rintro e w9 ⟨⟨v9, rfl, ho9⟩, hb9⟩
      obtain ⟨a9, c9, hv9⟩ := ho9.reads.len0
      rw [List.length_nil] at hv9
      subst hv9
      have B9 := hid (B8.out.trans (hb9.mono B8.out.size))
      have HBD := hid (HS.out.bd.later B9.out)
      have HBl0 := hid (HS.out.below.trans (B9.out.mono hB))
      have HRw9 := hid (HRw.out.below B9.out)
      have HRr9 := hid (HRr.out.below B9.out)
      clear ho9 hb9 HRd B8
      obtain ⟨lo, hLon⟩ : ∃ lo, L on = lo := ⟨_, rfl⟩
      cases lo with
      | nil =>
        have hlen0 : (L on).length = 0 := by rw [hLon]; rfl
        rw [hlen0] at HRw9 ⊢
        have HDw := hid HS.out.dw
        have HDr := hid HS.out.dr
        rw [hlen0] at HDw
        have HIn := hid (show ∀ x ∈ L on, 0 ≤ x ∧ x < (S.length : Int) by rw [hLon]; simp)
        have HLn := HLw
        have HOt := hid (show updL L on [] other = L other by unfold updL; rw [if_neg (fun e => HNE.out e.symm)])
        have HLon := hid hLon
        clear hLon hlen0
        have HWk := hid (wake_any on w9 HBD.out hon HLn.out HIn.out)
        go_wp2_with fail
        refine HWk.out.mono ?_
        rintro e wk ⟨rfl, hrk, hbk, hkk⟩
        have HBk := hid hbk
        have HWv := hid (HRw9.out.kb hkk HDw.out)
        have HRk := hid (HRr9.out.kb hkk HDr.out)
        have HBe := hid (hkk.toBelow HBl0.out HBl0.out.size (fun k hk => (HBD.out.lt k hk).2))
        have HSm := hid (same_any _ _ _ _ wk hrk HWv.out (by have := HLn.out; omega) (by have := HLn.out; omega))
        clear hrk hbk hkk HWk
        go_wp2_with fail
        refine HSm.out.mono ?_
        rintro e wl ⟨⟨b, rfl, hbt⟩, hbl⟩
        obtain rfl : b = true := by simpa using hbt
        have HBl := hid (HBk.out.later hbl)
        have HRl := hid (HRk.out.below hbl)
        have HBel := hid (HBe.out.trans (hbl.mono HBe.out.size))
        clear hbt hbl HSm
        have HWa := hid (waiting_any on wl HBl.out hon (by unfold updL; rw [if_pos rfl]; simp))
        rw [show updL _ on [] on = [] by unfold updL; rw [if_pos rfl]] at HWa
        go_wp2_with fail
        refine HWa.out.mono ?_
        rintro e wm ⟨⟨vm, rfl, hom⟩, hbm⟩
        obtain ⟨am, cm, hvm⟩ := hom.reads.len0
        rw [List.length_nil] at hvm
        subst hvm
        have HBm := hid (HBl.out.later hbm)
        have HRm := hid (HRl.out.below hbm)
        have HBem := hid (HBel.out.trans (hbm.mono HBel.out.size))
        have HWb := hid (waiting_any other wm HBm.out hot (by rw [HOt.out]; exact HLo.out))
        rw [HOt.out] at HWb
        clear hom hbm HWa
        go_wp2_with fail
        refine HWb.out.mono ?_
        rintro e wn ⟨⟨vn, rfl, hon'⟩, hbn⟩
        have HSm := hid (same_any _ _ _ _ wn hon'.reads (HRm.out.below hbn) (by have := HLo.out; omega) (by have := HLo.out; omega))
        have HBn := hid (HBm.out.later hbn)
        have HBen := hid (HBem.out.trans (hbn.mono HBem.out.size))
        clear hon' hbn HWb
        go_wp2_with fail
        refine HSm.out.mono ?_
        rintro e wo ⟨⟨b, rfl, hbt⟩, hbo⟩
        obtain rfl : b = true := by simpa using hbt
        have HFi := hid (first_none on wo (HBn.out.later hbo) hon (by unfold updL; rw [if_pos rfl]))
        have HBeo := hid (HBen.out.trans (hbo.mono HBen.out.size))
        clear hbt hbo HSm
        go_wp2_with fail
        refine HFi.out.mono ?_
        rintro e wp' ⟨rfl, rfl⟩
        go_wp2
        go_ret
        exact ⟨rfl, HBeo.out⟩
      | cons x t =>
        have hx := HS.out.iw x (by rw [hLon]; simp)
        obtain ⟨q, rfl⟩ : ∃ q : Nat, x = (q : Int) := ⟨x.toNat, by omega⟩
        have hqS : q < S.length := by have := HS.out.len; omega
        have hlen1 : (L on).length = t.length + 1 := by rw [hLon]; rfl
        have htl : t.length ≤ 17592186043904 := by have := HLw.out; omega
        have hIt : ∀ y ∈ t, 0 ≤ y ∧ y < (S.length : Int) := fun y hy => by
          have := HS.out.iw y (by rw [hLon]; exact List.mem_cons_of_mem _ hy)
          have := HS.out.len
          omega
        have HF := hid (first_some on w9 HBD.out hon (by have := HS.out.n; unfold maxLen; omega) hLon htl hqS)
        have how := HS.out.ow
        obtain ⟨gw, cw', hvw', _, _, _⟩ := how.form (by omega)
        simp only [Value.slice.injEq] at hvw'
        obtain ⟨haw, _, hcc⟩ := hvw'
        subst haw
        subst hcc
        have HDw0 := hid HS.out.dw
        have HDr0 := hid HS.out.dr
        rw [hlen1] at HDw0 HRw9 ⊢
        rw [hLon] at HRw9
        clear how
        have hpos : (0 : Int) < (t.length : Int) + 1 := by omega
        go_wp2_with fail
        refine HF.out.mono ?_
        rintro e wA ⟨rfl, v', N', _, hbA, hkA, hvA⟩
        have HBA := hid hbA
        have HRwA := hid (HRw9.out.kb hkA HDw0.out)
        have HRrA := hid (HRr9.out.kb hkA HDr0.out)
        have HBlA := hid (hkA.toBelow HBl0.out HBl0.out.size (fun k hk => (HBD.out.lt k hk).2))
        have HDw := hid (show ∀ g, (Value.slice (some ⟨gw, 0, none⟩) (t.length + 1) cw).ownBlock = some g → ¬ ofB d hb' mb (upd M on v') g from fun g hg h => HDw0.out g hg (ofB_sub hvA h))
        have HDr := hid (show ∀ g, (Value.slice ar (L other).length cr).ownBlock = some g → ¬ ofB d hb' mb (upd M on v') g from fun g hg h => HDr0.out g hg (ofB_sub hvA h))
        have HRo := hid (rdy_one S HS.out.idle q (1, 0, 0) rfl S.length (Nat.le_refl _))
        rw [if_pos hqS] at HRo
        have hLL1 : updL L on t on = t := by unfold updL; rw [if_pos rfl]
        have hLL2 : updL L on t other = L other := by unfold updL; rw [if_neg (fun e => HNE.out e.symm)]
        generalize updL L on t = L8 at *
        generalize upd M on v' = M8 at *
        obtain ⟨r1, cq, r3, hct⟩ := HRwA.out.tail1
        have R1 := hid r1
        have R3 := hid r3
        have HWA := hid (waiting_any on wA HBA.out hon (by rw [hLL1]; exact htl))
        rw [hLL1] at HWA
        have HOt := hid (show updL L8 on [] other = L other by unfold updL; rw [if_neg (fun e => HNE.out e.symm)]; exact hLL2)
        have HL1 := hid hLL1
        have hqb : ((q : Int) == (q : Int)) = true := by simp
        clear hbA hkA hvA HF r1 r3 hLL1 hLL2
        clear HS HRw HRr HSt HRw9 HRr9 HBD HBl0 B9 HLw HDw0 HDr0 HWA hlen1 hLon hc HC HI
        have hs1 : (1 : Int) ≤ (t.length : Int) + 1 := by omega
        have hs2 : (t.length : Int) + 1 ≤ (cw : Int) := by omega
        have hs3 : (1 : Int) ≤ (cw : Int) := by omega
        have hs4 : 1 ≤ cw := by omega
        by_cases hcw : cw = 1
        case' pos =>
          have ht0 : t = [] := List.eq_nil_of_length_eq_zero (by omega)
          rw [if_pos hcw] at R1
          subst hcw
          subst ht0
          simp only [List.length_nil, Nat.zero_add, Nat.sub_self] at R1 R3 HRwA HDw ⊢
          clear hs1 hs2 hs3 hs4 hpos hct
        case' neg => rw [if_neg hcw] at R1
        all_goals
          have BDr := hid HBA.out.drew
          have CQ := hid (show wA.drew.cell? ⟨gw, 0, none⟩ = some (.int .i64 (q : Int)) from cq)
          go_wp2_with fail
          go_region_held3 (fun w' => w'.cell? ⟨gw, 0, none⟩ = some (.int .i64 (q : Int))) (first | exact QE.out | exact QD.out | exact QC.out | exact QB.out | exact CQ.out) (first
            | (go_at_call_of 12 vD; refine (same_any vD _ _ [(q : Int)] wD OD.out.reads ((R3.out.drew).below BD'.out) (by simp) (by simp)).mono ?_; rintro e wE ⟨⟨b, rfl, hbt⟩, hbE⟩; obtain rfl : b = true := (by simpa using hbt); have BE := hid (BD'.out.trans (hbE.mono BD'.out.size)); have QE := hid (below_cells BE.out _ _ CQ.out); clear hbt hbE)
            | (go_at_call_of 12 vB; refine (same_any vB _ _ _ wB OB.out.reads ((R1.out.drew).below BB.out) (by first | omega | simp) (by first | omega | simp)).mono ?_; rintro e wC ⟨⟨b, rfl, hbt⟩, hbC⟩; obtain rfl : b = true := (by simpa using hbt); have BC := hid (BB.out.trans (hbC.mono BB.out.size)); have QC := hid (below_cells BC.out _ _ CQ.out); clear hbt hbC)
            | (go_at_call 14; refine (ready_any wC (BDr.out.later BC.out)).mono ?_; rintro e wD ⟨⟨vD, rfl, hoD⟩, hbD⟩; rw [List.length_set, HRo.out] at hoD; have OD := hid hoD; have BD' := hid (BC.out.trans (hbD.mono BC.out.size)); have QD := hid (below_cells BD'.out _ _ CQ.out); clear hoD hbD)
            | (go_at_call 13; refine (waiting_any on wA.drew BDr.out hon (by rw [HL1.out]; exact htl)).mono ?_; rintro e wB ⟨⟨vB, rfl, hoB⟩, hbB⟩; rw [HL1.out] at hoB; have OB := hid hoB; have BB := hid hbB; have QB := hid (below_cells BB.out _ _ CQ.out); clear hoB hbB))
          have HBE := hid (BDr.out.later BE.out)
          have HBlE := hid (HBlA.out.drew.trans (BE.out.mono HBlA.out.drew.size))
          have HRwE := hid (R1.out.drew.below BE.out)
          have HRrE := hid (HRrA.out.drew.below BE.out)
          have HLn := hid (show (L8 on).length ≤ 17592186043904 by rw [HL1.out]; exact htl)
          have HIn := hid (show ∀ x ∈ L8 on, 0 ≤ x ∧ x < ((S.set q (1, 0, 0)).length : Int) by rw [HL1.out, List.length_set]; exact hIt)
          clear BD' BC BB QB QC QD QE OB OD CQ
          have HWk := hid (wake_any on wE HBE.out hon HLn.out HIn.out)
          go_wp2_with fail
          refine HWk.out.mono ?_
          rintro e wk ⟨rfl, hrk, hbk, hkk⟩
          have HBk := hid hbk
          have HWv := hid (HRwE.out.kb hkk HDw.out)
          have HRk := hid (HRrE.out.kb hkk HDr.out)
          have HBe := hid (hkk.toBelow HBlE.out HBlE.out.size (fun k hk => (HBE.out.lt k hk).2))
          have HSm := hid (same_any _ _ _ _ wk hrk HWv.out (by have := HLn.out; omega) (by first | omega | simp))
          clear hrk hbk hkk HWk
          go_wp2_with fail
          refine HSm.out.mono ?_
          rintro e wl ⟨⟨b, rfl, hbt⟩, hbl⟩
          obtain rfl : b = true := hbt.mpr HL1.out
          have HBl := hid (HBk.out.later hbl)
          have HRl := hid (HRk.out.below hbl)
          have HBel := hid (HBe.out.trans (hbl.mono HBe.out.size))
          clear hbt hbl HSm
          have HWa := hid (waiting_any on wl HBl.out hon (by unfold updL; rw [if_pos rfl]; simp))
          rw [show updL _ on [] on = [] by unfold updL; rw [if_pos rfl]] at HWa
          go_wp2_with fail
          refine HWa.out.mono ?_
          rintro e wm ⟨⟨vm, rfl, hom⟩, hbm⟩
          obtain ⟨am, cm, hvm⟩ := hom.reads.len0
          rw [List.length_nil] at hvm
          subst hvm
          have HBm := hid (HBl.out.later hbm)
          have HRm := hid (HRl.out.below hbm)
          have HBem := hid (HBel.out.trans (hbm.mono HBel.out.size))
          have HWb := hid (waiting_any other wm HBm.out hot (by rw [HOt.out]; exact HLo.out))
          rw [HOt.out] at HWb
          clear hom hbm HWa
          go_wp2_with fail
          refine HWb.out.mono ?_
          rintro e wn ⟨⟨vn, rfl, hon'⟩, hbn⟩
          have HSm := hid (same_any _ _ _ _ wn hon'.reads (HRm.out.below hbn) (by have := HLo.out; omega) (by have := HLo.out; omega))
          have HBn := hid (HBm.out.later hbn)
          have HBen := hid (HBem.out.trans (hbn.mono HBem.out.size))
          clear hon' hbn HWb
          go_wp2_with fail
          refine HSm.out.mono ?_
          rintro e wo ⟨⟨b, rfl, hbt⟩, hbo⟩
          obtain rfl : b = true := by simpa using hbt
          have HFi := hid (first_none on wo (HBn.out.later hbo) hon (by unfold updL; rw [if_pos rfl]))
          have HBeo := hid (HBen.out.trans (hbo.mono HBen.out.size))
          clear hbt hbo HSm
          go_wp2_with fail
          refine HFi.out.mono ?_
          rintro e wp' ⟨rfl, rfl⟩
          go_wp2
          go_ret
          exact ⟨rfl, HBeo.out⟩
end Go.Proofs.Ythkddjffofehjab
