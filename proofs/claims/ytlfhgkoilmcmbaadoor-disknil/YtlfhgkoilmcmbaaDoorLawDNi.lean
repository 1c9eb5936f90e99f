/-
  DiskNil: the law's walk.
-/
import Derived.RangeFuncNested
import Derived.RangeFuncBound
import Derived.RangeFuncCalls
import Derived.RangeFuncLeaves
import Derived.Shelf.Abstract
import Derived.Shelf.RegionOpen
import Derived.OwnWalkIn
import Derived.TacticsInMore
import Derived.LoopNIn
import Derived.LoopIn
import Derived.Laws.EntriesVeiled
import Derived.Test.YtlfhgkoilmcmbaaDoorDn1
namespace Go.Proofs.YtlfhgkoilmcmbaaDoor
open Go.RowKit Go.Shelf
set_option maxRecDepth 100000
attribute [local go_sem] Oper.semAt_some

theorem nothing_goes (m : Nat) (w : World) (Kp : World → World → Prop) :
    SeqStopsK Fence.wide m Tryd.prog 36 #[] (fun x : Empty => x.elim) Kp (fun ys => ys = []) (fun _ => False) 0 w := fun l J Jx W hW hJ _ hY h0 => by
  refine callsIn_of_wp Tryd.func36 rfl trivial ?_ rfl
  simp only [Tryd.ntmps36, List.size_toArray, List.length_cons, List.length_nil, Nat.reduceAdd, Nat.reduceSub, Array.replicate_succ, Array.replicate_zero, List.push_toArray, List.append_toArray, List.nil_append, List.cons_append]
  have H0 := hid h0
  clear hY hJ h0
  gi_wp2
  go_end0
  exact ⟨⟨_, rfl⟩, .inl ⟨_, rfl, H0.out⟩⟩

set_option maxHeartbeats 2000000 in
theorem dnil_any (w : World) (hfl : HasFl w) : Calls Tryd.prog 7 #[] w fun e w' => e = .returned (.bool true) ∧ Below w.heap.size w w' := by
  have hw0 : 0 < w.heap.size := by
    obtain ⟨t, fr, hh⟩ := hfl
    exact (Array.getElem?_eq_some_iff.1 hh).1
  have hN : ∀ (w : World), (binOp .neq 49 (.func (.func 36) #[] #[]) .nilFunc).run Tryd.prog w = .ok (.bool true) w := fun w => by kernel_rfl
  obtain ⟨W2, hW2⟩ : ∃ W2, (w.alloc (.cells #[.bool false] 4)).alloc (.cells #[.int .i64 1, .int .u8 7, .bool false] 37) = W2 := ⟨_, rfl⟩
  have hB2 : Below w.heap.size w W2 := by
    rw [← hW2]
    exact ((Below.refl _ _).alloc (Nat.le_refl _) _).alloc (by simp) _
  have hz2 : W2.heap.size = w.heap.size + 2 := by rw [← hW2]; simp
  have bR := hid (show Boxed W2 w.heap.size 4 (.bool false) by
    rw [← hW2]
    exact (Boxed.new w 4 (.bool false)).alloc _)
  have hPT : PT W2 (.slice (some ⟨w.heap.size + 1, 0, none⟩) 1 1) [(1, 7, false)] := by
    have hh : W2.heap[w.heap.size + 1]? = some (.cells #[.int .i64 1, .int .u8 7, .bool false] 37 (0, 0)) := by
      rw [← hW2]
      have h := heap_alloc_new (w.alloc (.cells #[.bool false] 4)) (.cells #[.int .i64 1, .int .u8 7, .bool false] 37)
      rw [World.size_alloc] at h
      exact h
    refine ⟨_, 1, rfl, Nat.le_refl _, fun e => (by cases e), fun i hi => ?_⟩
    have : i = 0 := by simpa using hi
    subst this
    refine ⟨by simp, w.heap.size + 1, 0, rfl, ?_⟩
    simp [cell_of_row W2 _ _ _ _ _ hh]
  have HL := hid (laid_any _ [(1, 7, false)] W2 (hfl.below hB2) hPT (by simp) (by omega))
  have H1 := hid nil_read
  have H2 := hid (fun w => nil_at 5 0 (-1) w)
  have H3 := hid nil_sectors
  have H4 := hid nil_count
  have H5 := hid nil_write
  have H6 := hid nil_flush
  have H7 := hid nil_pending
  have H8 := hid nil_image
  have H9 := hid nil_durable
  have H10 := hid nil_choices
  have HB2 := hid hB2
  clear hfl hPT hB2
  refine (callsIn_wide (n := 5)).1 ?_
  refine callsIn_of_wp_marks Tryd.func7 rfl trivial ?_ rfl
  simp only [Tryd.ntmps7, List.size_toArray, List.length_nil, Nat.reduceSub, Array.replicate_succ, Array.replicate_zero, List.push_toArray, List.append_toArray, List.nil_append, List.cons_append]
  gi_wp2_with fail
  refine ⟨trivial, ?_⟩
  refine (callsIn_wide.2 HL.out).mono ?_
  rintro e w1 ⟨⟨d, f, s, cap, tail, dv, rfl, hdk⟩, hb1⟩
  have HB1 := hid (HB2.out.trans (hb1.mono HB2.out.size))
  have bR1 := hid (show Boxed w1 w.heap.size 4 (.bool false) from (hb1.block _ bR.out.lt).trans bR.out)
  have HR := hid (read_any _ d f s cap 1 tail (zs 768) _ dv _ w1 hdk (by simp [zs]) (by rw [seenP_len]; simp [zs]))
  have hone : ((seenP [(1, 7, false)]).drop (1 * 128)).take 128 = one 7 := by decide +kernel
  rw [hone] at HR
  clear hdk hb1 HL hone bR
  gi_wp2_with fail
  refine ⟨trivial, ?_⟩
  refine (callsIn_wide.2 HR.out).mono ?_
  rintro e w2 ⟨⟨v2, rfl, ho2⟩, hb2⟩
  have HA := hid (all_true v2 7 w2 ho2.reads)
  have HB2' := hid (HB1.out.trans (hb2.mono HB1.out.size))
  have bR2 := hid (show Boxed w2 w.heap.size 4 (.bool false) from (hb2.block _ bR1.out.lt).trans bR1.out)
  clear ho2 hb2 HR bR1
  gi_wp2_with fail
  refine ⟨trivial, ?_⟩
  refine (callsIn_wide.2 HA.out).mono ?_
  rintro e wz ⟨rfl, hwz⟩
  have hws := hwz.symm
  clear hwz HA
  subst hws
  gi_wp2_with fail
  refine ⟨trivial, ?_⟩
  refine (callsIn_wide.2 (H1.out _)).mono ?_
  rintro e wz ⟨rfl, hwz⟩
  have hws := hwz.symm
  clear hwz
  subst hws
  gi_wp2_with fail
  refine ⟨trivial, ?_⟩
  refine (callsIn_wide.2 (H2.out _)).mono ?_
  rintro e w3 ⟨rfl, hb3⟩
  have HB3 := hid (HB2'.out.trans (hb3.mono HB2'.out.size))
  have bR3 := hid (show Boxed w3 w.heap.size 4 (.bool false) from (hb3.block _ bR2.out.lt).trans bR2.out)
  clear hb3 bR2
  gi_wp2_with fail
  refine ⟨trivial, ?_⟩
  refine (callsIn_wide.2 (H3.out _)).mono ?_
  rintro e wz ⟨rfl, hwz⟩
  have hws := hwz.symm
  clear hwz
  subst hws
  gi_wp2_with fail
  refine ⟨trivial, ?_⟩
  refine (callsIn_wide.2 (H4.out _)).mono ?_
  rintro e wz ⟨rfl, hwz⟩
  have hws := hwz.symm
  clear hwz
  subst hws
  gi_wp2_with fail
  refine ⟨trivial, ?_⟩
  refine (callsIn_wide.2 (H5.out _)).mono ?_
  rintro e wz ⟨rfl, hwz⟩
  have hws := hwz.symm
  clear hwz
  subst hws
  gi_wp2_with fail
  refine ⟨trivial, ?_⟩
  refine (callsIn_wide.2 (H6.out _)).mono ?_
  rintro e wz ⟨rfl, hwz⟩
  have hws := hwz.symm
  clear hwz
  subst hws
  gi_wp2_with fail
  refine ⟨trivial, ?_⟩
  refine (callsIn_wide.2 (H7.out _)).mono ?_
  rintro e wz ⟨rfl, hwz⟩
  have hws := hwz.symm
  clear hwz
  subst hws
  gi_wp2_with fail
  refine ⟨trivial, ?_⟩
  refine (callsIn_wide.2 (H8.out _)).mono ?_
  rintro e wz ⟨rfl, hwz⟩
  have hws := hwz.symm
  clear hwz
  subst hws
  gi_wp2_with fail
  refine ⟨trivial, ?_⟩
  refine (callsIn_wide.2 (H9.out _)).mono ?_
  rintro e w4 ⟨rfl, hb4⟩
  have HB4 := hid (HB3.out.trans (hb4.mono HB3.out.size))
  have bR4 := hid (show Boxed w4 w.heap.size 4 (.bool false) from (hb4.block _ bR3.out.lt).trans bR3.out)
  clear hb4 bR3
  gi_wp2_with fail
  refine ⟨trivial, ?_⟩
  refine (callsIn_wide.2 (H10.out _)).mono ?_
  rintro e wz ⟨rfl, hwz⟩
  have hws := hwz.symm
  clear hwz
  subst hws
  gi_wp2_with fail
  have eg := enters_of Tryd.func36 (by kernel_rfl) rfl
  refine wpIn_rangeFunc_ownH rfl (show 1 ≤ 5 by omega) (gf := 36) (lb := #[]) rfl trivial eg
    (nothing_goes 4 w4 (fun _ _ => True)) (fun _ _ => trivial) (fun _ _ _ _ _ _ _ _ => trivial) (Below.refl _ _) (fun x => x.elim)
    (fun _ W => Boxed W w.heap.size 4 (.bool false) ∧ Below w.heap.size w W) (fun _ _ _ => False)
    (OwnFrom.and (Own.from (boxed_own _ _ _) _) (ownFrom_below (Nat.le_refl _) HB4.out.size)) (fun c s A B row h _ _ => h.elim) ⟨bR4.out, HB4.out⟩
    (fun _ _ _ => True) (fun x => x.elim) (fun l pre x => x.elim) (fun l pre x => x.elim) ?done (fun D c pre W _ h => h.elim)
  case done =>
    rintro D ys W hD rfl ⟨bv, hB⟩ hK
    have cv := bv.cell
    have fv := bv.frozen
    have BV := hid bv
    have HB := hid hB
    clear hB bv
    have hne : D ≠ w.heap.size := by have := HB4.out.size; have := bR4.out.lt; omega
    have hK' : (W.setCell ⟨w.heap.size, 0, none⟩ (.bool true)).heap[D]? = some (.deferred (some [])) := (heap_setCell_other W ⟨w.heap.size, 0, none⟩ D _ (fun e => hne e)).trans hK
    have hbx : Boxed ((W.setCell ⟨w.heap.size, 0, none⟩ (.bool true)).putObj D (.deferred none)) w.heap.size 4 (.bool true) :=
      (World.putObj_heap_other (fun e => hne e.symm)).trans (BV.out.set (.bool true))
    have hcx := hbx.cell
    have HBx := hid (show Below w.heap.size w ((W.setCell ⟨w.heap.size, 0, none⟩ (.bool true)).putObj D (.deferred none)) from
      (HB.out.setCell (p := ⟨w.heap.size, 0, none⟩) (Nat.le_refl _) (.bool true)).trans (belowK_b (w := w) (Nat.le_refl _) _ D _ _ (by have := HB4.out.size; omega) hK' rfl rfl))
    have HK := hid hK'
    clear hK hK' hne
    gi_wp2
    refine ⟨by simp, .inl ⟨_, _, rfl, run_takeDeferred HK.out, ?_⟩⟩
    refine ⟨.bool true, ?_, rfl, HBx.out⟩
    simp [results, Tryd.results7, go_sem, hcx]
end Go.Proofs.YtlfhgkoilmcmbaaDoor
