/-
  stock: summed.
-/
import Derived.Test.YtebkagmlhmdckaaGreatCkg
namespace Go.Proofs.YtebkagmlhmdckaaGreat
open Go.RowKit
set_option maxRecDepth 100000
set_option linter.unusedSimpArgs false

theorem row_reads {w W' : World} {g c : Nat} {R J : List Ln} (h : w.heap[g]? = some (.cells (lc (R ++ J)).toArray 45 (0, 0))) (hc : R.length ≤ c ∧ c ≤ 9223372036854775807) (hW : ∀ o, o < R.length * 2 → W'.cell? ⟨g, o, none⟩ = w.cell? ⟨g, o, none⟩) : RLn W' (.slice (some ⟨g, 0, none⟩) R.length c) R := by
  refine .inr ⟨g, 0, c, rfl, hc, fun j hj => ?_⟩
  have hj2 : j < (R ++ J).length := by simp; omega
  obtain ⟨a, b, _, _⟩ := row_cell hj2 h
  rw [Nat.zero_add, hW _ (by omega), hW _ (by omega), a, b, List.getElem_append_left hj]
  exact ⟨rfl, rfl⟩

set_option maxHeartbeats 8000000 in
theorem summed_any (ao : Option Addr) (cap : Nat) (L : List Ln) (w : World) (hR : RLn w (.slice ao L.length cap) L) (hl : L.length ≤ 1000000) (h0 : 0 < L.length) (hi : ∀ y ∈ L, I64 y.2) :
    Calls Tryz.prog 17 #[.slice ao L.length cap] w fun e w' => ∃ v', e = .returned v' ∧ RLn w' v' (ptN L) ∧ (∀ k, v'.ownBlock = some k → w.heap.size ≤ k) ∧ Below w.heap.size w w' := by
  have HC := hid (copied_any ao cap L w hR hl h0)
  clear hR
  go_enter Tryz.func17, Tryz.ntmps17
  go_wp2_with fail
  refine Calls.mono HC.out ?_
  rintro e w1 ⟨rfl, e1, z1, b1⟩
  obtain ⟨g, hg⟩ : ∃ g, w.heap.size = g := ⟨_, rfl⟩
  rw [hg] at e1 z1 b1 ⊢
  have HS := hid (sorted_any g L.length L w1 e1 hl)
  have B1 := hid b1
  clear e1 b1 HC
  go_wp2_with fail
  refine Calls.mono HS.out ?_
  rintro e w2 ⟨rfl, S, hp, hs, e2, hg2⟩
  have hlen : S.length = L.length := hp.length_eq
  have B2 := hid (B1.out.grown hg2 (by omega) (fun k hk => by cases hk; exact Nat.le_refl _))
  have HM := hid (mg_is hp hs hi)
  have z2 := hg2.size
  have E2 := hid e2
  clear HS e2 hg2 hs hp
  go_wp2_with fail
  go_loopw [4, 13] (fun n i wr => ∃ k : Nat, k ≤ S.length ∧ i = .int .i64 (k : Int) ∧ n = .int .i64 ((((S.take k).foldl mgS []).length : Nat) : Int) ∧ (∃ J : List Ln, ((S.take k).foldl mgS []).length + J.length = k ∧ wr.heap[g]? = some (.cells (lc ((S.take k).foldl mgS [] ++ J ++ S.drop k)).toArray 45 (0, 0))) ∧ Below g w wr) (fun _ i _ => S.length - (intOf i).toNat)
  case atStart => exact ⟨0, by omega, rfl, rfl, ⟨[], rfl, by simpa using E2.out⟩, B2.out⟩
  case round =>
    obtain ⟨k, hk, rfl, rfl, ⟨J, hJ, hrow⟩, hb⟩ := hrel
    have hz := hb.size
    have hgl : g < wr.heap.size := (Array.getElem?_eq_some_iff.1 hrow).1
    by_cases h : k < S.length
    · have hI : (k : Int) < (L.length : Int) := by omega
      have HT := hid (mg_take S k h)
      have hxk : ∃ x : Ln, S[k]'h = x := ⟨_, rfl⟩
      obtain ⟨x, ex⟩ := hxk
      have hdr : S.drop k = x :: S.drop (k + 1) := by rw [← ex]; exact List.drop_eq_getElem_cons h
      rw [hdr] at hrow
      rw [ex] at HT
      generalize hA : (S.take k).foldl mgS [] = A at *
      have hlt : k < (A ++ J ++ x :: S.drop (k + 1)).length := by simp; omega
      have hRk : (A ++ J ++ x :: S.drop (k + 1))[k]'hlt = x := by
        rw [List.getElem_append_right (by simp; omega)]
        simp [hJ]
      obtain ⟨d0, d1, _, _⟩ := row_cell hlt hrow
      rw [hRk] at d0 d1
      have bw : Below wr.heap.size wr (wr.alloc (.cells #[.string x.1, .int .i64 x.2] 45)) := (Below.refl _ _).alloc (Nat.le_refl _) _
      obtain ⟨W5, hW5⟩ : ∃ W5, wr.alloc (.cells #[.string x.1, .int .i64 x.2] 45) = W5 := ⟨_, rfl⟩
      rw [hW5] at bw
      have row5 := (bw.block g hgl).trans hrow
      have x5 : W5.heap[wr.heap.size]? = some (.cells #[.string x.1, .int .i64 x.2] 45 (0, 0)) := by rw [← hW5]; exact heap_alloc_new wr _
      have b5 := hb.trans (bw.mono (by omega))
      have K := hid (fun (wx : World) (hx : Below W5.heap.size W5 wx) => (show (wx.cell? ⟨wr.heap.size, 0, none⟩ = some (.string x.1) ∧ wx.cell? ⟨wr.heap.size, 1, none⟩ = some (.int .i64 x.2)) ∧ wx.heap[g]? = some (.cells (lc (A ++ J ++ x :: S.drop (k + 1))).toArray 45 (0, 0)) from by
        have hx5 := (hx.block wr.heap.size ((Array.getElem?_eq_some_iff.1 x5).1)).trans x5
        exact ⟨⟨by rw [Lib.cell_of_heap hx5]; rfl, by rw [Lib.cell_of_heap hx5]; rfl⟩, (hx.block g (Nat.lt_of_lt_of_le hgl bw.size)).trans row5⟩))
      have HW5 := hid hW5
      have HB5 := hid b5
      have hz5 := bw.size
      clear hrow hb hdr ex hW5 x5 b5 row5 bw
      go_upto_region 7 with fail
      rw [HW5.out]
      clear d0 d1 HW5
      have hset : (A ++ J ++ x :: S.drop (k + 1)).set A.length x = (A ++ [x]) ++ (J ++ [x]).tail ++ S.drop (k + 1) := by
        rw [List.append_assoc, List.set_append_right _ _ (Nat.le_refl _), Nat.sub_self]
        cases J <;> simp
      have hJt : (A ++ [x]).length + (J ++ [x]).tail.length = k + 1 := by simp; omega
      have HSet := hid (And.intro hset hJt)
      clear hset hJt
      have bK : k + 1 ≤ S.length := h
      by_cases hA0 : A = []
      · subst hA0
        have HT := hid (HT.out.trans (show mgS [] x = [] ++ [x] from rfl))
        go_quiet (fail)
        obtain ⟨wq, hwq⟩ : ∃ wq, W5.drewN nq = wq := ⟨_, rfl⟩
        have BQ := hid (show Below W5.heap.size W5 wq by rw [← hwq]; exact below_drewN (Below.refl _ _) nq)
        rw [hwq]
        clear hwq nq
        obtain ⟨⟨o0, o1⟩, rq⟩ := K.out _ BQ.out
        obtain ⟨i0, i1, i2, i3⟩ := row_cell (i := 0) (by simp; omega) rq
        have SR := hid (row_set (i := 0) x rq)
        have BB := hid (((HB5.out.trans (BQ.out.mono (by omega))).setCell (p := ⟨g, 0 * 2, none⟩) (Nat.le_refl _) (.string x.1)).setCell (p := ⟨g, 0 * 2 + 1, none⟩) (Nat.le_refl _) (.int .i64 x.2))
        clear rq
        go_wp2_with fail
        go_roundw
        case rel => exact ⟨k + 1, by omega, by go_num, by rw [HT.out]; first | rfl | go_num, ⟨(J ++ [x]).tail, by rw [HT.out]; exact HSet.out.2, by rw [HT.out, ← HSet.out.1]; exact SR.out⟩, BB.out⟩
        case measure => simp [intOf]; omega
      · obtain ⟨B, a, hA1⟩ : ∃ B a, A = B ++ [a] := by
          rcases List.eq_nil_or_concat A with e | ⟨B, a, e⟩
          · exact absurd e hA0
          · exact ⟨B, a, by rw [e, List.concat_eq_append]⟩
        subst hA1
        clear hA0
        have hBl : B.length < (B ++ [a] ++ J ++ x :: S.drop (k + 1)).length := by simp
        have hBa : (B ++ [a] ++ J ++ x :: S.drop (k + 1))[B.length]'hBl = a := by simp
        have hJ2 : B.length + 1 + J.length = k := by simpa using hJ
        have hbI : (B.length : Int) + 1 ≤ (L.length : Int) := by omega
        have r0 := fun n => (row_cell hBl (K.out _ (below_drewN (Below.refl W5.heap.size W5) n)).2).1
        have r0' := (row_cell hBl (K.out _ (Below.refl W5.heap.size W5)).2).1
        have x0 := fun n => (K.out _ (below_drewN (Below.refl W5.heap.size W5) n)).1.1
        have x0' := (K.out _ (Below.refl W5.heap.size W5)).1.1
        rw [hBa] at r0'
        simp only [hBa] at r0
        by_cases c : ky a = ky x
        · have eb : (a.1.toList == x.1.toList) = true := by
            unfold ky at c
            rw [ByteArray.toList_eq, ByteArray.toList_eq, c]
            simp
          have HT := hid (HT.out.trans (show mgS (B ++ [a]) x = B ++ [(a.1, wrap64 (a.2 + x.2))] by unfold mgS; rw [List.getLast?_concat]; simp [c]))
          clear c
          go_quiet (fail)
          obtain ⟨wq, hwq⟩ : ∃ wq, W5.drewN nq = wq := ⟨_, rfl⟩
          have BQ := hid (show Below W5.heap.size W5 wq by rw [← hwq]; exact below_drewN (Below.refl _ _) nq)
          have BD := hid (show Below W5.heap.size W5 wq.drew from below_drewN BQ.out 1)
          rw [hwq]
          clear hwq nq r0 r0' x0 x0' eb
          obtain ⟨⟨o0, o1⟩, rq⟩ := K.out _ BD.out
          obtain ⟨i0, i1, i2, i3⟩ := row_cell hBl rq
          rw [hBa] at i0 i1
          have hs2 : (B ++ [a] ++ J ++ x :: S.drop (k + 1)).set B.length (a.1, wrap64 (a.2 + x.2)) = (B ++ [(a.1, wrap64 (a.2 + x.2))]) ++ (J ++ [x]) ++ S.drop (k + 1) := by simp
          have SR := row_setq (wrap64 (a.2 + x.2)) hBl rq
          rw [hBa, hs2] at SR
          have SR := hid SR
          have BB := hid ((HB5.out.trans (BD.out.mono (by omega))).setCell (p := ⟨g, B.length * 2 + 1, none⟩) (Nat.le_refl _) (.int .i64 (wrap64 (a.2 + x.2))))
          clear rq hs2
          go_wp2_with fail
          have hb1 : (B.length : Int) < (L.length : Int) := by omega
          have hb2 : B.length < L.length := by omega
          have hb4 : IntKind.i64.wrap (B.length : Int) = (B.length : Int) := IntWalk.i64_in _ (by omega)
          have en : ((B ++ [a]).length : Int) = (B.length : Int) + 1 := by simp
          rw [en]
          clear en
          go_region_with (fail)
          all_goals (
            go_wp2_with fail
            go_roundw
            case rel => exact ⟨k + 1, by omega, by go_num, by rw [HT.out]; first | rfl | (simp; done) | (simp; go_num) | go_num, ⟨J ++ [x], by rw [HT.out]; simp; omega, by rw [HT.out]; first | exact SR.out | (simpa [IntWalk.i64_left] using SR.out)⟩, by first | exact BB.out | (simpa [IntWalk.i64_left] using BB.out)⟩
            case measure => simp [intOf]; omega)
        · have eb : (a.1.toList == x.1.toList) = false := by
            unfold ky at c
            rw [ByteArray.toList_eq, ByteArray.toList_eq]
            simpa using c
          have HT := hid (HT.out.trans (show mgS (B ++ [a]) x = B ++ [a] ++ [x] by unfold mgS; rw [List.getLast?_concat]; simp [c]))
          clear c
          go_quiet (fail)
          obtain ⟨wq, hwq⟩ : ∃ wq, W5.drewN nq = wq := ⟨_, rfl⟩
          have BQ := hid (show Below W5.heap.size W5 wq by rw [← hwq]; exact below_drewN (Below.refl _ _) nq)
          rw [hwq]
          clear hwq nq r0 r0' x0 x0' eb
          obtain ⟨⟨o0, o1⟩, rq⟩ := K.out _ BQ.out
          obtain ⟨i0, i1, i2, i3⟩ := row_cell (i := B.length + 1) (by simp; omega) rq
          have SR := hid (row_set (i := B.length + 1) x rq)
          have BB := hid (((HB5.out.trans (BQ.out.mono (by omega))).setCell (p := ⟨g, (B.length + 1) * 2, none⟩) (Nat.le_refl _) (.string x.1)).setCell (p := ⟨g, (B.length + 1) * 2 + 1, none⟩) (Nat.le_refl _) (.int .i64 x.2))
          clear rq
          go_wp2_with fail
          go_roundw
          case rel => exact ⟨k + 1, by omega, by go_num, by rw [HT.out]; first | rfl | (simp; go_num) | go_num, ⟨(J ++ [x]).tail, by rw [HT.out]; exact HSet.out.2, by rw [HT.out, ← HSet.out.1]; simpa using SR.out⟩, BB.out⟩
          case measure => simp [intOf]; omega
    · have hI : ¬ (k : Int) < (L.length : Int) := by omega
      have hkL : k = S.length := by omega
      subst hkL
      rw [List.take_length] at hJ hrow ⊢
      rw [List.drop_length, List.append_nil, HM.out] at hrow
      rw [HM.out] at hJ ⊢
      have HR := hid hrow
      have HBB := hid hb
      clear hrow hb
      go_wp2_with fail
      · rw [clear_none]
        go_wp2_with fail
        go_ret
        exact ⟨_, rfl, row_reads HR.out ⟨by omega, by omega⟩ (fun _ _ => rfl), fun k hk => by cases hk; exact Nat.le_of_eq hg, by rw [hg]; exact HBB.out⟩
      · have hcc : ∀ j, j < (L.length - (ptN L).length) * 2 → (wr.cell? ⟨g, (ptN L).length * 2 + j, none⟩).isSome = true := by
          intro j hj
          rw [Lib.cell_of_heap HR.out]
          simp [lc_len]
          omega
        obtain ⟨vs, hv⟩ := clear_lines wr 0 g ((ptN L).length * 2) (L.length - (ptN L).length) (L.length - (ptN L).length) (by omega) hcc (fun j _ => Lib.frozen_of_heap HR.out _)
        rw [hv]
        clear hcc hv
        go_wp2_with fail
        go_ret
        exact ⟨_, rfl, row_reads HR.out ⟨by omega, by omega⟩ (fun o ho => World.cell?_setCells_out g vs _ wr ⟨g, o, none⟩ (fun _ _ => .inl ho)), fun k hk => by cases hk; exact Nat.le_of_eq hg, by rw [hg]; exact below_setCells (Nat.le_refl _) vs _ wr HBB.out⟩
end Go.Proofs.YtebkagmlhmdckaaGreat
