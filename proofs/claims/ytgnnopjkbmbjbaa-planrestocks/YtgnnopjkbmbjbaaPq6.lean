/-
  plan: the document's Restock.
-/
import Derived.Test.YtgnnopjkbmbjbaaPq5
import Derived.Deep.DeepCutAuto
import Derived.Deep.CutRange
namespace Go.Proofs.Ytgnnopjkbmbjbaa
open Go.RowKit
set_option maxRecDepth 100000
set_option linter.unusedSimpArgs false

theorem row_cells {w : World} {b : Nat} {l : List Value} {t : TypeId} (h : w.heap[b]? = some (.cells l.toArray t (0, 0))) (j : Nat) (u : Value) (hj : l[j]? = some u) : w.cell? ⟨b, j, none⟩ = some u := by
  rw [Lib.cell_of_heap h]; simpa using hj
set_option maxHeartbeats 4000000 in
theorem rrestock_any (v : Value) (L : List It) (w : World) (h : RL itC 6 w v L) (hl : (L.length : Int) ≤ 9223372036854775807) (hsz : ∀ x ∈ L, (x.code.size : Int) ≤ 9223372036854775807) :
    Calls Try.prog 10 #[v] w fun e w' => RsE L w.heap.size e w' ∧ Below w.heap.size w w' := by
  have H := hid h
  obtain ⟨ao, cp, rfl⟩ := h.len0
  clear h
  by_cases hL : 512 < L.length
  · have hI : (512 : Int) < (L.length : Int) := by omega
    have HA := hid (show RsA L [] 1 0 from .inl ⟨hL, rfl, rfl, rfl⟩)
    clear hL
    go_enter Try.func10, Try.ntmps10
    go_wp2
    go_ret3
    exact ⟨⟨_, [], 1, 0, rfl, HA.out, OL.nil _ _⟩, Below.refl _ _⟩
  · have hI : ¬ (512 : Int) < (L.length : Int) := by omega
    have HL := hid (show L.length ≤ 512 by omega)
    have HS := hid hsz
    clear hL hsz
    go_enter Try.func10, Try.ntmps10
    go_wp2_with fail
    go_loopw [6, 5] (fun i l wr => ∃ k : Nat, k ≤ L.length ∧ i = .int .i64 (k : Int) ∧ OL lnC 2 31 wr w.heap.size l (rsL (L.take k)) ∧ okTo L k ∧ Below w.heap.size w wr) (fun i _ _ => L.length - (intOf i).toNat)
    case atStart => exact ⟨0, by omega, rfl, by simpa [rsL] using OL.nil _ _, fun i _ h => by omega, Below.refl _ _⟩
    case round =>
      obtain ⟨k, hk, rfl, how, hok, hb⟩ := hrel
      have HO := hid hok
      have HOW := hid how
      have HB := hid hb
      clear hok how
      by_cases hlt : k < L.length
      · have hIk : (k : Int) < (L.length : Int) := by omega
        obtain ⟨g, off, c, e1, hc, c0, c1, c2, c3, c4, c5⟩ := item_at (H.out.below hb) k hlt
        cases e1
        have HT := hid (rsL_take L k hlt)
        have HLn := hid (rsL_len (L.take k))
        have HLk := hid (show (L.take k).length = k by simp; omega)
        have HZ := hid (HS.out _ (List.getElem_mem hlt))
        have HD := hid (itOk_doc (L[k]'hlt) L k)
        have HY := hid (fun (q : itOk (L[k]'hlt) (ahd L k) = true) => show okTo L (k + 1) from fun i hi h2 => by
          by_cases e : i = k
          · subst e; exact q
          · exact HO.out i hi (by omega))
        have HN := hid (fun (q : itOk (L[k]'hlt) (ahd L k) = false) => show RsA L [] 171 k from .inr (.inl ⟨HL.out, k, hlt, HO.out, q, rfl, rfl, rfl⟩))
        have HP : 0 < k → ∃ y : It, wr.cell? ⟨g, off + (k - 1) * 6, none⟩ = some (.string y.code) ∧ ahd L k = y.code := fun h0 => by
          obtain ⟨j, rfl⟩ : ∃ j, k = j + 1 := ⟨k - 1, by omega⟩
          obtain ⟨g', off', c', e1', _, d0, _⟩ := item_at (H.out.below hb) j (by omega)
          cases e1'
          exact ⟨L[j]'(by omega), d0, ahd_succ L j (by omega)⟩
        have HPH := hid HP
        clear hb HP
        unfold rs1 at HT
        generalize L[k]'hlt = x at *
        obtain ⟨xc, xa, xb, xp, xu, xk⟩ := x
        dsimp only at *
        have NW := hid (heap_alloc_new wr (.cells #[.string xc, .int .i64 xa, .int .i64 xb, .int .i64 xp, .int .i64 xu, .int .i64 xk] 24))
        have HOa := hid (OL.alloc HOW.out (.cells #[.string xc, .int .i64 xa, .int .i64 xb, .int .i64 xp, .int .i64 xu, .int .i64 xk] 24))
        have HBa := hid (bel_step HB.out (alloc_below wr (.cells #[.string xc, .int .i64 xa, .int .i64 xb, .int .i64 xp, .int .i64 xu, .int .i64 xk] 24)))
        have HLI := hid (fun wx => rline_any xc 1 (ahd L k) (decide (k = 0)) 1 wx HZ.out)
        have REST : ∀ wx : World, ∀ hd : ByteArray, True := fun _ _ => trivial
        clear REST
        rcases Nat.eq_zero_or_pos k with h0 | h0
        · have e0 : ahd L k = ⟨#[]⟩ := by rw [h0]; rfl
          have e1 : decide (k = 0) = true := decide_eq_true h0
          have e2 : ¬ (0 : Int) < (k : Int) := by omega
          have e3 : ((k : Int) == 0) = true := by rw [h0]; rfl
          rw [e0, e1] at HLI HD
          rw [e0] at HY HN
          clear HPH e0 e1 h0
          go_wp2_with fail
          refine Calls.mono (HLI.out _) ?_
          rintro e w2 ⟨rfl, s2⟩
          generalize hb0 : lnOk xc 1 ⟨#[]⟩ true 1 = b0 at *
          clear hb0 HLI
          have B2 := hid (bel_step HBa.out s2)
          have O2 := hid (HOa.out.below s2)
          have N2 := hid ((s2.block _ (Array.getElem?_eq_some_iff.1 NW.out).1).trans NW.out)
          have hbx := Nat.lt_of_lt_of_le (Array.getElem?_eq_some_iff.1 NW.out).1 s2.size
          clear NW HOa HBa s2
          generalize wr.heap.size = bx at *
          have x0 := row_cells (l := [.string xc, .int .i64 xa, .int .i64 xb, .int .i64 xp, .int .i64 xu, .int .i64 xk]) N2.out 0 _ rfl
          have x1 := row_cells (l := [.string xc, .int .i64 xa, .int .i64 xb, .int .i64 xp, .int .i64 xu, .int .i64 xk]) N2.out 1 _ rfl
          have x2 := row_cells (l := [.string xc, .int .i64 xa, .int .i64 xb, .int .i64 xp, .int .i64 xu, .int .i64 xk]) N2.out 2 _ rfl
          have x3 := row_cells (l := [.string xc, .int .i64 xa, .int .i64 xb, .int .i64 xp, .int .i64 xu, .int .i64 xk]) N2.out 3 _ rfl
          have x4 := row_cells (l := [.string xc, .int .i64 xa, .int .i64 xb, .int .i64 xp, .int .i64 xu, .int .i64 xk]) N2.out 4 _ rfl
          have x5 := row_cells (l := [.string xc, .int .i64 xa, .int .i64 xb, .int .i64 xp, .int .i64 xu, .int .i64 xk]) N2.out 5 _ rfl
          go_wp2_with fail
          obtain ⟨W, hW⟩ : ∃ W, w2.alloc (.cells #[.int .i64 xa, .int .i64 xb, .int .i64 xp, .int .i64 xu] 3) = W := ⟨_, rfl⟩
          have NI := hid (show W.heap[w2.heap.size]? = some (.cells #[.int .i64 xa, .int .i64 xb, .int .i64 xp, .int .i64 xu] 3 (0, 0)) by rw [← hW]; exact heap_alloc_new w2 _)
          have B3 := hid (show Below w.heap.size w W by rw [← hW]; exact bel_step B2.out (alloc_below _ _))
          have O3 := hid (show OL lnC 2 31 W w.heap.size _ (rsL (L.take k)) by rw [← hW]; exact O2.out.alloc _)
          replace x0 : W.cell? ⟨bx, 0, none⟩ = some (.string xc) := by rw [← hW]; exact below_cells (alloc_below _ _) _ _ x0
          replace x1 : W.cell? ⟨bx, 1, none⟩ = some (.int .i64 xa) := by rw [← hW]; exact below_cells (alloc_below _ _) _ _ x1
          replace x2 : W.cell? ⟨bx, 2, none⟩ = some (.int .i64 xb) := by rw [← hW]; exact below_cells (alloc_below _ _) _ _ x2
          replace x3 : W.cell? ⟨bx, 3, none⟩ = some (.int .i64 xp) := by rw [← hW]; exact below_cells (alloc_below _ _) _ _ x3
          replace x4 : W.cell? ⟨bx, 4, none⟩ = some (.int .i64 xu) := by rw [← hW]; exact below_cells (alloc_below _ _) _ _ x4
          replace x5 : W.cell? ⟨bx, 5, none⟩ = some (.int .i64 xk) := by rw [← hW]; exact below_cells (alloc_below _ _) _ _ x5
          have FC := hid (show ∀ j : Nat, j < 4 → W.cell? ⟨w2.heap.size, j, none⟩ = some (.int .i64 (fv xa xb xp xu j)) from fun j hj => row_cells (l := [.int .i64 xa, .int .i64 xb, .int .i64 xp, .int .i64 xu]) NI.out j _ (by match j, hj with | 0, _ => rfl | 1, _ => rfl | 2, _ => rfl | 3, _ => rfl))
          rw [hW]
          clear hW B2 O2 N2 NI hbx
          generalize w2.heap.size = bi at *
          generalize fv xa xb xp xu = f at *
          go_loop [9, 11] (fun o i => ∃ j : Nat, j ≤ 4 ∧ i = .int .i64 (j : Int) ∧ o = .bool (b0 && okV f j)) (fun _ i => 4 - (intOf i).toNat)
          case atStart => exact ⟨0, by omega, rfl, by simp [okV]⟩
          case round =>
            obtain ⟨i, hi, rfl, rfl⟩ := hrel
            by_cases hi4 : i < 4
            · have fc := FC.out i hi4
              have i4 : (i : Int) < 4 := by omega
              have HV := hid (okV_succ f i)
              generalize f i = z at *
              by_cases z1 : z < 0
              · have HW := hid (show wiB z 0 = false by unfold wiB; rw [decide_eq_false (by omega)]; rfl)
                go_wp2_with fail
                go_round
                case rel => exact ⟨i + 1, by omega, by go_num, by rw [HV.out, HW.out]; simp⟩
                case measure => simp [intOf]; omega
              · by_cases z2 : 1099511627776 < z
                · have HW := hid (show wiB z 0 = false by unfold wiB; rw [decide_eq_false (p := z ≤ 1099511627776) (by omega)]; simp)
                  go_wp2_with fail
                  go_round
                  case rel => exact ⟨i + 1, by omega, by go_num, by rw [HV.out, HW.out]; simp⟩
                  case measure => simp [intOf]; omega
                · have HW := hid (show wiB z 0 = true by unfold wiB; rw [decide_eq_true (p := z ≤ 1099511627776) (by omega), decide_eq_true (p := (0 : Int) ≤ z) (by omega)]; rfl)
                  go_wp2_with fail
                  go_round
                  case rel => exact ⟨i + 1, by omega, by go_num, by rw [HV.out, HW.out]; simp⟩
                  case measure => simp [intOf]; omega
            · obtain rfl : i = 4 := by omega
              generalize (b0 && okV f 4) = b1 at *
              have PK := hid (show wiB xk 1 = (decide (1 ≤ xk) && decide (xk ≤ 1099511627776)) from rfl)
              rw [PK.out] at HD
              clear PK FC
              cases b1
              · have HN2 := hid (HN.out (by rw [← HD.out]; rfl))
                go_wp2
                go_ret3
                exact ⟨⟨_, [], 171, k, rfl, HN2.out, OL.nil _ _⟩, B3.out⟩
              by_cases p1 : xk < 1
              · have HN2 := hid (HN.out (by rw [← HD.out, decide_eq_false (p := 1 ≤ xk) (by omega)]; rfl))
                go_wp2
                go_ret3
                exact ⟨⟨_, [], 171, k, rfl, HN2.out, OL.nil _ _⟩, B3.out⟩
              by_cases p2 : 1099511627776 < xk
              · have HN2 := hid (HN.out (by rw [← HD.out, decide_eq_false (p := xk ≤ 1099511627776) (by omega)]; simp))
                go_wp2
                go_ret3
                exact ⟨⟨_, [], 171, k, rfl, HN2.out, OL.nil _ _⟩, B3.out⟩
              have OK := show itOk ⟨xc, xa, xb, xp, xu, xk⟩ ⟨#[]⟩ = true by rw [← HD.out, decide_eq_true (p := 1 ≤ xk) (by omega), decide_eq_true (p := xk ≤ 1099511627776) (by omega)]; rfl
              have HY2 := hid (HY.out OK)
              unfold itOk wiB at OK
              simp only [Bool.and_eq_true, decide_eq_true_eq] at OK
              obtain ⟨_, ⟨a1, a2⟩, ⟨b1', b2⟩, ⟨pp1, pp2⟩, ⟨u1, u2⟩, k1, k2⟩ := OK
              clear HD HN HY
              by_cases hw : xa + xb ≤ xp ∧ xa + xb < xu
              · have hq := (wan_pos ⟨xc, xa, xb, xp, xu, xk⟩ (by exact k1)).2 hw
                rw [if_pos hq] at HT
                have eq : wan ⟨xc, xa, xb, xp, xu, xk⟩ = (xu - (xa + xb) + xk - 1) / xk * xk := if_neg (by simp only; omega)
                rw [eq] at HT
                have q0 : 0 ≤ (xu - (xa + xb) + xk - 1) / xk := Int.ediv_nonneg (by omega) (by omega)
                have q1 : (xu - (xa + xb) + xk - 1) / xk * xk ≤ xu - (xa + xb) + xk - 1 := Int.ediv_mul_le _ (by omega)
                have q2 : (xu - (xa + xb) + xk - 1) / xk ≤ xu - (xa + xb) + xk - 1 := Int.ediv_le_self _ (by omega)
                have q3 : 0 ≤ (xu - (xa + xb) + xk - 1) / xk * xk := Int.mul_nonneg q0 (by omega)
                have qt : (xu - (xa + xb) + xk - 1).tdiv xk = (xu - (xa + xb) + xk - 1) / xk := Int.tdiv_eq_ediv_of_nonneg (by omega)
                generalize (xu - (xa + xb) + xk - 1) / xk = q at *
                have hk0 : ¬ xk = 0 := by omega
                obtain ⟨hw1, hw2⟩ := hw
                have hh := HLn.out
                rw [HLk.out] at hh
                have hl5 := HL.out
                have HOx := hid (OL.alloc O3.out (.cells #[.string xc, .int .i64 (q * xk)] 31))
                have HBx := hid (bel_step B3.out (alloc_below W (.cells #[.string xc, .int .i64 (q * xk)] 31)))
                clear hq eq
                go_wp2_with (at_builtin; refine wpList_appL (enc := lnC) lninfo Try.underlying25 rfl (by omega) lnC_len lnC_one rfl _ _ rfl w.heap.size _ _ rfl HOx.out _ [(xc, q * xk)] rfl (rl_one (heap_alloc_new W _) rfl) ?hlen ?hl2 HBx.out.size ?hnext)
                case hlen => first | (simp; omega) | (simp only [List.length_cons, List.length_nil]; omega) | omega
                case hl2 => first | (simp [maxLen]; omega) | (simp only [maxLen, List.length_cons, List.length_nil]; omega) | (unfold maxLen; omega)
                case hnext =>
                  intro v2 w4 ho2 hg2
                  have HO2 := hid ho2
                  have HB2 := hid (HBx.out.grown hg2 HBx.out.size (fun b hb => (HOx.out.block_ge b hb).1))
                  clear ho2 hg2
                  go_wp2_with fail
                  go_roundw
                  case rel => exact ⟨k + 1, by omega, by go_num, by rw [HT.out]; exact HO2.out, HY2.out, HB2.out⟩
                  case measure => simp [intOf]; omega
              · have hq := mt (wan_pos ⟨xc, xa, xb, xp, xu, xk⟩ (by exact k1)).1 hw
                rw [if_neg hq, List.append_nil] at HT
                clear hq
                by_cases hw1 : xa + xb ≤ xp
                · have hw2 : ¬ xa + xb < xu := by omega
                  clear hw
                  go_wp2_with fail
                  go_roundw
                  case rel => exact ⟨k + 1, by omega, by go_num, by rw [HT.out]; exact O3.out, HY2.out, B3.out⟩
                  case measure => simp [intOf]; omega
                · clear hw
                  go_wp2_with fail
                  go_roundw
                  case rel => exact ⟨k + 1, by omega, by go_num, by rw [HT.out]; exact O3.out, HY2.out, B3.out⟩
                  case measure => simp [intOf]; omega
        · obtain ⟨y, hy, ey⟩ := HPH.out h0
          obtain ⟨j, hj⟩ : ∃ j : Nat, j = k - 1 := ⟨_, rfl⟩
          rw [← hj] at hy
          have e1 : decide (k = 0) = false := decide_eq_false (by omega)
          have e2 : (0 : Int) < (k : Int) := by omega
          have e3 : ((k : Int) == 0) = false := by rw [beq_eq_false_iff_ne]; omega
          have j1 : (k : Int) - 1 = (j : Int) := by omega
          have j2 : (j : Int) < (L.length : Int) := by omega
          have hyo := fun o => below_cells (alloc_below wr o) _ _ hy
          rw [ey, e1] at HLI HD
          rw [ey] at HY HN
          generalize y.code = yc at *
          clear HPH e1 h0 ey hj
          go_wp2_with fail
          refine Calls.mono (HLI.out _) ?_
          rintro e w2 ⟨rfl, s2⟩
          generalize hb0 : lnOk xc 1 yc false 1 = b0 at *
          clear hb0 HLI
          have B2 := hid (bel_step HBa.out s2)
          have O2 := hid (HOa.out.below s2)
          have N2 := hid ((s2.block _ (Array.getElem?_eq_some_iff.1 NW.out).1).trans NW.out)
          have hbx := Nat.lt_of_lt_of_le (Array.getElem?_eq_some_iff.1 NW.out).1 s2.size
          clear NW HOa HBa s2
          generalize wr.heap.size = bx at *
          have x0 := row_cells (l := [.string xc, .int .i64 xa, .int .i64 xb, .int .i64 xp, .int .i64 xu, .int .i64 xk]) N2.out 0 _ rfl
          have x1 := row_cells (l := [.string xc, .int .i64 xa, .int .i64 xb, .int .i64 xp, .int .i64 xu, .int .i64 xk]) N2.out 1 _ rfl
          have x2 := row_cells (l := [.string xc, .int .i64 xa, .int .i64 xb, .int .i64 xp, .int .i64 xu, .int .i64 xk]) N2.out 2 _ rfl
          have x3 := row_cells (l := [.string xc, .int .i64 xa, .int .i64 xb, .int .i64 xp, .int .i64 xu, .int .i64 xk]) N2.out 3 _ rfl
          have x4 := row_cells (l := [.string xc, .int .i64 xa, .int .i64 xb, .int .i64 xp, .int .i64 xu, .int .i64 xk]) N2.out 4 _ rfl
          have x5 := row_cells (l := [.string xc, .int .i64 xa, .int .i64 xb, .int .i64 xp, .int .i64 xu, .int .i64 xk]) N2.out 5 _ rfl
          go_wp2_with fail
          obtain ⟨W, hW⟩ : ∃ W, w2.alloc (.cells #[.int .i64 xa, .int .i64 xb, .int .i64 xp, .int .i64 xu] 3) = W := ⟨_, rfl⟩
          have NI := hid (show W.heap[w2.heap.size]? = some (.cells #[.int .i64 xa, .int .i64 xb, .int .i64 xp, .int .i64 xu] 3 (0, 0)) by rw [← hW]; exact heap_alloc_new w2 _)
          have B3 := hid (show Below w.heap.size w W by rw [← hW]; exact bel_step B2.out (alloc_below _ _))
          have O3 := hid (show OL lnC 2 31 W w.heap.size _ (rsL (L.take k)) by rw [← hW]; exact O2.out.alloc _)
          replace x0 : W.cell? ⟨bx, 0, none⟩ = some (.string xc) := by rw [← hW]; exact below_cells (alloc_below _ _) _ _ x0
          replace x1 : W.cell? ⟨bx, 1, none⟩ = some (.int .i64 xa) := by rw [← hW]; exact below_cells (alloc_below _ _) _ _ x1
          replace x2 : W.cell? ⟨bx, 2, none⟩ = some (.int .i64 xb) := by rw [← hW]; exact below_cells (alloc_below _ _) _ _ x2
          replace x3 : W.cell? ⟨bx, 3, none⟩ = some (.int .i64 xp) := by rw [← hW]; exact below_cells (alloc_below _ _) _ _ x3
          replace x4 : W.cell? ⟨bx, 4, none⟩ = some (.int .i64 xu) := by rw [← hW]; exact below_cells (alloc_below _ _) _ _ x4
          replace x5 : W.cell? ⟨bx, 5, none⟩ = some (.int .i64 xk) := by rw [← hW]; exact below_cells (alloc_below _ _) _ _ x5
          have FC := hid (show ∀ j : Nat, j < 4 → W.cell? ⟨w2.heap.size, j, none⟩ = some (.int .i64 (fv xa xb xp xu j)) from fun j hj => row_cells (l := [.int .i64 xa, .int .i64 xb, .int .i64 xp, .int .i64 xu]) NI.out j _ (by match j, hj with | 0, _ => rfl | 1, _ => rfl | 2, _ => rfl | 3, _ => rfl))
          rw [hW]
          clear hW B2 O2 N2 NI hbx
          generalize w2.heap.size = bi at *
          generalize fv xa xb xp xu = f at *
          go_loop [9, 11] (fun o i => ∃ j : Nat, j ≤ 4 ∧ i = .int .i64 (j : Int) ∧ o = .bool (b0 && okV f j)) (fun _ i => 4 - (intOf i).toNat)
          case atStart => exact ⟨0, by omega, rfl, by simp [okV]⟩
          case round =>
            obtain ⟨i, hi, rfl, rfl⟩ := hrel
            by_cases hi4 : i < 4
            · have fc := FC.out i hi4
              have i4 : (i : Int) < 4 := by omega
              have HV := hid (okV_succ f i)
              generalize f i = z at *
              by_cases z1 : z < 0
              · have HW := hid (show wiB z 0 = false by unfold wiB; rw [decide_eq_false (by omega)]; rfl)
                go_wp2_with fail
                go_round
                case rel => exact ⟨i + 1, by omega, by go_num, by rw [HV.out, HW.out]; simp⟩
                case measure => simp [intOf]; omega
              · by_cases z2 : 1099511627776 < z
                · have HW := hid (show wiB z 0 = false by unfold wiB; rw [decide_eq_false (p := z ≤ 1099511627776) (by omega)]; simp)
                  go_wp2_with fail
                  go_round
                  case rel => exact ⟨i + 1, by omega, by go_num, by rw [HV.out, HW.out]; simp⟩
                  case measure => simp [intOf]; omega
                · have HW := hid (show wiB z 0 = true by unfold wiB; rw [decide_eq_true (p := z ≤ 1099511627776) (by omega), decide_eq_true (p := (0 : Int) ≤ z) (by omega)]; rfl)
                  go_wp2_with fail
                  go_round
                  case rel => exact ⟨i + 1, by omega, by go_num, by rw [HV.out, HW.out]; simp⟩
                  case measure => simp [intOf]; omega
            · obtain rfl : i = 4 := by omega
              generalize (b0 && okV f 4) = b1 at *
              have PK := hid (show wiB xk 1 = (decide (1 ≤ xk) && decide (xk ≤ 1099511627776)) from rfl)
              rw [PK.out] at HD
              clear PK FC
              cases b1
              · have HN2 := hid (HN.out (by rw [← HD.out]; rfl))
                go_wp2
                go_ret3
                exact ⟨⟨_, [], 171, k, rfl, HN2.out, OL.nil _ _⟩, B3.out⟩
              by_cases p1 : xk < 1
              · have HN2 := hid (HN.out (by rw [← HD.out, decide_eq_false (p := 1 ≤ xk) (by omega)]; rfl))
                go_wp2
                go_ret3
                exact ⟨⟨_, [], 171, k, rfl, HN2.out, OL.nil _ _⟩, B3.out⟩
              by_cases p2 : 1099511627776 < xk
              · have HN2 := hid (HN.out (by rw [← HD.out, decide_eq_false (p := xk ≤ 1099511627776) (by omega)]; simp))
                go_wp2
                go_ret3
                exact ⟨⟨_, [], 171, k, rfl, HN2.out, OL.nil _ _⟩, B3.out⟩
              have OK := show itOk ⟨xc, xa, xb, xp, xu, xk⟩ yc = true by rw [← HD.out, decide_eq_true (p := 1 ≤ xk) (by omega), decide_eq_true (p := xk ≤ 1099511627776) (by omega)]; rfl
              have HY2 := hid (HY.out OK)
              unfold itOk wiB at OK
              simp only [Bool.and_eq_true, decide_eq_true_eq] at OK
              obtain ⟨_, ⟨a1, a2⟩, ⟨b1', b2⟩, ⟨pp1, pp2⟩, ⟨u1, u2⟩, k1, k2⟩ := OK
              clear HD HN HY
              by_cases hw : xa + xb ≤ xp ∧ xa + xb < xu
              · have hq := (wan_pos ⟨xc, xa, xb, xp, xu, xk⟩ (by exact k1)).2 hw
                rw [if_pos hq] at HT
                have eq : wan ⟨xc, xa, xb, xp, xu, xk⟩ = (xu - (xa + xb) + xk - 1) / xk * xk := if_neg (by simp only; omega)
                rw [eq] at HT
                have q0 : 0 ≤ (xu - (xa + xb) + xk - 1) / xk := Int.ediv_nonneg (by omega) (by omega)
                have q1 : (xu - (xa + xb) + xk - 1) / xk * xk ≤ xu - (xa + xb) + xk - 1 := Int.ediv_mul_le _ (by omega)
                have q2 : (xu - (xa + xb) + xk - 1) / xk ≤ xu - (xa + xb) + xk - 1 := Int.ediv_le_self _ (by omega)
                have q3 : 0 ≤ (xu - (xa + xb) + xk - 1) / xk * xk := Int.mul_nonneg q0 (by omega)
                have qt : (xu - (xa + xb) + xk - 1).tdiv xk = (xu - (xa + xb) + xk - 1) / xk := Int.tdiv_eq_ediv_of_nonneg (by omega)
                generalize (xu - (xa + xb) + xk - 1) / xk = q at *
                have hk0 : ¬ xk = 0 := by omega
                obtain ⟨hw1, hw2⟩ := hw
                have hh := HLn.out
                rw [HLk.out] at hh
                have hl5 := HL.out
                have HOx := hid (OL.alloc O3.out (.cells #[.string xc, .int .i64 (q * xk)] 31))
                have HBx := hid (bel_step B3.out (alloc_below W (.cells #[.string xc, .int .i64 (q * xk)] 31)))
                clear hq eq
                go_wp2_with (at_builtin; refine wpList_appL (enc := lnC) lninfo Try.underlying25 rfl (by omega) lnC_len lnC_one rfl _ _ rfl w.heap.size _ _ rfl HOx.out _ [(xc, q * xk)] rfl (rl_one (heap_alloc_new W _) rfl) ?hlen ?hl2 HBx.out.size ?hnext)
                case hlen => first | (simp; omega) | (simp only [List.length_cons, List.length_nil]; omega) | omega
                case hl2 => first | (simp [maxLen]; omega) | (simp only [maxLen, List.length_cons, List.length_nil]; omega) | (unfold maxLen; omega)
                case hnext =>
                  intro v2 w4 ho2 hg2
                  have HO2 := hid ho2
                  have HB2 := hid (HBx.out.grown hg2 HBx.out.size (fun b hb => (HOx.out.block_ge b hb).1))
                  clear ho2 hg2
                  go_wp2_with fail
                  go_roundw
                  case rel => exact ⟨k + 1, by omega, by go_num, by rw [HT.out]; exact HO2.out, HY2.out, HB2.out⟩
                  case measure => simp [intOf]; omega
              · have hq := mt (wan_pos ⟨xc, xa, xb, xp, xu, xk⟩ (by exact k1)).1 hw
                rw [if_neg hq, List.append_nil] at HT
                clear hq
                by_cases hw1 : xa + xb ≤ xp
                · have hw2 : ¬ xa + xb < xu := by omega
                  clear hw
                  go_wp2_with fail
                  go_roundw
                  case rel => exact ⟨k + 1, by omega, by go_num, by rw [HT.out]; exact O3.out, HY2.out, B3.out⟩
                  case measure => simp [intOf]; omega
                · clear hw
                  go_wp2_with fail
                  go_roundw
                  case rel => exact ⟨k + 1, by omega, by go_num, by rw [HT.out]; exact O3.out, HY2.out, B3.out⟩
                  case measure => simp [intOf]; omega
      · obtain rfl : k = L.length := by omega
        rw [List.take_length] at HOW
        have HA := hid (show RsA L (rsL L) 0 0 from .inr (.inr ⟨HL.out, HO.out, rfl, rfl, rfl⟩))
        clear hb
        go_wp2
        go_ret3
        exact ⟨⟨_, _, 0, 0, rfl, HA.out, HOW.out⟩, HB.out⟩
end Go.Proofs.Ytgnnopjkbmbjbaa
