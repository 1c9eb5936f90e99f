/-
  LawCut: CalCut: the law's own walk.
-/
import Derived.Test.YtjpglgemnaknhaaGreatDoorCuA
import Derived.BigQuiet
namespace Go.Proofs.YtjpglgemnaknhaaGreatDoor
open Go.RowKit
set_option maxRecDepth 100000

/-- what is kept through the law -/
def RC (w0 : World) (x : List Int) (w : World) : Prop := HasAh w ∧ HasPw w ∧ HasES w ∧ Below w0.heap.size w0 w ∧ LBox w w0.heap.size x
theorem RC.stable {w0 w w' : World} {x : List Int} (h : RC w0 x w) (hb : Below w.heap.size w w') : RC w0 x w' :=
  ⟨h.1.below hb, h.2.1.below hb, h.2.2.1.below hb, h.2.2.2.1.trans (hb.mono h.2.2.2.1.size), h.2.2.2.2.later hb⟩
def RL (w0 : World) (g : Nat) (x : List Int) (T : Nat → ByteArray) (w : World) : Prop := RC w0 x w ∧ ∀ j, j < 6 → w.cell? ⟨g, j, none⟩ = some (.string (T j))
theorem RL.stable {w0 w w' : World} {g : Nat} {x : List Int} {T : Nat → ByteArray} (h : RL w0 g x T w) (hb : Below w.heap.size w w') : RL w0 g x T w' :=
  ⟨h.1.stable hb, fun j hj => cell_old (h.2 j hj) hb⟩

set_option maxHeartbeats 4000000 in
theorem cut_any (n0 s0 x0 x1 x2 x3 x4 x5 x6 c0 : Int) (hn : -9223372036854775808 ≤ n0 ∧ n0 ≤ 9223372036854775807) (hs : -9223372036854775808 ≤ s0 ∧ s0 ≤ 9223372036854775807) (hc : -9223372036854775808 ≤ c0 ∧ c0 ≤ 9223372036854775807) (w : World) (hA : HasAh w) (hT : HasPw w) (hE : HasES w) :
    Calls Tryz.prog 3 #[.int .i64 n0, .int .i64 s0, .agg #[.int .i64 x0, .int .i64 x1, .int .i64 x2, .int .i64 x3, .int .i64 x4, .int .i64 x5, .int .i64 x6], .int .i64 c0] w fun e w' => e = .returned (.bool true) ∧ Below w.heap.size w w' := by
  have W1 := hid (fun w => within_any n0 2 3652424 hn (by omega) (by omega) (by omega) w)
  have W2 := hid (fun w => within_any s0 0 315569519999 hs (by omega) (by omega) (by omega) w)
  have WC := hid (fun (h : Int) (h0 : 0 ≤ h) (h1 : h ≤ 1000) w => within_any c0 0 h hc (by omega) (by omega) (by omega) w)
  have WI := hid (fun (h : Int) (h0 : 0 ≤ h) => wi_in c0 0 h h0)
  have hA1 := wi_in n0 2 3652424 (by omega)
  have hS1 := wi_in s0 0 315569519999 (by omega)
  generalize wi n0 2 3652424 = A at *
  generalize wi s0 0 315569519999 = S at *
  have P1 := hid (fun w h => at_any A (by omega) w h)
  rw [wi_self A 3652424 (by omega) (by omega)] at P1
  obtain ⟨hv, hnb, hwk⟩ := wk_pos A hA1.1 hA1.2
  have F1 := hid (fun w hA hT => forms_any (dY A) (dM A) (dD A) hv (by omega) w hA hT)
  have HD := hid (fun k hk => dc_all (dY A) (dM A) (dD A) hv hwk k hk)
  have PI := hid (fun w hA hT => printInstant_good S 0 hS1 (by omega) ⟨by omega, by omega⟩ w hA hT)
  have e0 : S + 60 * 0 = S := by omega
  rw [e0] at PI
  have HI := hid (fun t ht => ic_all S hS1 t ht)
  have PS : Hid (∃ (t0 t : ByteArray) (e : Int), SC t ∧ ((e = 0 ∧ t0 = t) ∨ (e = 34 ∧ t = kText)) ∧ ∀ w, HasPw w → Calls Tryz.prog 10 #[.agg #[.int .i64 x0, .int .i64 x1, .int .i64 x2, .int .i64 x3, .int .i64 x4, .int .i64 x5, .int .i64 x6]] w fun q w' => q = .returned (.tuple #[.string t0, .int .i64 e]) ∧ Below w.heap.size w w') := by
    by_cases hf : FSx x0 x1 x2 x3 x4 x5 x6
    · exact ⟨_, _, 0, sc_tx x0 x1 x2 x3 x4 x5 x6 hf, .inl ⟨rfl, rfl⟩, fun w hT => printSpan_tx x0 x1 x2 x3 x4 x5 x6 hf w hT⟩
    · exact ⟨_, _, 34, sc_k, .inr ⟨rfl, rfl⟩, fun w _ => printSpan_bad x0 x1 x2 x3 x4 x5 x6 hf w⟩
  generalize hTd : (fun k => pdT k (dY A) (dM A) (dD A)) = T at *
  have eT : ∀ k, pdT k (dY A) (dM A) (dD A) = T k := fun k => congrFun hTd k
  simp only [eT] at F1 HD
  clear hTd eT hv hwk hnb hn hs hc e0 hA1 hS1
  generalize dY A = y at *
  generalize dM A = m at *
  generalize dD A = d at *
  have S0 := hid (show RC w [x0, x1, x2, x3, x4, x5, x6] (w.alloc (.cells #[.int .i64 x0, .int .i64 x1, .int .i64 x2, .int .i64 x3, .int .i64 x4, .int .i64 x5, .int .i64 x6] 23)) from ⟨hA.alloc _, hT.alloc _, hE.below (alloc_below _ _), alloc_below _ _, heap_alloc_new w _⟩)
  clear hA hT hE
  unfold dV at *
  go_enter Tryz.func3, Tryz.ntmps3
  go_wp2_with fail
  refine (W1.out _).mono ?_
  rintro e w1 ⟨rfl, hw1⟩
  have hw1s := hw1.symm
  clear hw1
  subst hw1s
  go_wp2_with fail
  refine (P1.out _ S0.out.1).mono ?_
  rintro e w2 ⟨rfl, hb2⟩
  have S2 := hid (S0.out.stable hb2)
  clear hb2 S0 W1 P1
  go_wp2_with fail
  refine (F1.out _ S2.out.1 S2.out.2.1).mono ?_
  rintro e w3 ⟨⟨g, cap, rfl, hcap, hg, hcell⟩, hb3⟩
  have S3 := hid (show RL w g [x0, x1, x2, x3, x4, x5, x6] T w3 from ⟨S2.out.stable hb3, hcell⟩)
  clear hb3 S2 F1 hcell hg
  go_wp2_with fail
  go_loopw [11] (fun i wr => ∃ k : Nat, i = .int .i64 (k : Int) ∧ k ≤ 6 ∧ RL w g [x0, x1, x2, x3, x4, x5, x6] T wr) (fun i _ => 6 - (intOf i).toNat)
  case atStart => exact ⟨0, rfl, by omega, S3.out⟩
  case round =>
    clear S3
    obtain ⟨k, rfl, hk, hR⟩ := hrel
    have HR := hid hR
    clear hR
    by_cases h1 : k < 6
    · have ck := HR.out.2 k h1
      obtain ⟨⟨z7, z10⟩, hcut, hbang⟩ := HD.out k h1
      have HB := hid hbang
      have HCT := hid hcut
      clear hcut hbang
      generalize T k = t at *
      have hz0 : ¬ 9223372036854775807 < t.size + 1 := by omega
      have WK := hid (WC.out ((t.size : Int) - 1) (by omega) (by omega))
      obtain ⟨b0, b1⟩ := WI.out ((t.size : Int) - 1) (by omega)
      generalize wi c0 0 ((t.size : Int) - 1) = K at *
      obtain ⟨j, rfl⟩ : ∃ j : Nat, K = (j : Int) := ⟨K.toNat, by omega⟩
      have r1 : ∀ w, (Instr.slice 9 (.string t) none (some (.int .i64 (j : Int))) none).run Tryz.prog w = .ok (.string (t.extract 0 j)) w := fun w => run_toI t j j rfl (by omega) w
      obtain ⟨y', m', d', e, p, hP, hcs⟩ := HCT.out j (by omega)
      have HP := hid hP
      unfold PrE rT dV at HP HB
      clear HCT hP
      generalize t.extract 0 j = u at *
      go_wp2_with fail
      refine (WK.out _).mono ?_
      rintro e w1 ⟨rfl, hw1⟩
      have hw1s := hw1.symm
      clear hw1
      subst hw1s
      go_wp2_with fail
      refine (HP.out _ HR.out.1.1).mono ?_
      rintro _ w6 ⟨rfl, hb6⟩
      have HR6 := hid ((HR.out.stable hb6).stable (alloc_below w6 (.cells #[.int .i64 y', .int .i64 m', .int .i64 d'] 28)))
      clear hb6 HR ck HP WK r1
      rcases hcs with rfl | ⟨rfl, rfl⟩ | ⟨rfl, hp⟩
      all_goals
        go_wp2_with fail
        refine (HB.out _ HR6.out.1.1).mono ?_
        rintro _ w7 ⟨rfl, hb7⟩
        have HR7 := hid (HR6.out.stable hb7)
        clear hb7 HR6 HB
        go_wp2
        go_roundw
      all_goals first
        | exact ⟨k + 1, by go_num, by omega, HR7.out⟩
        | (simp [intOf]; omega)
    · have HR1 := hid HR.out.1
      clear HR HD
      go_wp2_with fail
      refine (W2.out _).mono ?_
      rintro e w1 ⟨rfl, hw1⟩
      have hw1s := hw1.symm
      clear hw1
      subst hw1s
      go_wp2_with fail
      refine (PI.out _ HR1.out.1 HR1.out.2.1).mono ?_
      rintro e w5 ⟨⟨t, rfl, ht⟩, hb5⟩
      have HR5 := hid (HR1.out.stable hb5)
      obtain ⟨z20, hcut, hbang⟩ := HI.out t ht
      clear hb5 HR1 ht HI PI W2
      have WK := hid (WC.out 19 (by omega) (by omega))
      obtain ⟨b0, b1⟩ := WI.out 19 (by omega)
      generalize wi c0 0 19 = K at *
      obtain ⟨j, rfl⟩ : ∃ j : Nat, K = (j : Int) := ⟨K.toNat, by omega⟩
      have r1 : ∀ w, (Instr.slice 9 (.string t) none (some (.int .i64 (j : Int))) none).run Tryz.prog w = .ok (.string (t.extract 0 j)) w := fun w => run_toI t j j rfl (by omega) w
      obtain ⟨⟨v0, v1, v2⟩, hP, hv1, hv2⟩ := hcut j (by omega)
      have HP := hid hP
      have HB := hid hbang
      unfold PrI tup at HP HB
      have hv1' : (v1 == 0) = false := by rw [beq_eq_false_iff_ne]; exact hv1
      have hv2' : ¬ (j : Int) < v2 := by have : v2 ≤ (j : Int) := hv2; omega
      clear hcut hP hbang hv1 hv2
      generalize t.extract 0 j = u at *
      have hz0 : ¬ 9223372036854775807 < t.size + 1 := by omega
      go_wp2_with fail
      refine (WK.out _).mono ?_
      rintro e w1 ⟨rfl, hw1⟩
      have hw1s := hw1.symm
      clear hw1
      subst hw1s
      go_wp2_with fail
      refine (HP.out _ HR5.out.1).mono ?_
      rintro _ w6 ⟨rfl, hb6⟩
      have HR6 := hid (HR5.out.stable hb6)
      clear hb6 HR5 HP WK r1
      go_wp2_with fail
      refine (HB.out _ HR6.out.1).mono ?_
      rintro _ w7 ⟨rfl, hb7⟩
      have HR7 := hid (HR6.out.stable hb7)
      clear hb7 HR6 HB
      obtain ⟨t0, ts, es, hSC, hes, hPS⟩ := PS.out
      have HPS := hid hPS
      clear hPS PS
      have hx7 := HR7.out.2.2.2.2
      have c0' : World.cell? _ ⟨w.heap.size, 0, none⟩ = some (.int .i64 x0) := hx7.cell 0 (show 0 < 7 by omega)
      have c1' : World.cell? _ ⟨w.heap.size, 1, none⟩ = some (.int .i64 x1) := hx7.cell 1 (show 1 < 7 by omega)
      have c2' : World.cell? _ ⟨w.heap.size, 2, none⟩ = some (.int .i64 x2) := hx7.cell 2 (show 2 < 7 by omega)
      have c3' : World.cell? _ ⟨w.heap.size, 3, none⟩ = some (.int .i64 x3) := hx7.cell 3 (show 3 < 7 by omega)
      have c4' : World.cell? _ ⟨w.heap.size, 4, none⟩ = some (.int .i64 x4) := hx7.cell 4 (show 4 < 7 by omega)
      have c5' : World.cell? _ ⟨w.heap.size, 5, none⟩ = some (.int .i64 x5) := hx7.cell 5 (show 5 < 7 by omega)
      have c6' : World.cell? _ ⟨w.heap.size, 6, none⟩ = some (.int .i64 x6) := hx7.cell 6 (show 6 < 7 by omega)
      clear hx7
      go_wp2_with fail
      refine (HPS.out _ HR7.out.2.1).mono ?_
      rintro _ w8 ⟨rfl, hb8⟩
      have HR8 := hid (HR7.out.stable hb8)
      clear hb8 HR7 HPS c0' c1' c2' c3' c4' c5' c6' hv1' hv2' z20 hz0 b0 b1
      obtain ⟨⟨z3, z63⟩, hcut, hbang⟩ := hSC
      have WK := hid (WC.out ((ts.size : Int) - 1) (by omega) (by omega))
      obtain ⟨b0, b1⟩ := WI.out ((ts.size : Int) - 1) (by omega)
      generalize wi c0 0 ((ts.size : Int) - 1) = K at *
      obtain ⟨i, rfl⟩ : ∃ i : Nat, K = (i : Int) := ⟨K.toNat, by omega⟩
      have r1 : ∀ w, (Instr.slice 9 (.string ts) none (some (.int .i64 (i : Int))) none).run Tryz.prog w = .ok (.string (ts.extract 0 i)) w := fun w => run_toI ts i i rfl (by omega) w
      obtain ⟨l, e, p, hP, hcs⟩ := hcut i (by omega)
      have HP := hid hP
      have HB := hid hbang
      unfold PrS sT at HP HB
      clear hcut hP hbang WC WI
      generalize ts.extract 0 i = us at *
      have hz0 : ¬ 9223372036854775807 < ts.size + 1 := by omega
      generalize lV l = L1 at *
      generalize lV zs7 = L2 at *
      rcases hes with ⟨rfl, rfl⟩ | ⟨rfl, rfl⟩
      all_goals
        go_wp2_with fail
        refine (WK.out _).mono ?_
        rintro _ w1 ⟨rfl, hw1⟩
        have hw1s := hw1.symm
        clear hw1
        subst hw1s
        go_wp2_with fail
        refine (HP.out _ HR8.out.2.2.1).mono ?_
        rintro _ w9 ⟨rfl, hb9⟩
        have HR9 := hid (HR8.out.stable hb9)
        clear hb9 HR8 HP WK r1
        go_wp2_with fail
        refine (HB.out _ HR9.out.2.2.1).mono ?_
        rintro _ w10 ⟨rfl, hb10⟩
        have HR10 := hid (HR9.out.stable hb10)
        clear hb10 HR9 HB
        rcases hcs with rfl | ⟨rfl, rfl⟩
        all_goals
          go_wp2
          go_ret
          exact ⟨rfl, HR10.out.2.2.2.1⟩
end Go.Proofs.YtjpglgemnaknhaaGreatDoor
