/-
  CalRound: the law's own walk, out of the contracts.
-/
import Derived.Test.YtflnlmpfniommaaDoorRnd4
namespace Go.Proofs.YtflnlmpfniommaaDoor
open Go.RowKit
set_option maxRecDepth 100000

theorem run_to (t : ByteArray) (j : Nat) (z : Int) (hz : z = (j : Int)) (hj : j ≤ t.size) (w : World) :
    (Instr.slice 9 (.string t) none (some (.int .i64 z)) none).run Tryd.prog w = .ok (.string (t.extract 0 j)) w := by
  subst hz
  simp [Instr.slice, Instr.sliceBounds, Instr.sliceBound, asIntOf, run_underlying Tryd.underlying9, go_sem, hj]
theorem run_fromR (t : ByteArray) (i n : Nat) (z : Int) (hz : z = (i : Int)) (hn : t.size = n) (hi : i ≤ n) (w : World) :
    (Instr.slice 9 (.string t) (some (.int .i64 z)) none none).run Tryd.prog w = .ok (.string (t.extract i n)) w := by
  subst hz
  subst hn
  simp [Instr.slice, Instr.sliceBounds, Instr.sliceBound, asIntOf, run_underlying Tryd.underlying9, go_sem, hi]

/-- the lists of texts lie there, and the day -/
def RR (w0 : World) (bd g1 g2 : Nat) (y m d : Int) (T U : Nat → ByteArray) (w : World) : Prop :=
  HasAh w ∧ HasPw w ∧ Below w0.heap.size w0 w ∧ Box w bd y m d ∧ (∀ j, j < 6 → w.cell? ⟨g1, j, none⟩ = some (.string (T j))) ∧ ∀ j, j < 6 → w.cell? ⟨g2, j, none⟩ = some (.string (U j))
theorem RR.stable {w0 w w' : World} {bd g1 g2 : Nat} {y m d : Int} {T U : Nat → ByteArray} (h : RR w0 bd g1 g2 y m d T U w) (hb : Below w.heap.size w w') : RR w0 bd g1 g2 y m d T U w' :=
  ⟨h.1.below hb, h.2.1.below hb, h.2.2.1.trans (hb.mono h.2.2.1.size), h.2.2.2.1.later hb, fun j hj => cell_old (h.2.2.2.2.1 j hj) hb, fun j hj => cell_old (h.2.2.2.2.2 j hj) hb⟩

set_option maxHeartbeats 4000000 in
theorem round_any (n0 m0 : Int) (hn : -9223372036854775808 ≤ n0 ∧ n0 ≤ 9223372036854775807) (hm : -9223372036854775808 ≤ m0 ∧ m0 ≤ 9223372036854775807) (w : World) (hA : HasAh w) (hT : HasPw w) :
    Calls Tryd.prog 7 #[.int .i64 n0, .int .i64 m0] w fun e w' => e = .returned (.bool true) ∧ Below w.heap.size w w' := by
  have W1 := hid (fun w => within_any n0 2 3652424 hn (by omega) (by omega) (by omega) w)
  have W2 := hid (fun w => within_any m0 2 3652424 hm (by omega) (by omega) (by omega) w)
  have hA1 := wi_in n0 2 3652424 (by omega)
  have hB1 := wi_in m0 2 3652424 (by omega)
  generalize wi n0 2 3652424 = A at *
  generalize wi m0 2 3652424 = B at *
  have P1 := hid (fun w h => at_any A (by omega) w h)
  have P2 := hid (fun w h => at_any B (by omega) w h)
  rw [wi_self A 3652424 (by omega) (by omega)] at P1
  rw [wi_self B 3652424 (by omega) (by omega)] at P2
  obtain ⟨hv, hnb, hwk⟩ := wk_pos A hA1.1 hA1.2
  obtain ⟨hv', hnb', hwk'⟩ := wk_pos B hB1.1 hB1.2
  have L0 := less_any _ _ _ _ _ _ hv hv' hwk hwk' 0 (by omega)
  have L1 := less_any _ _ _ _ _ _ hv hv' hwk hwk' 1 (by omega)
  have L2 := less_any _ _ _ _ _ _ hv hv' hwk hwk' 2 (by omega)
  have L4 := less_any _ _ _ _ _ _ hv hv' hwk hwk' 4 (by omega)
  rw [hnb, hnb'] at L0 L1 L2 L4
  have F1 := hid (fun w hA hT => forms_any (dY A) (dM A) (dD A) hv (by omega) w hA hT)
  have F2 := hid (fun w hA hT => forms_any (dY B) (dM B) (dD B) hv' (by omega) w hA hT)
  have PS := hid (fun k hk w hA => psd_any (dY A) (dM A) (dD A) hv hwk k hk w hA)
  obtain ⟨z0, C0⟩ := cut_0 _ _ _ hv
  obtain ⟨z2, C2⟩ := cut_2 _ _ _ hv
  obtain ⟨z4, C4⟩ := cut_4 _ _ _ hv hwk
  generalize hTd : (fun k => pdT k (dY A) (dM A) (dD A)) = T at *
  generalize hUd : (fun k => pdT k (dY B) (dM B) (dD B)) = U at *
  have eT : ∀ k, pdT k (dY A) (dM A) (dD A) = T k := fun k => congrFun hTd k
  have eU : ∀ k, pdT k (dY B) (dM B) (dD B) = U k := fun k => congrFun hUd k
  simp only [eT, eU] at L0 L1 L2 L4 F1 F2 PS z0 z2 z4 C0 C2 C4
  clear hTd hUd eT eU hv hv' hwk hwk' hnb hnb' hn hm
  generalize dY A = y at *
  generalize dM A = m at *
  generalize dD A = d at *
  generalize dY B = y' at *
  generalize dM B = m' at *
  generalize dD B = d' at *
  have S0 := hid (show Su w w from ⟨hA, hT, Below.refl _ _⟩)
  have HL0 := hid L0
  have HL1 := hid L1
  have HL2 := hid L2
  have HL4 := hid L4
  have HC0 := hid C0
  have HC2 := hid C2
  have HC4 := hid C4
  clear L0 L1 L2 L4 C0 C2 C4 hA hT
  unfold rT dV at *
  go_enter Tryd.func7, Tryd.ntmps7
  go_wp2_with fail
  refine (W1.out _).mono ?_
  rintro e w1 ⟨rfl, hw1⟩
  have hw1s := hw1.symm
  clear hw1
  subst hw1s
  go_wp2_with fail
  refine (W2.out _).mono ?_
  rintro e w1 ⟨rfl, hw1⟩
  have hw1s := hw1.symm
  clear hw1
  subst hw1s
  go_wp2_with fail
  refine (P1.out _ S0.out.1).mono ?_
  rintro e w2 ⟨rfl, hb2⟩
  have S2 := hid ((S0.out.call hb2).alloc (.cells #[.int .i64 y, .int .i64 m, .int .i64 d] 35))
  have X2 := hid (Box.new w2 y m d)
  clear hb2 S0 W1 W2 P1
  go_wp2_with fail
  refine (F1.out _ S2.out.1 S2.out.2.1).mono ?_
  rintro e w3 ⟨⟨g1, cap1, rfl, hc1, hg1, hcell1⟩, hb3⟩
  have S3 := hid (S2.out.call hb3)
  have X3 := hid (X2.out.later hb3)
  have HCL1 := hid hcell1
  clear hb3 S2 X2 F1 hcell1
  generalize w2.heap.size = bd at *
  go_wp2_with fail
  refine (P2.out _ S3.out.1).mono ?_
  rintro e w4 ⟨rfl, hb4⟩
  have S4 := hid (S3.out.call hb4)
  have X4 := hid (X3.out.later hb4)
  have HCL2 := hid (show ∀ j, j < 6 → w4.cell? ⟨g1, j, none⟩ = some (.string (T j)) from fun j hj => cell_old (HCL1.out j hj) hb4)
  clear hb4 S3 X3 P2 HCL1
  go_wp2_with fail
  refine (F2.out _ S4.out.1 S4.out.2.1).mono ?_
  rintro e w5 ⟨⟨g2, cap2, rfl, hc2, hg2, hcell2⟩, hb5⟩
  have S5 := S4.out.call hb5
  have HR5 := hid (show RR w bd g1 g2 y m d T U w5 from ⟨S5.1, S5.2.1, S5.2.2, X4.out.later hb5, fun j hj => cell_old (HCL2.out j hj) hb5, hcell2⟩)
  clear hb5 S4 X4 HCL2 F2 hcell2 S5 hg1 hg2
  go_wp2_with fail
  go_loopw [12] (fun i wr => ∃ k : Nat, i = .int .i64 (k : Int) ∧ k ≤ 6 ∧ RR w bd g1 g2 y m d T U wr) (fun i _ => 6 - (intOf i).toNat)
  case atStart => exact ⟨0, rfl, by omega, HR5.out⟩
  case round =>
    clear HR5
    obtain ⟨k, rfl, hk, hR⟩ := hrel
    have HR := hid hR
    clear hR
    by_cases h1 : k < 6
    · have ck := HR.out.2.2.2.2.1 k h1
      have PK := hid (PS.out k h1 wr HR.out.1)
      go_wp2_with fail
      refine PK.out.mono ?_
      rintro e w6 ⟨rfl, hb6⟩
      have HR6 := hid ((HR.out.stable hb6).stable (alloc_below w6 (.cells #[.int .i64 y, .int .i64 m, .int .i64 d] 35)))
      obtain ⟨b0, b1, b2, _⟩ := HR6.out.2.2.2.1.facts
      clear hb6 PK ck HR
      go_wp2
      go_roundw
      case rel => exact ⟨k + 1, by go_num, by omega, HR6.out⟩
      case measure => simp [intOf]; omega
    · have t0 := HR.out.2.2.2.2.1 0 (by omega)
      have t1 := HR.out.2.2.2.2.1 1 (by omega)
      have t2 := HR.out.2.2.2.2.1 2 (by omega)
      have t3 := HR.out.2.2.2.2.1 3 (by omega)
      have t4 := HR.out.2.2.2.2.1 4 (by omega)
      have t5 := HR.out.2.2.2.2.1 5 (by omega)
      have u0 := HR.out.2.2.2.2.2 0 (by omega)
      have u1 := HR.out.2.2.2.2.2 1 (by omega)
      have u2 := HR.out.2.2.2.2.2 2 (by omega)
      have u4 := HR.out.2.2.2.2.2 4 (by omega)
      have q1 := fun w => run_to (T 0) 4 4 rfl (by omega) w
      have q3 := fun w => run_fromR (T 0) 8 10 8 rfl z0 (by omega) w
      have q4 := fun w => run_to (T 2) 4 4 rfl (by omega) w
      have q5 := fun w => run_fromR (T 2) 5 8 5 rfl z2 (by omega) w
      have q6 := fun w => run_to (T 4) 4 4 rfl (by omega) w
      have q8 := fun w => run_fromR (T 4) 9 10 9 rfl z4 (by omega) w
      have s1 : ((T 0).extract 0 4).size ≤ 10 := by rw [ByteArray.size_extract]; omega
      have s2 : ((T 0).extract 5 7).size ≤ 10 := by rw [ByteArray.size_extract]; omega
      have s3 : ((T 0).extract 8 10).size ≤ 10 := by rw [ByteArray.size_extract]; omega
      have s4 : ((T 2).extract 0 4).size ≤ 10 := by rw [ByteArray.size_extract]; omega
      have s5 : ((T 2).extract 5 8).size ≤ 10 := by rw [ByteArray.size_extract]; omega
      have s6 : ((T 4).extract 0 4).size ≤ 10 := by rw [ByteArray.size_extract]; omega
      have s7 : ((T 4).extract 5 8).size ≤ 10 := by rw [ByteArray.size_extract]; omega
      have s8 : ((T 4).extract 9 10).size ≤ 10 := by rw [ByteArray.size_extract]; omega
      have c0 := HC0.out
      have c2 := HC2.out
      have c4 := HC4.out
      have l0 := HL0.out
      have l1 := HL1.out
      have l2 := HL2.out
      have l4 := HL4.out
      generalize (T 0).extract 0 4 = E1 at *
      generalize (T 0).extract 8 10 = E3 at *
      generalize (T 2).extract 0 4 = E4 at *
      generalize (T 2).extract 5 8 = E5 at *
      generalize (T 4).extract 0 4 = E6 at *
      generalize (T 4).extract 9 10 = E8 at *
      have k1 : ((T 1).toList == (E1 ++ (T 0).extract 5 7 ++ E3).toList) = true := by rw [c0]; simp
      have k2 : ((T 3).toList == (E4 ++ E5).toList) = true := by rw [c2]; simp
      have k3 : ((T 5).toList == (E6 ++ (T 4).extract 5 8 ++ E8).toList) = true := by rw [c4]; simp
      have nn0 : ¬ 9223372036854775807 < E1.size + ((T 0).extract 5 7).size := by omega
      have nn1 : ¬ 9223372036854775807 < E1.size + ((T 0).extract 5 7).size + E3.size := by omega
      have nn2 : ¬ 9223372036854775807 < E4.size + E5.size := by omega
      have nn3 : ¬ 9223372036854775807 < E6.size + ((T 4).extract 5 8).size := by omega
      have nn4 : ¬ 9223372036854775807 < E6.size + ((T 4).extract 5 8).size + E8.size := by omega
      clear c0 c2 c4 HC0 HC2 HC4 HL0 HL1 HL2 HL4
      generalize T 0 = T0 at *
      generalize T 1 = T1 at *
      generalize T 2 = T2 at *
      generalize T 3 = T3 at *
      generalize T 4 = T4 at *
      generalize T 5 = T5 at *
      generalize U 0 = U0 at *
      generalize U 1 = U1 at *
      generalize U 2 = U2 at *
      generalize U 4 = U4 at *
      have HBW := hid HR.out.2.2.1
      clear PS HR
      by_cases hlt : A < B
      all_goals
        first
          | (rw [decide_eq_true hlt] at l0 l1 l2 l4)
          | (rw [decide_eq_false hlt] at l0 l1 l2 l4)
        go_wp2_with fail
        go_quiet (fail)
        go_wp2_with fail
        go_quiet (fail)
        go_wp2_with fail
        go_quiet (fail)
        go_wp2_with fail
        go_quiet (fail)
        go_wp2
        go_ret
        refine ⟨by first | rfl | (show Ending.returned (Value.bool (!decide (A < B))) = _; rw [decide_eq_false (by omega)]; rfl), ?_⟩
        first | exact HBW.out | exact below_drewN HBW.out _ | exact below_drewN (below_drewN HBW.out _) _ | exact below_drewN (below_drewN (below_drewN HBW.out _) _) _ | exact below_drewN (below_drewN (below_drewN (below_drewN HBW.out _) _) _) _
end Go.Proofs.YtflnlmpfniommaaDoor
