/-
  LockQuiet: the law's walk.
-/
import Derived.Test.YtehgjfokpcnneaaTb5
namespace Go.Proofs.Ytehgjfokpcnneaa
open Go.RowKit
set_option maxRecDepth 100000

theorem hoE_even (k : Nat) : hoE (1, 0, 2 * (k : Int)) 0 0 = 0 := by
  unfold hoE svd
  simp
theorem hoE_odd (k : Nat) : hoE (1, 0, 2 * (k : Int) + 1) 0 1 = 0 := by
  unfold hoE svd
  simp
theorem ctX_even (k : Nat) : ctX (1, 0, 2 * (k : Int)) 0 0 = (1, 0, 2 * (k : Int) + 1) := by
  unfold ctX
  rw [if_pos (hoE_even k)]
theorem ctX_odd (k : Nat) : ctX (1, 0, 2 * (k : Int) + 1) 0 1 = (1, 0, 2 * ((k + 1 : Nat) : Int)) := by
  unfold ctX
  rw [if_pos (hoE_odd k)]
  simp only [Prod.mk.injEq, true_and]
  omega
set_option maxHeartbeats 2000000 in
theorem quiet_same (a b n : Int) (i m : Nat) (w : World) (ha : wth a 3 = (i : Int)) (hb0 : wth b 3 = (i : Int)) (hm : wth n 20 = (m : Int)) (hi : i < 4) :
    Calls Try.prog 4 #[.int .i64 a, .int .i64 b, .int .i64 n] w fun e w' => e = .returned (.bool true) ∧ Below w.heap.size w w' := by
  have hm20 : m ≤ 20 := by have := wth_in n 20 (by omega); omega
  have HWk := hid (works_any w)
  have HN := hid (new_in 4)
  have HW1 := hid (fun w => within_any a 3 w (by omega) (by omega))
  have HW2 := hid (fun w => within_any b 3 w (by omega) (by omega))
  have HW3 := hid (fun w => within_any n 20 w (by omega) (by omega))
  rw [ha] at HW1
  rw [hb0] at HW2
  rw [hm] at HW3
  clear ha hb0 hm
  obtain ⟨R0, hR0⟩ : ∃ R0 : List Hd, R0 = List.replicate 4 (0, 0, 0) := ⟨_, rfl⟩
  have hl0 : R0.length = 4 := by rw [hR0]; rfl
  have g0 : ∀ q, q < 4 → R0[q]? = some (0, 0, 0) := fun q hq => by rw [hR0, List.getElem?_replicate, if_pos hq]
  have HA0 := hid (g0 i hi)
  obtain ⟨R, hR⟩ : ∃ R : List Hd, R = R0.set i (1, 0, 0) := ⟨_, rfl⟩
  have HR := hid (hR.symm)
  have HRa := hid (show R[i]? = some (1, 0, 0) by rw [hR, List.getElem?_set_self (by omega)])
  have HRs := hid (fun x : Hd => show (R.set i x)[i]? = some x by rw [List.getElem?_set_self (by rw [hR]; simp; omega)])
  have HR0 := hid (show R.set i (1, 0, 2 * ((0 : Nat) : Int)) = R by rw [hR, List.set_set]; rfl)
  have HE0 := hid hR0
  clear hR g0 hl0 hR0
  go_enter Try.func4, Try.ntmps4
  go_wp2_with fail
  refine Calls.mono HWk.out ?_
  rintro e wz ⟨rfl, hBz⟩
  have KZ := hid hBz
  have hz := hBz.size
  clear hBz HWk
  go_wp2_with fail
  refine Calls.mono (HN.out wz (by omega) (by omega)) ?_
  rintro e w1 ⟨⟨d, hb, rfl, hT⟩, hB⟩
  have hP : ∀ k, k = hb → w.heap.size ≤ k := fun k e => Nat.le_trans hz (e ▸ hT.gh)
  have K1 := hid (show Below w.heap.size w w1 from KZ.out.trans (hB.mono hz))
  have T1 := hid (show TP w1 w.heap.size d hb R0 from by rw [HE0.out]; exact ⟨Nat.le_trans hz hT.gd, Nat.le_trans hz hT.gh, hT.top, hT.row, hT.ne, hT.many, hT.ok⟩)
  have step : ∀ a b : World, Below w.heap.size w a → Kw (fun k => k = hb) a b → Below w.heap.size w b := fun _ _ h k => Kw.since h h.size k hP
  have SP := hid step
  clear HN hT hB hP step KZ
  go_wp2_with fail
  refine Calls.mono (HW1.out _) ?_
  rintro e wq ⟨rfl, rfl⟩
  go_wp2_with fail
  refine Calls.mono (HW2.out _) ?_
  rintro e wq ⟨rfl, rfl⟩
  go_wp2_with fail
  refine Calls.mono (tick (i : Int) i (0, 0, 0) 0 0 (R0.set i (1, 0, 0)) rfl HA0.out (by decide) (by decide) rfl T1.out) ?_
  rintro e w2 ⟨rfl, hT, hK⟩
  have T2 := hid hT
  have K2 := hid (SP.out _ _ K1.out hK)
  clear T1 K1 hT hK
  go_wp2_with fail
  refine Calls.mono (HW3.out _) ?_
  rintro e wq ⟨rfl, rfl⟩
  go_wp2_with fail
  refine Calls.mono (sqc (i : Int) i (1, 0, 0) 0 rfl HRa.out rfl (HR.out ▸ T2.out)) ?_
  rintro e wq ⟨rfl, rfl⟩
  have TL := hid (show TP wq w.heap.size d hb (R.set i (1, 0, 2 * ((0 : Nat) : Int))) from by rw [HR0.out]; exact HR.out ▸ T2.out)
  go_wp2
  go_loopw [14] (fun vi wr => ∃ k : Nat, k ≤ m ∧ vi = .int .i64 (k : Int) ∧ TP wr w.heap.size d hb (R.set i (1, 0, 2 * (k : Int))) ∧ Below w.heap.size w wr) (fun vi _ => m - (intOf vi).toNat)
  case atStart => exact ⟨0, Nat.zero_le _, rfl, TL.out, K2.out⟩
  case round =>
    obtain ⟨k, hk, rfl, hT, hB⟩ := hrel
    have T := hid hT
    have B := hid hB
    clear hT hB TL T2 K2
    by_cases h : k < m
    · have hI : (k : Int) < (m : Int) := by omega
      have hk0 : (k : Int) ≤ 1000 := by omega
      have O1 := hid (oddc (i : Int) 0 i (1, 0, 2 * (k : Int)) 0 (R.set i (1, 0, 2 * (k : Int) + 1)) rfl (HRs.out _) (hoE_even k) (by rw [ctX_even, List.set_set]) (by simp only; omega) T.out)
      go_wp2_with fail
      refine Calls.mono O1.out ?_
      rintro e wa ⟨rfl, hTa, hKa⟩
      have Ta := hid hTa
      have Ka := hid (SP.out _ _ B.out hKa)
      clear hTa hKa O1
      have hodd : (2 * (k : Int) + 1).tmod 2 = 1 := by rw [Int.tmod_eq_emod_of_nonneg (by omega)]; omega
      have hodd2 : (2 * (k : Int) + 1) % 2 = 1 := by omega
      go_wp2_with fail
      refine Calls.mono (sqc (i : Int) i (1, 0, 2 * (k : Int) + 1) (2 * (k : Int) + 1) rfl (HRs.out _) rfl Ta.out) ?_
      rintro e wb ⟨rfl, rfl⟩
      go_wp2_with fail
      refine Calls.mono (evenc (i : Int) 0 i (1, 0, 2 * (k : Int) + 1) 0 (R.set i (1, 0, 2 * ((k + 1 : Nat) : Int))) rfl (HRs.out _) (hoE_odd k) (by rw [ctX_odd, List.set_set]) (by simp only; omega) Ta.out) ?_
      rintro e wc ⟨rfl, hTc, hKc⟩
      have Tc := hid hTc
      have Kc := hid (SP.out _ _ Ka.out hKc)
      clear hTc hKc hodd hodd2
      go_wp2
      go_roundw
      case rel => exact ⟨k + 1, by omega, by go_num, Tc.out, Kc.out⟩
      case measure => simp [intOf]; omega
    · have hI : ¬ (k : Int) < (m : Int) := by omega
      obtain rfl : k = m := by omega
      go_wp2_with fail
      refine Calls.mono (sqc (i : Int) i (1, 0, 2 * (k : Int)) (2 * (k : Int)) rfl (HRs.out _) rfl T.out) ?_
      rintro e wb ⟨rfl, rfl⟩
      by_cases hz : k = 0
      · subst hz
        go_wp2_with fail
        refine Calls.mono (sqc (i : Int) i (1, 0, 2 * ((0 : Nat) : Int)) 0 rfl (HRs.out _) rfl T.out) ?_
        rintro e wb ⟨rfl, rfl⟩
        go_wp2
        go_ret
        exact ⟨rfl, B.out⟩
      · have hz1 : ((2 * (k : Int)) == 0) = false := by simp; omega
        have hz2 : ((k : Int) == 0) = false := by simp; omega
        go_wp2_with fail
        refine Calls.mono (sqc (i : Int) i (1, 0, 2 * (k : Int)) (2 * (k : Int)) rfl (HRs.out _) rfl T.out) ?_
        rintro e wb ⟨rfl, rfl⟩
        go_wp2
        go_ret
        exact ⟨by simp, B.out⟩
set_option maxHeartbeats 2000000 in
theorem quiet_other (a b n : Int) (i j m : Nat) (w : World) (ha : wth a 3 = (i : Int)) (hb0 : wth b 3 = (j : Int)) (hm : wth n 20 = (m : Int)) (hi : i < 4) (hj : j < 4) (hij : i ≠ j) :
    Calls Try.prog 4 #[.int .i64 a, .int .i64 b, .int .i64 n] w fun e w' => e = .returned (.bool true) ∧ Below w.heap.size w w' := by
  have hm20 : m ≤ 20 := by have := wth_in n 20 (by omega); omega
  have HWk := hid (works_any w)
  have HN := hid (new_in 4)
  have HW1 := hid (fun w => within_any a 3 w (by omega) (by omega))
  have HW2 := hid (fun w => within_any b 3 w (by omega) (by omega))
  have HW3 := hid (fun w => within_any n 20 w (by omega) (by omega))
  rw [ha] at HW1
  rw [hb0] at HW2
  rw [hm] at HW3
  clear ha hb0 hm
  obtain ⟨R0, hR0⟩ : ∃ R0 : List Hd, R0 = List.replicate 4 (0, 0, 0) := ⟨_, rfl⟩
  have hl0 : R0.length = 4 := by rw [hR0]; rfl
  have g0 : ∀ q, q < 4 → R0[q]? = some (0, 0, 0) := fun q hq => by rw [hR0, List.getElem?_replicate, if_pos hq]
  have HA0 := hid (g0 i hi)
  have HB0 := hid (show (R0.set i (1, 0, 0))[j]? = some (0, 0, 0) by rw [List.getElem?_set_ne hij]; exact g0 j hj)
  obtain ⟨R, hR⟩ : ∃ R : List Hd, R = (R0.set i (1, 0, 0)).set j (1, 0, 0) := ⟨_, rfl⟩
  have HR := hid (hR.symm)
  have HRa := hid (show R[i]? = some (1, 0, 0) by rw [hR, List.getElem?_set_ne (Ne.symm hij), List.getElem?_set_self (by omega)])
  have HRs := hid (fun x : Hd => show (R.set j x)[j]? = some x by rw [List.getElem?_set_self (by rw [hR]; simp; omega)])
  have HRi := hid (fun x : Hd => show (R.set j x)[i]? = some (1, 0, 0) by rw [List.getElem?_set_ne (Ne.symm hij)]; exact HRa.out)
  have HR0 := hid (show R.set j (1, 0, 2 * ((0 : Nat) : Int)) = R by rw [hR, List.set_set]; rfl)
  have hijb : ((i : Int) == (j : Int)) = false := by simp; omega
  clear hij hj
  have HE0 := hid hR0
  clear hR g0 hl0 hR0
  go_enter Try.func4, Try.ntmps4
  go_wp2_with fail
  refine Calls.mono HWk.out ?_
  rintro e wz ⟨rfl, hBz⟩
  have KZ := hid hBz
  have hz := hBz.size
  clear hBz HWk
  go_wp2_with fail
  refine Calls.mono (HN.out wz (by omega) (by omega)) ?_
  rintro e w1 ⟨⟨d, hb, rfl, hT⟩, hB⟩
  have hP : ∀ k, k = hb → w.heap.size ≤ k := fun k e => Nat.le_trans hz (e ▸ hT.gh)
  have K1 := hid (show Below w.heap.size w w1 from KZ.out.trans (hB.mono hz))
  have T1 := hid (show TP w1 w.heap.size d hb R0 from by rw [HE0.out]; exact ⟨Nat.le_trans hz hT.gd, Nat.le_trans hz hT.gh, hT.top, hT.row, hT.ne, hT.many, hT.ok⟩)
  have step : ∀ a b : World, Below w.heap.size w a → Kw (fun k => k = hb) a b → Below w.heap.size w b := fun _ _ h k => Kw.since h h.size k hP
  have SP := hid step
  clear HN hT hB hP step KZ
  go_wp2_with fail
  refine Calls.mono (HW1.out _) ?_
  rintro e wq ⟨rfl, rfl⟩
  go_wp2_with fail
  refine Calls.mono (HW2.out _) ?_
  rintro e wq ⟨rfl, rfl⟩
  go_wp2_with fail
  refine Calls.mono (tick (i : Int) i (0, 0, 0) 0 0 (R0.set i (1, 0, 0)) rfl HA0.out (by decide) (by decide) rfl T1.out) ?_
  rintro e w2 ⟨rfl, hT, hK⟩
  have T2 := hid hT
  have K2 := hid (SP.out _ _ K1.out hK)
  clear T1 K1 hT hK
  go_wp2_with fail
  refine Calls.mono (tick (j : Int) j (0, 0, 0) 0 0 ((R0.set i (1, 0, 0)).set j (1, 0, 0)) rfl HB0.out (by decide) (by decide) rfl T2.out) ?_
  rintro e w3 ⟨rfl, hT, hK⟩
  have T3 := hid hT
  have K3 := hid (SP.out _ _ K2.out hK)
  clear T2 K2 hT hK
  go_wp2_with fail
  refine Calls.mono (HW3.out _) ?_
  rintro e wq ⟨rfl, rfl⟩
  go_wp2_with fail
  refine Calls.mono (sqc (i : Int) i (1, 0, 0) 0 rfl HRa.out rfl (HR.out ▸ T3.out)) ?_
  rintro e wq ⟨rfl, rfl⟩
  have TL := hid (show TP wq w.heap.size d hb (R.set j (1, 0, 2 * ((0 : Nat) : Int))) from by rw [HR0.out]; exact HR.out ▸ T3.out)
  go_wp2
  go_loopw [14] (fun vi wr => ∃ k : Nat, k ≤ m ∧ vi = .int .i64 (k : Int) ∧ TP wr w.heap.size d hb (R.set j (1, 0, 2 * (k : Int))) ∧ Below w.heap.size w wr) (fun vi _ => m - (intOf vi).toNat)
  case atStart => exact ⟨0, Nat.zero_le _, rfl, TL.out, K3.out⟩
  case round =>
    obtain ⟨k, hk, rfl, hT, hB⟩ := hrel
    have T := hid hT
    have B := hid hB
    clear hT hB TL T3 K3
    by_cases h : k < m
    · have hI : (k : Int) < (m : Int) := by omega
      have hk0 : (k : Int) ≤ 1000 := by omega
      have O1 := hid (oddc (j : Int) 0 j (1, 0, 2 * (k : Int)) 0 (R.set j (1, 0, 2 * (k : Int) + 1)) rfl (HRs.out _) (hoE_even k) (by rw [ctX_even, List.set_set]) (by simp only; omega) T.out)
      go_wp2_with fail
      refine Calls.mono O1.out ?_
      rintro e wa ⟨rfl, hTa, hKa⟩
      have Ta := hid hTa
      have Ka := hid (SP.out _ _ B.out hKa)
      clear hTa hKa O1
      have hodd : (2 * (k : Int) + 1).tmod 2 = 1 := by rw [Int.tmod_eq_emod_of_nonneg (by omega)]; omega
      have hodd2 : (2 * (k : Int) + 1) % 2 = 1 := by omega
      go_wp2_with fail
      refine Calls.mono (sqc (j : Int) j (1, 0, 2 * (k : Int) + 1) (2 * (k : Int) + 1) rfl (HRs.out _) rfl Ta.out) ?_
      rintro e wb ⟨rfl, rfl⟩
      go_wp2_with fail
      refine Calls.mono (evenc (j : Int) 0 j (1, 0, 2 * (k : Int) + 1) 0 (R.set j (1, 0, 2 * ((k + 1 : Nat) : Int))) rfl (HRs.out _) (hoE_odd k) (by rw [ctX_odd, List.set_set]) (by simp only; omega) Ta.out) ?_
      rintro e wc ⟨rfl, hTc, hKc⟩
      have Tc := hid hTc
      have Kc := hid (SP.out _ _ Ka.out hKc)
      clear hTc hKc hodd hodd2
      go_wp2
      go_roundw
      case rel => exact ⟨k + 1, by omega, by go_num, Tc.out, Kc.out⟩
      case measure => simp [intOf]; omega
    · have hI : ¬ (k : Int) < (m : Int) := by omega
      obtain rfl : k = m := by omega
      go_wp2_with fail
      refine Calls.mono (sqc (i : Int) i (1, 0, 0) 0 rfl (HRi.out _) rfl T.out) ?_
      rintro e wb ⟨rfl, rfl⟩
      go_wp2_with fail
      refine Calls.mono (sqc (j : Int) j (1, 0, 2 * (k : Int)) (2 * (k : Int)) rfl (HRs.out _) rfl T.out) ?_
      rintro e wb ⟨rfl, rfl⟩
      go_wp2
      go_ret
      exact ⟨by simp, B.out⟩
theorem quiet_any (a b n : Int) (w : World) :
    Calls Try.prog 4 #[.int .i64 a, .int .i64 b, .int .i64 n] w fun e w' => e = .returned (.bool true) ∧ Below w.heap.size w w' := by
  have h1 := wth_in a 3 (by omega)
  have h2 := wth_in b 3 (by omega)
  have h3 := wth_in n 20 (by omega)
  obtain ⟨i, hi⟩ : ∃ i : Nat, wth a 3 = (i : Int) := ⟨(wth a 3).toNat, by omega⟩
  obtain ⟨j, hj⟩ : ∃ j : Nat, wth b 3 = (j : Int) := ⟨(wth b 3).toNat, by omega⟩
  obtain ⟨m, hm⟩ : ∃ m : Nat, wth n 20 = (m : Int) := ⟨(wth n 20).toNat, by omega⟩
  by_cases hij : i = j
  · subst hij
    exact quiet_same a b n i m w hi hj hm (by omega)
  · exact quiet_other a b n i j m w hi hj hm (by omega) (by omega) hij
end Go.Proofs.Ytehgjfokpcnneaa
