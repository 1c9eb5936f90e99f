/-
  The document's own ParseDate, shapes 2 and 3.
-/
import Derived.Test.YtcmllfipaiacfaaGreatDoorRpdh
namespace Go.Proofs.YtcmllfipaiacfaaGreatDoor
open Go.RowKit
set_option maxRecDepth 100000

set_option maxHeartbeats 2000000 in
theorem refParse_2 (t : ByteArray) (hm : MK t 2) (hf : fitL t.data.toList (SS DS) 0 0 = (2, 0)) (w : World) :
    Calls Tryz.prog 24 #[.string t] w fun e w' => e = .returned (shA t 2) ∧ Below w.heap.size w w' := by
  have hz := mk_size t 2 8 hm (by decide +kernel)
  have b0 : 0 ≤ nt t 0 4 ∧ nt t 0 4 ≤ 9999 := by
    have h := nt_in t 2 0 4 hm (by omega) (by decide +kernel)
    have e : (10 ^ 4 : Nat) = 10000 := by decide
    rw [e] at h
    omega
  have N0 : Hid (∀ w, Calls Tryz.prog 57 #[.string t, .int .i64 0, .int .i64 4] w fun e w' => e = .returned (.int .i64 (nt t 0 4)) ∧ w' = w) := fun w => num_any t 0 4 (by omega) (by omega) (by omega) (mk_dig t 2 0 4 hm (by decide +kernel)) w
  have b1 : 0 ≤ nt t 5 3 ∧ nt t 5 3 ≤ 999 := by
    have h := nt_in t 2 5 3 hm (by omega) (by decide +kernel)
    have e : (10 ^ 3 : Nat) = 1000 := by decide
    rw [e] at h
    omega
  have N1 : Hid (∀ w, Calls Tryz.prog 57 #[.string t, .int .i64 5, .int .i64 3] w fun e w' => e = .returned (.int .i64 (nt t 5 3)) ∧ w' = w) := fun w => num_any t 5 3 (by omega) (by omega) (by omega) (mk_dig t 2 5 3 hm (by decide +kernel)) w
  obtain ⟨z0, z1, hsz, hB0⟩ := two_zero w
  have HF := hid (shaped_ds t (by omega) ((w.alloc zD).alloc zD))
  rw [hf, show ((2 : Int), (0 : Nat)) = (((2 : Nat) : Int), 0) from rfl, shN_at, hsz] at HF
  have Z0 := hid z0
  have Z1 := hid z1
  have HB0 := hid hB0
  have HSZ := hid hsz
  have HV0 : Hid (shA t 2 = ryV 5 (nt t 0 4) (nt t 5 3)) := hid rfl
  rw [HV0.out]
  have HA0 := hid (fun w => refAhead_any (nt t 0 4) b0.1 (by omega) w)
  have HA1 := hid (fun w => refAhead_any (nt t 0 4 + 1) (by omega) (by omega) w)
  have hyn := ys_next (nt t 0 4)
  have hyb := ys_bounds (nt t 0 4) (by omega) (by omega)
  have hy0 := ys_le 0 (nt t 0 4) b0.1
  have hy1 := ys_le (nt t 0 4 + 1) 10000 (by omega)
  rw [ys_zero] at hy0
  rw [ys_10000] at hy1
  have hlp := lpN_cases (nt t 0 4)
  have hlp2 : 0 ≤ lpN (nt t 0 4) ∧ lpN (nt t 0 4) ≤ 1 := by omega
  clear hlp
  generalize nt t 0 4 = n0 at *
  generalize nt t 5 3 = n1 at *
  clear hf z0 z1 hB0 hsz hm
  by_cases g1 : 1 ≤ n1
  · by_cases g2 : n1 ≤ 365 + lpN n0
    · have HD := hid (fun w => refDate_any (ys n0 + n1 - 1) (by omega) (by omega) w)
      have HV : Hid (ryV 5 n0 n1 = rT (dY (ys n0 + n1 - 1)) (dM (ys n0 + n1 - 1)) (dD (ys n0 + n1 - 1)) 0 0) := by unfold ryV; rw [if_pos ⟨g1, g2⟩]; exact rfl
      rw [HV.out]
      have gd : ¬ ys (n0 + 1) - ys n0 < n1 := by omega
      have gb : -10000 ≤ ys (n0 + 1) ∧ ys (n0 + 1) ≤ 4000000 := by omega
      clear HV HV0 hyn hy0 hy1 hlp2 g2
      generalize dY (ys n0 + n1 - 1) = yy at *
      generalize dM (ys n0 + n1 - 1) = mm at *
      generalize dD (ys n0 + n1 - 1) = dd at *
      generalize ys (n0 + 1) = A1 at *
      generalize ys n0 = A0 at *
      unfold rT dV at *
      go_enter Tryz.func24, Tryz.ntmps24
      go_wp2_with fail
      refine HF.out.mono ?_
      rintro e w2 ⟨rfl, hb⟩
      rw [← HSZ.out] at hb
      have hx := Z0.out.later hb
      obtain ⟨k0, k1, k2, f0, f1, f2, _⟩ := hx.facts
      obtain ⟨j0, j1, j2, _⟩ := (Z1.out.later hb).facts
      have HB := hid (HB0.out.trans (hb.mono HB0.out.size))
      have HX := hid hx
      clear hx hb HF HB0
      go_wp2_with (first | (go_at_call_of 57 (Value.int IntKind.i64 0); refine (N0.out _).mono ?_; rintro e w' ⟨rfl, rfl⟩) | (go_at_call_of 57 (Value.int IntKind.i64 5); refine (N1.out _).mono ?_; rintro e w' ⟨rfl, rfl⟩))
      refine (HA1.out _).mono ?_
      rintro e w' ⟨rfl, rfl⟩
      go_wp2_with fail
      refine (HA0.out _).mono ?_
      rintro e w' ⟨rfl, rfl⟩
      go_wp2_with fail
      refine (HA0.out _).mono ?_
      rintro e w' ⟨rfl, rfl⟩
      go_wp2_with fail
      refine (HD.out _).mono ?_
      rintro e w3 ⟨rfl, hb3⟩
      have HX3 := hid (HX.out.later hb3)
      have HB3 := hid (HB.out.trans (hb3.mono HB.out.size))
      obtain ⟨k0, k1, k2, f0, f1, f2, _⟩ := HX3.out.facts
      obtain ⟨d0, d1, d2, _⟩ := (HX3.out.put yy mm dd).facts
      clear hb3
      go_wp2
      refine bodyPost_ret (by simp [results, Tryz.results24, go_sem, d0, d1, d2]; try rfl) rfl ?_
      exact ⟨rfl, ((HB3.out.setCell (Nat.le_refl _) _).setCell (Nat.le_refl _) _).setCell (Nat.le_refl _) _⟩
    · have HV : Hid (ryV 5 n0 n1 = rT 0 0 0 30 5) := by unfold ryV; rw [if_neg (fun h => g2 h.2)]; exact rfl
      rw [HV.out]
      have gd : ys (n0 + 1) - ys n0 < n1 := by omega
      have gb : -10000 ≤ ys (n0 + 1) ∧ ys (n0 + 1) ≤ 4000000 := by omega
      clear HV HV0 hyn hy0 hy1 hlp2 g2
      generalize ys (n0 + 1) = A1 at *
      generalize ys n0 = A0 at *
      unfold rT dV at *
      go_enter Tryz.func24, Tryz.ntmps24
      go_wp2_with fail
      refine HF.out.mono ?_
      rintro e w2 ⟨rfl, hb⟩
      rw [← HSZ.out] at hb
      have hx := Z0.out.later hb
      obtain ⟨k0, k1, k2, f0, f1, f2, _⟩ := hx.facts
      obtain ⟨d0, d1, d2, _⟩ := (hx.put 0 0 0).facts
      obtain ⟨j0, j1, j2, _⟩ := (Z1.out.later hb).facts
      have HB := hid (HB0.out.trans (hb.mono HB0.out.size))
      clear hx hb HF HB0
      go_wp2_with (first | (go_at_call_of 57 (Value.int IntKind.i64 0); refine (N0.out _).mono ?_; rintro e w' ⟨rfl, rfl⟩) | (go_at_call_of 57 (Value.int IntKind.i64 5); refine (N1.out _).mono ?_; rintro e w' ⟨rfl, rfl⟩))
      refine (HA1.out _).mono ?_
      rintro e w' ⟨rfl, rfl⟩
      go_wp2_with fail
      refine (HA0.out _).mono ?_
      rintro e w' ⟨rfl, rfl⟩
      go_wp2
      refine bodyPost_ret (by simp [results, Tryz.results24, go_sem, d0, d1, d2]; try rfl) rfl ?_
      exact ⟨rfl, ((HB.out.setCell (Nat.le_refl _) _).setCell (Nat.le_refl _) _).setCell (Nat.le_refl _) _⟩
  · have HV : Hid (ryV 5 n0 n1 = rT 0 0 0 30 5) := by unfold ryV; rw [if_neg (fun h => g1 h.1)]; exact rfl
    rw [HV.out]
    clear HV HV0 hyn hy0 hy1 hlp2 HA0 HA1 hyb
    unfold rT dV at *
    go_enter Tryz.func24, Tryz.ntmps24
    go_wp2_with fail
    refine HF.out.mono ?_
    rintro e w2 ⟨rfl, hb⟩
    rw [← HSZ.out] at hb
    have hx := Z0.out.later hb
    obtain ⟨k0, k1, k2, f0, f1, f2, _⟩ := hx.facts
    obtain ⟨d0, d1, d2, _⟩ := (hx.put 0 0 0).facts
    obtain ⟨j0, j1, j2, _⟩ := (Z1.out.later hb).facts
    have HB := hid (HB0.out.trans (hb.mono HB0.out.size))
    clear hx hb HF HB0
    go_wp2_with (first | (go_at_call_of 57 (Value.int IntKind.i64 0); refine (N0.out _).mono ?_; rintro e w' ⟨rfl, rfl⟩) | (go_at_call_of 57 (Value.int IntKind.i64 5); refine (N1.out _).mono ?_; rintro e w' ⟨rfl, rfl⟩))
    refine bodyPost_ret (by simp [results, Tryz.results24, go_sem, d0, d1, d2]; try rfl) rfl ?_
    exact ⟨rfl, ((HB.out.setCell (Nat.le_refl _) _).setCell (Nat.le_refl _) _).setCell (Nat.le_refl _) _⟩

set_option maxHeartbeats 2000000 in
theorem refParse_3 (t : ByteArray) (hm : MK t 3) (hf : fitL t.data.toList (SS DS) 0 0 = (3, 0)) (w : World) :
    Calls Tryz.prog 24 #[.string t] w fun e w' => e = .returned (shA t 3) ∧ Below w.heap.size w w' := by
  have hz := mk_size t 3 7 hm (by decide +kernel)
  have b0 : 0 ≤ nt t 0 4 ∧ nt t 0 4 ≤ 9999 := by
    have h := nt_in t 3 0 4 hm (by omega) (by decide +kernel)
    have e : (10 ^ 4 : Nat) = 10000 := by decide
    rw [e] at h
    omega
  have N0 : Hid (∀ w, Calls Tryz.prog 57 #[.string t, .int .i64 0, .int .i64 4] w fun e w' => e = .returned (.int .i64 (nt t 0 4)) ∧ w' = w) := fun w => num_any t 0 4 (by omega) (by omega) (by omega) (mk_dig t 3 0 4 hm (by decide +kernel)) w
  have b1 : 0 ≤ nt t 4 3 ∧ nt t 4 3 ≤ 999 := by
    have h := nt_in t 3 4 3 hm (by omega) (by decide +kernel)
    have e : (10 ^ 3 : Nat) = 1000 := by decide
    rw [e] at h
    omega
  have N1 : Hid (∀ w, Calls Tryz.prog 57 #[.string t, .int .i64 4, .int .i64 3] w fun e w' => e = .returned (.int .i64 (nt t 4 3)) ∧ w' = w) := fun w => num_any t 4 3 (by omega) (by omega) (by omega) (mk_dig t 3 4 3 hm (by decide +kernel)) w
  obtain ⟨z0, z1, hsz, hB0⟩ := two_zero w
  have HF := hid (shaped_ds t (by omega) ((w.alloc zD).alloc zD))
  rw [hf, show ((3 : Int), (0 : Nat)) = (((3 : Nat) : Int), 0) from rfl, shN_at, hsz] at HF
  have Z0 := hid z0
  have Z1 := hid z1
  have HB0 := hid hB0
  have HSZ := hid hsz
  have HV0 : Hid (shA t 3 = ryV 4 (nt t 0 4) (nt t 4 3)) := hid rfl
  rw [HV0.out]
  have HA0 := hid (fun w => refAhead_any (nt t 0 4) b0.1 (by omega) w)
  have HA1 := hid (fun w => refAhead_any (nt t 0 4 + 1) (by omega) (by omega) w)
  have hyn := ys_next (nt t 0 4)
  have hyb := ys_bounds (nt t 0 4) (by omega) (by omega)
  have hy0 := ys_le 0 (nt t 0 4) b0.1
  have hy1 := ys_le (nt t 0 4 + 1) 10000 (by omega)
  rw [ys_zero] at hy0
  rw [ys_10000] at hy1
  have hlp := lpN_cases (nt t 0 4)
  have hlp2 : 0 ≤ lpN (nt t 0 4) ∧ lpN (nt t 0 4) ≤ 1 := by omega
  clear hlp
  generalize nt t 0 4 = n0 at *
  generalize nt t 4 3 = n1 at *
  clear hf z0 z1 hB0 hsz hm
  by_cases g1 : 1 ≤ n1
  · by_cases g2 : n1 ≤ 365 + lpN n0
    · have HD := hid (fun w => refDate_any (ys n0 + n1 - 1) (by omega) (by omega) w)
      have HV : Hid (ryV 4 n0 n1 = rT (dY (ys n0 + n1 - 1)) (dM (ys n0 + n1 - 1)) (dD (ys n0 + n1 - 1)) 0 0) := by unfold ryV; rw [if_pos ⟨g1, g2⟩]; exact rfl
      rw [HV.out]
      have gd : ¬ ys (n0 + 1) - ys n0 < n1 := by omega
      have gb : -10000 ≤ ys (n0 + 1) ∧ ys (n0 + 1) ≤ 4000000 := by omega
      clear HV HV0 hyn hy0 hy1 hlp2 g2
      generalize dY (ys n0 + n1 - 1) = yy at *
      generalize dM (ys n0 + n1 - 1) = mm at *
      generalize dD (ys n0 + n1 - 1) = dd at *
      generalize ys (n0 + 1) = A1 at *
      generalize ys n0 = A0 at *
      unfold rT dV at *
      go_enter Tryz.func24, Tryz.ntmps24
      go_wp2_with fail
      refine HF.out.mono ?_
      rintro e w2 ⟨rfl, hb⟩
      rw [← HSZ.out] at hb
      have hx := Z0.out.later hb
      obtain ⟨k0, k1, k2, f0, f1, f2, _⟩ := hx.facts
      obtain ⟨j0, j1, j2, _⟩ := (Z1.out.later hb).facts
      have HB := hid (HB0.out.trans (hb.mono HB0.out.size))
      have HX := hid hx
      clear hx hb HF HB0
      go_wp2_with (first | (go_at_call_of 57 (Value.int IntKind.i64 0); refine (N0.out _).mono ?_; rintro e w' ⟨rfl, rfl⟩) | (go_at_call_of 57 (Value.int IntKind.i64 4); refine (N1.out _).mono ?_; rintro e w' ⟨rfl, rfl⟩))
      refine (HA1.out _).mono ?_
      rintro e w' ⟨rfl, rfl⟩
      go_wp2_with fail
      refine (HA0.out _).mono ?_
      rintro e w' ⟨rfl, rfl⟩
      go_wp2_with fail
      refine (HA0.out _).mono ?_
      rintro e w' ⟨rfl, rfl⟩
      go_wp2_with fail
      refine (HD.out _).mono ?_
      rintro e w3 ⟨rfl, hb3⟩
      have HX3 := hid (HX.out.later hb3)
      have HB3 := hid (HB.out.trans (hb3.mono HB.out.size))
      obtain ⟨k0, k1, k2, f0, f1, f2, _⟩ := HX3.out.facts
      obtain ⟨d0, d1, d2, _⟩ := (HX3.out.put yy mm dd).facts
      clear hb3
      go_wp2
      refine bodyPost_ret (by simp [results, Tryz.results24, go_sem, d0, d1, d2]; try rfl) rfl ?_
      exact ⟨rfl, ((HB3.out.setCell (Nat.le_refl _) _).setCell (Nat.le_refl _) _).setCell (Nat.le_refl _) _⟩
    · have HV : Hid (ryV 4 n0 n1 = rT 0 0 0 30 4) := by unfold ryV; rw [if_neg (fun h => g2 h.2)]; exact rfl
      rw [HV.out]
      have gd : ys (n0 + 1) - ys n0 < n1 := by omega
      have gb : -10000 ≤ ys (n0 + 1) ∧ ys (n0 + 1) ≤ 4000000 := by omega
      clear HV HV0 hyn hy0 hy1 hlp2 g2
      generalize ys (n0 + 1) = A1 at *
      generalize ys n0 = A0 at *
      unfold rT dV at *
      go_enter Tryz.func24, Tryz.ntmps24
      go_wp2_with fail
      refine HF.out.mono ?_
      rintro e w2 ⟨rfl, hb⟩
      rw [← HSZ.out] at hb
      have hx := Z0.out.later hb
      obtain ⟨k0, k1, k2, f0, f1, f2, _⟩ := hx.facts
      obtain ⟨d0, d1, d2, _⟩ := (hx.put 0 0 0).facts
      obtain ⟨j0, j1, j2, _⟩ := (Z1.out.later hb).facts
      have HB := hid (HB0.out.trans (hb.mono HB0.out.size))
      clear hx hb HF HB0
      go_wp2_with (first | (go_at_call_of 57 (Value.int IntKind.i64 0); refine (N0.out _).mono ?_; rintro e w' ⟨rfl, rfl⟩) | (go_at_call_of 57 (Value.int IntKind.i64 4); refine (N1.out _).mono ?_; rintro e w' ⟨rfl, rfl⟩))
      refine (HA1.out _).mono ?_
      rintro e w' ⟨rfl, rfl⟩
      go_wp2_with fail
      refine (HA0.out _).mono ?_
      rintro e w' ⟨rfl, rfl⟩
      go_wp2
      refine bodyPost_ret (by simp [results, Tryz.results24, go_sem, d0, d1, d2]; try rfl) rfl ?_
      exact ⟨rfl, ((HB.out.setCell (Nat.le_refl _) _).setCell (Nat.le_refl _) _).setCell (Nat.le_refl _) _⟩
  · have HV : Hid (ryV 4 n0 n1 = rT 0 0 0 30 4) := by unfold ryV; rw [if_neg (fun h => g1 h.1)]; exact rfl
    rw [HV.out]
    clear HV HV0 hyn hy0 hy1 hlp2 HA0 HA1 hyb
    unfold rT dV at *
    go_enter Tryz.func24, Tryz.ntmps24
    go_wp2_with fail
    refine HF.out.mono ?_
    rintro e w2 ⟨rfl, hb⟩
    rw [← HSZ.out] at hb
    have hx := Z0.out.later hb
    obtain ⟨k0, k1, k2, f0, f1, f2, _⟩ := hx.facts
    obtain ⟨d0, d1, d2, _⟩ := (hx.put 0 0 0).facts
    obtain ⟨j0, j1, j2, _⟩ := (Z1.out.later hb).facts
    have HB := hid (HB0.out.trans (hb.mono HB0.out.size))
    clear hx hb HF HB0
    go_wp2_with (first | (go_at_call_of 57 (Value.int IntKind.i64 0); refine (N0.out _).mono ?_; rintro e w' ⟨rfl, rfl⟩) | (go_at_call_of 57 (Value.int IntKind.i64 4); refine (N1.out _).mono ?_; rintro e w' ⟨rfl, rfl⟩))
    refine bodyPost_ret (by simp [results, Tryz.results24, go_sem, d0, d1, d2]; try rfl) rfl ?_
    exact ⟨rfl, ((HB.out.setCell (Nat.le_refl _) _).setCell (Nat.le_refl _) _).setCell (Nat.le_refl _) _⟩

end Go.Proofs.YtcmllfipaiacfaaGreatDoor
