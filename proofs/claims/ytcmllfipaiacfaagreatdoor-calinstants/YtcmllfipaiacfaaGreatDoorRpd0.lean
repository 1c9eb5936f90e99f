/-
  The document's own ParseDate, shapes 0 and 1.
-/
import Derived.Test.YtcmllfipaiacfaaGreatDoorRpdh
namespace Go.Proofs.YtcmllfipaiacfaaGreatDoor
open Go.RowKit
set_option maxRecDepth 100000

set_option maxHeartbeats 2000000 in
theorem refParse_0 (t : ByteArray) (hm : MK t 0) (hf : fitL t.data.toList (SS DS) 0 0 = (0, 0)) (w : World) :
    Calls Tryz.prog 24 #[.string t] w fun e w' => e = .returned (shA t 0) ∧ Below w.heap.size w w' := by
  have hz := mk_size t 0 10 hm (by decide +kernel)
  have b0 : 0 ≤ nt t 0 4 ∧ nt t 0 4 ≤ 9999 := by
    have h := nt_in t 0 0 4 hm (by omega) (by decide +kernel)
    have e : (10 ^ 4 : Nat) = 10000 := by decide
    rw [e] at h
    omega
  have N0 : Hid (∀ w, Calls Tryz.prog 57 #[.string t, .int .i64 0, .int .i64 4] w fun e w' => e = .returned (.int .i64 (nt t 0 4)) ∧ w' = w) := fun w => num_any t 0 4 (by omega) (by omega) (by omega) (mk_dig t 0 0 4 hm (by decide +kernel)) w
  have b1 : 0 ≤ nt t 5 2 ∧ nt t 5 2 ≤ 99 := by
    have h := nt_in t 0 5 2 hm (by omega) (by decide +kernel)
    have e : (10 ^ 2 : Nat) = 100 := by decide
    rw [e] at h
    omega
  have N1 : Hid (∀ w, Calls Tryz.prog 57 #[.string t, .int .i64 5, .int .i64 2] w fun e w' => e = .returned (.int .i64 (nt t 5 2)) ∧ w' = w) := fun w => num_any t 5 2 (by omega) (by omega) (by omega) (mk_dig t 0 5 2 hm (by decide +kernel)) w
  have b2 : 0 ≤ nt t 8 2 ∧ nt t 8 2 ≤ 99 := by
    have h := nt_in t 0 8 2 hm (by omega) (by decide +kernel)
    have e : (10 ^ 2 : Nat) = 100 := by decide
    rw [e] at h
    omega
  have N2 : Hid (∀ w, Calls Tryz.prog 57 #[.string t, .int .i64 8, .int .i64 2] w fun e w' => e = .returned (.int .i64 (nt t 8 2)) ∧ w' = w) := fun w => num_any t 8 2 (by omega) (by omega) (by omega) (mk_dig t 0 8 2 hm (by decide +kernel)) w
  obtain ⟨z0, z1, hsz, hB0⟩ := two_zero w
  have HF := hid (shaped_ds t (by omega) ((w.alloc zD).alloc zD))
  rw [hf, show ((0 : Int), (0 : Nat)) = (((0 : Nat) : Int), 0) from rfl, shN_at, hsz] at HF
  have Z0 := hid z0
  have Z1 := hid z1
  have HB0 := hid hB0
  have HSZ := hid hsz
  have HV0 : Hid (shA t 0 = rdV 5 8 (nt t 0 4) (nt t 5 2) (nt t 8 2)) := hid rfl
  rw [HV0.out]
  have HL := hid (fun w => refLong_any (nt t 0 4) (nt t 5 2) b0.1 w)
  have hlg := lg_le (nt t 0 4) (nt t 5 2)
  generalize nt t 0 4 = n0 at *
  generalize nt t 5 2 = n1 at *
  generalize nt t 8 2 = n2 at *
  clear hf z0 z1 hB0 hsz hm
  by_cases g1 : 1 ≤ n1 ∧ n1 ≤ 12
  · obtain ⟨g1a, g1b⟩ := g1
    by_cases g2 : 1 ≤ n2
    · by_cases g3 : n2 ≤ lg n0 n1
      · have HV : Hid (rdV 5 8 n0 n1 n2 = rT n0 n1 n2 0 0) := by unfold rdV; rw [if_pos ⟨g1a, g1b⟩, if_pos ⟨b0.1, b0.2, g1a, g1b, g2, g3⟩]; exact rfl
        rw [HV.out]
        clear HV HV0
        generalize lg n0 n1 = L at *
        unfold rT dV at *
        go_enter Tryz.func24, Tryz.ntmps24
        go_wp2_with fail
        refine HF.out.mono ?_
        rintro e w2 ⟨rfl, hb⟩
        rw [← HSZ.out] at hb
        have hx := Z0.out.later hb
        obtain ⟨k0, k1, k2, f0, f1, f2, _⟩ := hx.facts
        obtain ⟨d0, d1, d2, _⟩ := (hx.put n0 n1 n2).facts
        obtain ⟨j0, j1, j2, _⟩ := (Z1.out.later hb).facts
        have HB := hid (HB0.out.trans (hb.mono HB0.out.size))
        clear hx hb HF HB0
        go_wp2_with (first | (go_at_call_of 57 (Value.int IntKind.i64 0); refine (N0.out _).mono ?_; rintro e w' ⟨rfl, rfl⟩) | (go_at_call_of 57 (Value.int IntKind.i64 5); refine (N1.out _).mono ?_; rintro e w' ⟨rfl, rfl⟩) | (go_at_call_of 57 (Value.int IntKind.i64 8); refine (N2.out _).mono ?_; rintro e w' ⟨rfl, rfl⟩) | (go_at_call 58; refine (HL.out _).mono ?_; rintro e w' ⟨rfl, rfl⟩))
        refine bodyPost_ret (by simp [results, Tryz.results24, go_sem, d0, d1, d2]; try rfl) rfl ?_
        exact ⟨rfl, ((HB.out.setCell (Nat.le_refl _) _).setCell (Nat.le_refl _) _).setCell (Nat.le_refl _) _⟩
      · have HV : Hid (rdV 5 8 n0 n1 n2 = rT 0 0 0 30 8) := by unfold rdV; rw [if_pos ⟨g1a, g1b⟩, if_neg (fun h => g3 h.2.2.2.2.2)]; exact rfl
        rw [HV.out]
        clear HV HV0
        generalize lg n0 n1 = L at *
        unfold rT dV at *
        go_enter Tryz.func24, Tryz.ntmps24
        go_wp2_with fail
        refine HF.out.mono ?_
        rintro e w2 ⟨rfl, hb⟩
        rw [← HSZ.out] at hb
        have hx := Z0.out.later hb
        obtain ⟨k0, k1, k2, f0, f1, f2, _⟩ := hx.facts
        obtain ⟨d0, d1, d2, _⟩ := (hx.put 0 0 0).facts
        obtain ⟨j0, j1, j2, _⟩ := (Z1.out.later hb).facts
        have HB := hid (HB0.out.trans (hb.mono HB0.out.size))
        clear hx hb HF HB0
        go_wp2_with (first | (go_at_call_of 57 (Value.int IntKind.i64 0); refine (N0.out _).mono ?_; rintro e w' ⟨rfl, rfl⟩) | (go_at_call_of 57 (Value.int IntKind.i64 5); refine (N1.out _).mono ?_; rintro e w' ⟨rfl, rfl⟩) | (go_at_call_of 57 (Value.int IntKind.i64 8); refine (N2.out _).mono ?_; rintro e w' ⟨rfl, rfl⟩) | (go_at_call 58; refine (HL.out _).mono ?_; rintro e w' ⟨rfl, rfl⟩))
        refine bodyPost_ret (by simp [results, Tryz.results24, go_sem, d0, d1, d2]; try rfl) rfl ?_
        exact ⟨rfl, ((HB.out.setCell (Nat.le_refl _) _).setCell (Nat.le_refl _) _).setCell (Nat.le_refl _) _⟩
    · have HV : Hid (rdV 5 8 n0 n1 n2 = rT 0 0 0 30 8) := by unfold rdV; rw [if_pos ⟨g1a, g1b⟩, if_neg (fun h => g2 h.2.2.2.2.1)]; exact rfl
      rw [HV.out]
      clear HV HV0 hlg HL
      unfold rT dV at *
      go_enter Tryz.func24, Tryz.ntmps24
      go_wp2_with fail
      refine HF.out.mono ?_
      rintro e w2 ⟨rfl, hb⟩
      rw [← HSZ.out] at hb
      have hx := Z0.out.later hb
      obtain ⟨k0, k1, k2, f0, f1, f2, _⟩ := hx.facts
      obtain ⟨d0, d1, d2, _⟩ := (hx.put 0 0 0).facts
      obtain ⟨j0, j1, j2, _⟩ := (Z1.out.later hb).facts
      have HB := hid (HB0.out.trans (hb.mono HB0.out.size))
      clear hx hb HF HB0
      go_wp2_with (first | (go_at_call_of 57 (Value.int IntKind.i64 0); refine (N0.out _).mono ?_; rintro e w' ⟨rfl, rfl⟩) | (go_at_call_of 57 (Value.int IntKind.i64 5); refine (N1.out _).mono ?_; rintro e w' ⟨rfl, rfl⟩) | (go_at_call_of 57 (Value.int IntKind.i64 8); refine (N2.out _).mono ?_; rintro e w' ⟨rfl, rfl⟩))
      refine bodyPost_ret (by simp [results, Tryz.results24, go_sem, d0, d1, d2]; try rfl) rfl ?_
      exact ⟨rfl, ((HB.out.setCell (Nat.le_refl _) _).setCell (Nat.le_refl _) _).setCell (Nat.le_refl _) _⟩
  · have HV : Hid (rdV 5 8 n0 n1 n2 = rT 0 0 0 30 5) := by unfold rdV; rw [if_neg g1]; exact rfl
    rw [HV.out]
    clear HV HV0 hlg HL
    by_cases g2 : 1 ≤ n1
    · have g3 : ¬ n1 ≤ 12 := fun h => g1 ⟨g2, h⟩
      clear g1
      unfold rT dV at *
      go_enter Tryz.func24, Tryz.ntmps24
      go_wp2_with fail
      refine HF.out.mono ?_
      rintro e w2 ⟨rfl, hb⟩
      rw [← HSZ.out] at hb
      have hx := Z0.out.later hb
      obtain ⟨k0, k1, k2, f0, f1, f2, _⟩ := hx.facts
      obtain ⟨d0, d1, d2, _⟩ := (hx.put 0 0 0).facts
      obtain ⟨j0, j1, j2, _⟩ := (Z1.out.later hb).facts
      have HB := hid (HB0.out.trans (hb.mono HB0.out.size))
      clear hx hb HF HB0
      go_wp2_with (first | (go_at_call_of 57 (Value.int IntKind.i64 0); refine (N0.out _).mono ?_; rintro e w' ⟨rfl, rfl⟩) | (go_at_call_of 57 (Value.int IntKind.i64 5); refine (N1.out _).mono ?_; rintro e w' ⟨rfl, rfl⟩) | (go_at_call_of 57 (Value.int IntKind.i64 8); refine (N2.out _).mono ?_; rintro e w' ⟨rfl, rfl⟩))
      refine bodyPost_ret (by simp [results, Tryz.results24, go_sem, d0, d1, d2]; try rfl) rfl ?_
      exact ⟨rfl, ((HB.out.setCell (Nat.le_refl _) _).setCell (Nat.le_refl _) _).setCell (Nat.le_refl _) _⟩
    · clear g1
      unfold rT dV at *
      go_enter Tryz.func24, Tryz.ntmps24
      go_wp2_with fail
      refine HF.out.mono ?_
      rintro e w2 ⟨rfl, hb⟩
      rw [← HSZ.out] at hb
      have hx := Z0.out.later hb
      obtain ⟨k0, k1, k2, f0, f1, f2, _⟩ := hx.facts
      obtain ⟨d0, d1, d2, _⟩ := (hx.put 0 0 0).facts
      obtain ⟨j0, j1, j2, _⟩ := (Z1.out.later hb).facts
      have HB := hid (HB0.out.trans (hb.mono HB0.out.size))
      clear hx hb HF HB0
      go_wp2_with (first | (go_at_call_of 57 (Value.int IntKind.i64 0); refine (N0.out _).mono ?_; rintro e w' ⟨rfl, rfl⟩) | (go_at_call_of 57 (Value.int IntKind.i64 5); refine (N1.out _).mono ?_; rintro e w' ⟨rfl, rfl⟩) | (go_at_call_of 57 (Value.int IntKind.i64 8); refine (N2.out _).mono ?_; rintro e w' ⟨rfl, rfl⟩))
      refine bodyPost_ret (by simp [results, Tryz.results24, go_sem, d0, d1, d2]; try rfl) rfl ?_
      exact ⟨rfl, ((HB.out.setCell (Nat.le_refl _) _).setCell (Nat.le_refl _) _).setCell (Nat.le_refl _) _⟩

set_option maxHeartbeats 2000000 in
theorem refParse_1 (t : ByteArray) (hm : MK t 1) (hf : fitL t.data.toList (SS DS) 0 0 = (1, 0)) (w : World) :
    Calls Tryz.prog 24 #[.string t] w fun e w' => e = .returned (shA t 1) ∧ Below w.heap.size w w' := by
  have hz := mk_size t 1 8 hm (by decide +kernel)
  have b0 : 0 ≤ nt t 0 4 ∧ nt t 0 4 ≤ 9999 := by
    have h := nt_in t 1 0 4 hm (by omega) (by decide +kernel)
    have e : (10 ^ 4 : Nat) = 10000 := by decide
    rw [e] at h
    omega
  have N0 : Hid (∀ w, Calls Tryz.prog 57 #[.string t, .int .i64 0, .int .i64 4] w fun e w' => e = .returned (.int .i64 (nt t 0 4)) ∧ w' = w) := fun w => num_any t 0 4 (by omega) (by omega) (by omega) (mk_dig t 1 0 4 hm (by decide +kernel)) w
  have b1 : 0 ≤ nt t 4 2 ∧ nt t 4 2 ≤ 99 := by
    have h := nt_in t 1 4 2 hm (by omega) (by decide +kernel)
    have e : (10 ^ 2 : Nat) = 100 := by decide
    rw [e] at h
    omega
  have N1 : Hid (∀ w, Calls Tryz.prog 57 #[.string t, .int .i64 4, .int .i64 2] w fun e w' => e = .returned (.int .i64 (nt t 4 2)) ∧ w' = w) := fun w => num_any t 4 2 (by omega) (by omega) (by omega) (mk_dig t 1 4 2 hm (by decide +kernel)) w
  have b2 : 0 ≤ nt t 6 2 ∧ nt t 6 2 ≤ 99 := by
    have h := nt_in t 1 6 2 hm (by omega) (by decide +kernel)
    have e : (10 ^ 2 : Nat) = 100 := by decide
    rw [e] at h
    omega
  have N2 : Hid (∀ w, Calls Tryz.prog 57 #[.string t, .int .i64 6, .int .i64 2] w fun e w' => e = .returned (.int .i64 (nt t 6 2)) ∧ w' = w) := fun w => num_any t 6 2 (by omega) (by omega) (by omega) (mk_dig t 1 6 2 hm (by decide +kernel)) w
  obtain ⟨z0, z1, hsz, hB0⟩ := two_zero w
  have HF := hid (shaped_ds t (by omega) ((w.alloc zD).alloc zD))
  rw [hf, show ((1 : Int), (0 : Nat)) = (((1 : Nat) : Int), 0) from rfl, shN_at, hsz] at HF
  have Z0 := hid z0
  have Z1 := hid z1
  have HB0 := hid hB0
  have HSZ := hid hsz
  have HV0 : Hid (shA t 1 = rdV 4 6 (nt t 0 4) (nt t 4 2) (nt t 6 2)) := hid rfl
  rw [HV0.out]
  have HL := hid (fun w => refLong_any (nt t 0 4) (nt t 4 2) b0.1 w)
  have hlg := lg_le (nt t 0 4) (nt t 4 2)
  generalize nt t 0 4 = n0 at *
  generalize nt t 4 2 = n1 at *
  generalize nt t 6 2 = n2 at *
  clear hf z0 z1 hB0 hsz hm
  by_cases g1 : 1 ≤ n1 ∧ n1 ≤ 12
  · obtain ⟨g1a, g1b⟩ := g1
    by_cases g2 : 1 ≤ n2
    · by_cases g3 : n2 ≤ lg n0 n1
      · have HV : Hid (rdV 4 6 n0 n1 n2 = rT n0 n1 n2 0 0) := by unfold rdV; rw [if_pos ⟨g1a, g1b⟩, if_pos ⟨b0.1, b0.2, g1a, g1b, g2, g3⟩]; exact rfl
        rw [HV.out]
        clear HV HV0
        generalize lg n0 n1 = L at *
        unfold rT dV at *
        go_enter Tryz.func24, Tryz.ntmps24
        go_wp2_with fail
        refine HF.out.mono ?_
        rintro e w2 ⟨rfl, hb⟩
        rw [← HSZ.out] at hb
        have hx := Z0.out.later hb
        obtain ⟨k0, k1, k2, f0, f1, f2, _⟩ := hx.facts
        obtain ⟨d0, d1, d2, _⟩ := (hx.put n0 n1 n2).facts
        obtain ⟨j0, j1, j2, _⟩ := (Z1.out.later hb).facts
        have HB := hid (HB0.out.trans (hb.mono HB0.out.size))
        clear hx hb HF HB0
        go_wp2_with (first | (go_at_call_of 57 (Value.int IntKind.i64 0); refine (N0.out _).mono ?_; rintro e w' ⟨rfl, rfl⟩) | (go_at_call_of 57 (Value.int IntKind.i64 4); refine (N1.out _).mono ?_; rintro e w' ⟨rfl, rfl⟩) | (go_at_call_of 57 (Value.int IntKind.i64 6); refine (N2.out _).mono ?_; rintro e w' ⟨rfl, rfl⟩) | (go_at_call 58; refine (HL.out _).mono ?_; rintro e w' ⟨rfl, rfl⟩))
        refine bodyPost_ret (by simp [results, Tryz.results24, go_sem, d0, d1, d2]; try rfl) rfl ?_
        exact ⟨rfl, ((HB.out.setCell (Nat.le_refl _) _).setCell (Nat.le_refl _) _).setCell (Nat.le_refl _) _⟩
      · have HV : Hid (rdV 4 6 n0 n1 n2 = rT 0 0 0 30 6) := by unfold rdV; rw [if_pos ⟨g1a, g1b⟩, if_neg (fun h => g3 h.2.2.2.2.2)]; exact rfl
        rw [HV.out]
        clear HV HV0
        generalize lg n0 n1 = L at *
        unfold rT dV at *
        go_enter Tryz.func24, Tryz.ntmps24
        go_wp2_with fail
        refine HF.out.mono ?_
        rintro e w2 ⟨rfl, hb⟩
        rw [← HSZ.out] at hb
        have hx := Z0.out.later hb
        obtain ⟨k0, k1, k2, f0, f1, f2, _⟩ := hx.facts
        obtain ⟨d0, d1, d2, _⟩ := (hx.put 0 0 0).facts
        obtain ⟨j0, j1, j2, _⟩ := (Z1.out.later hb).facts
        have HB := hid (HB0.out.trans (hb.mono HB0.out.size))
        clear hx hb HF HB0
        go_wp2_with (first | (go_at_call_of 57 (Value.int IntKind.i64 0); refine (N0.out _).mono ?_; rintro e w' ⟨rfl, rfl⟩) | (go_at_call_of 57 (Value.int IntKind.i64 4); refine (N1.out _).mono ?_; rintro e w' ⟨rfl, rfl⟩) | (go_at_call_of 57 (Value.int IntKind.i64 6); refine (N2.out _).mono ?_; rintro e w' ⟨rfl, rfl⟩) | (go_at_call 58; refine (HL.out _).mono ?_; rintro e w' ⟨rfl, rfl⟩))
        refine bodyPost_ret (by simp [results, Tryz.results24, go_sem, d0, d1, d2]; try rfl) rfl ?_
        exact ⟨rfl, ((HB.out.setCell (Nat.le_refl _) _).setCell (Nat.le_refl _) _).setCell (Nat.le_refl _) _⟩
    · have HV : Hid (rdV 4 6 n0 n1 n2 = rT 0 0 0 30 6) := by unfold rdV; rw [if_pos ⟨g1a, g1b⟩, if_neg (fun h => g2 h.2.2.2.2.1)]; exact rfl
      rw [HV.out]
      clear HV HV0 hlg HL
      unfold rT dV at *
      go_enter Tryz.func24, Tryz.ntmps24
      go_wp2_with fail
      refine HF.out.mono ?_
      rintro e w2 ⟨rfl, hb⟩
      rw [← HSZ.out] at hb
      have hx := Z0.out.later hb
      obtain ⟨k0, k1, k2, f0, f1, f2, _⟩ := hx.facts
      obtain ⟨d0, d1, d2, _⟩ := (hx.put 0 0 0).facts
      obtain ⟨j0, j1, j2, _⟩ := (Z1.out.later hb).facts
      have HB := hid (HB0.out.trans (hb.mono HB0.out.size))
      clear hx hb HF HB0
      go_wp2_with (first | (go_at_call_of 57 (Value.int IntKind.i64 0); refine (N0.out _).mono ?_; rintro e w' ⟨rfl, rfl⟩) | (go_at_call_of 57 (Value.int IntKind.i64 4); refine (N1.out _).mono ?_; rintro e w' ⟨rfl, rfl⟩) | (go_at_call_of 57 (Value.int IntKind.i64 6); refine (N2.out _).mono ?_; rintro e w' ⟨rfl, rfl⟩))
      refine bodyPost_ret (by simp [results, Tryz.results24, go_sem, d0, d1, d2]; try rfl) rfl ?_
      exact ⟨rfl, ((HB.out.setCell (Nat.le_refl _) _).setCell (Nat.le_refl _) _).setCell (Nat.le_refl _) _⟩
  · have HV : Hid (rdV 4 6 n0 n1 n2 = rT 0 0 0 30 4) := by unfold rdV; rw [if_neg g1]; exact rfl
    rw [HV.out]
    clear HV HV0 hlg HL
    by_cases g2 : 1 ≤ n1
    · have g3 : ¬ n1 ≤ 12 := fun h => g1 ⟨g2, h⟩
      clear g1
      unfold rT dV at *
      go_enter Tryz.func24, Tryz.ntmps24
      go_wp2_with fail
      refine HF.out.mono ?_
      rintro e w2 ⟨rfl, hb⟩
      rw [← HSZ.out] at hb
      have hx := Z0.out.later hb
      obtain ⟨k0, k1, k2, f0, f1, f2, _⟩ := hx.facts
      obtain ⟨d0, d1, d2, _⟩ := (hx.put 0 0 0).facts
      obtain ⟨j0, j1, j2, _⟩ := (Z1.out.later hb).facts
      have HB := hid (HB0.out.trans (hb.mono HB0.out.size))
      clear hx hb HF HB0
      go_wp2_with (first | (go_at_call_of 57 (Value.int IntKind.i64 0); refine (N0.out _).mono ?_; rintro e w' ⟨rfl, rfl⟩) | (go_at_call_of 57 (Value.int IntKind.i64 4); refine (N1.out _).mono ?_; rintro e w' ⟨rfl, rfl⟩) | (go_at_call_of 57 (Value.int IntKind.i64 6); refine (N2.out _).mono ?_; rintro e w' ⟨rfl, rfl⟩))
      refine bodyPost_ret (by simp [results, Tryz.results24, go_sem, d0, d1, d2]; try rfl) rfl ?_
      exact ⟨rfl, ((HB.out.setCell (Nat.le_refl _) _).setCell (Nat.le_refl _) _).setCell (Nat.le_refl _) _⟩
    · clear g1
      unfold rT dV at *
      go_enter Tryz.func24, Tryz.ntmps24
      go_wp2_with fail
      refine HF.out.mono ?_
      rintro e w2 ⟨rfl, hb⟩
      rw [← HSZ.out] at hb
      have hx := Z0.out.later hb
      obtain ⟨k0, k1, k2, f0, f1, f2, _⟩ := hx.facts
      obtain ⟨d0, d1, d2, _⟩ := (hx.put 0 0 0).facts
      obtain ⟨j0, j1, j2, _⟩ := (Z1.out.later hb).facts
      have HB := hid (HB0.out.trans (hb.mono HB0.out.size))
      clear hx hb HF HB0
      go_wp2_with (first | (go_at_call_of 57 (Value.int IntKind.i64 0); refine (N0.out _).mono ?_; rintro e w' ⟨rfl, rfl⟩) | (go_at_call_of 57 (Value.int IntKind.i64 4); refine (N1.out _).mono ?_; rintro e w' ⟨rfl, rfl⟩) | (go_at_call_of 57 (Value.int IntKind.i64 6); refine (N2.out _).mono ?_; rintro e w' ⟨rfl, rfl⟩))
      refine bodyPost_ret (by simp [results, Tryz.results24, go_sem, d0, d1, d2]; try rfl) rfl ?_
      exact ⟨rfl, ((HB.out.setCell (Nat.le_refl _) _).setCell (Nat.le_refl _) _).setCell (Nat.le_refl _) _⟩

end Go.Proofs.YtcmllfipaiacfaaGreatDoor
