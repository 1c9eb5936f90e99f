/-
  The document's own ParseDate, shapes 4 and 5.
-/
import Derived.Test.YtcmllfipaiacfaaGreatDoorRpdh
namespace Go.Proofs.YtcmllfipaiacfaaGreatDoor
open Go.RowKit
set_option maxRecDepth 100000

set_option maxHeartbeats 2000000 in
theorem refParse_4 (t : ByteArray) (hm : MK t 4) (hf : fitL t.data.toList (SS DS) 0 0 = (4, 0)) (w : World) :
    Calls Tryz.prog 24 #[.string t] w fun e w' => e = .returned (shA t 4) ∧ Below w.heap.size w w' := by
  have hz := mk_size t 4 10 hm (by decide +kernel)
  have b0 : 0 ≤ nt t 0 4 ∧ nt t 0 4 ≤ 9999 := by
    have h := nt_in t 4 0 4 hm (by omega) (by decide +kernel)
    have e : (10 ^ 4 : Nat) = 10000 := by decide
    rw [e] at h
    omega
  have N0 : Hid (∀ w, Calls Tryz.prog 57 #[.string t, .int .i64 0, .int .i64 4] w fun e w' => e = .returned (.int .i64 (nt t 0 4)) ∧ w' = w) := fun w => num_any t 0 4 (by omega) (by omega) (by omega) (mk_dig t 4 0 4 hm (by decide +kernel)) w
  have b1 : 0 ≤ nt t 6 2 ∧ nt t 6 2 ≤ 99 := by
    have h := nt_in t 4 6 2 hm (by omega) (by decide +kernel)
    have e : (10 ^ 2 : Nat) = 100 := by decide
    rw [e] at h
    omega
  have N1 : Hid (∀ w, Calls Tryz.prog 57 #[.string t, .int .i64 6, .int .i64 2] w fun e w' => e = .returned (.int .i64 (nt t 6 2)) ∧ w' = w) := fun w => num_any t 6 2 (by omega) (by omega) (by omega) (mk_dig t 4 6 2 hm (by decide +kernel)) w
  have b2 : 0 ≤ nt t 9 1 ∧ nt t 9 1 ≤ 9 := by
    have h := nt_in t 4 9 1 hm (by omega) (by decide +kernel)
    have e : (10 ^ 1 : Nat) = 10 := by decide
    rw [e] at h
    omega
  have N2 : Hid (∀ w, Calls Tryz.prog 57 #[.string t, .int .i64 9, .int .i64 1] w fun e w' => e = .returned (.int .i64 (nt t 9 1)) ∧ w' = w) := fun w => num_any t 9 1 (by omega) (by omega) (by omega) (mk_dig t 4 9 1 hm (by decide +kernel)) w
  obtain ⟨z0, z1, hsz, hB0⟩ := two_zero w
  have HF := hid (shaped_ds t (by omega) ((w.alloc zD).alloc zD))
  rw [hf, show ((4 : Int), (0 : Nat)) = (((4 : Nat) : Int), 0) from rfl, shN_at, hsz] at HF
  have Z0 := hid z0
  have Z1 := hid z1
  have HB0 := hid hB0
  have HSZ := hid hsz
  have HV0 : Hid (shA t 4 = rwV 6 9 (nt t 0 4) (nt t 6 2) (nt t 9 1)) := hid rfl
  rw [HV0.out]
  have HK := hid (fun w => refWeeks_any (nt t 0 4) (by omega) (by omega) w)
  have hwn := (wkN_is (nt t 0 4)).2
  generalize nt t 0 4 = n0 at *
  generalize nt t 6 2 = n1 at *
  generalize nt t 9 1 = n2 at *
  clear hf z0 z1 hB0 hsz hm
  by_cases g1 : 1 ≤ n1
  · by_cases g2 : n1 ≤ wkN n0
    · by_cases g3 : 1 ≤ n2 ∧ n2 ≤ 7
      · obtain ⟨g3a, g3b⟩ := g3
        obtain ⟨y1, m1, d1, e1, hv, ht1⟩ := ofVT (wkD n0 n1 n2)
        have HV : Hid (rwV 6 9 n0 n1 n2 = rT y1 m1 d1 e1 0) := by unfold rwV; rw [if_pos ⟨g1, g2⟩, if_pos ⟨g3a, g3b⟩]; exact ht1
        have HW := hid (fun w => refFromWeek_good n0 n1 n2 ⟨by omega, b0.2, g1, g2, g3a, g3b⟩ w)
        rw [hv] at HW
        rw [HV.out]
        clear HV HV0 hv ht1
        generalize wkN n0 = C at *
        unfold rT dV at *
        go_enter Tryz.func24, Tryz.ntmps24
        go_wp2_with fail
        refine HF.out.mono ?_
        rintro e w2 ⟨rfl, hb⟩
        rw [← HSZ.out] at hb
        have hx := Z0.out.later hb
        obtain ⟨k0, k1, k2, f0, f1, f2, _⟩ := hx.facts
        obtain ⟨j0, j1, j2, _⟩ := (Z1.out.later hb).facts
        have HB := hid (HB0.out.trans (hb.mono HB0.out.size))
        have HX := hid hx
        clear hx hb HF HB0
        go_wp2_with (first | (go_at_call_of 57 (Value.int IntKind.i64 0); refine (N0.out _).mono ?_; rintro e w' ⟨rfl, rfl⟩) | (go_at_call_of 57 (Value.int IntKind.i64 6); refine (N1.out _).mono ?_; rintro e w' ⟨rfl, rfl⟩) | (go_at_call_of 57 (Value.int IntKind.i64 9); refine (N2.out _).mono ?_; rintro e w' ⟨rfl, rfl⟩) | (go_at_call 61; refine (HK.out _).mono ?_; rintro e w' ⟨rfl, rfl⟩) | (go_at_call 62; refine (HW.out _).mono ?_; rintro e w3 ⟨rfl, hb3⟩; have HX3 := hid ((HX.out.later hb3).later (alloc_below _ (.cells #[.int .i64 y1, .int .i64 m1, .int .i64 d1] 34))); have HB3 := hid ((HB.out.trans (hb3.mono HB.out.size)).alloc (HB.out.trans (hb3.mono HB.out.size)).size (.cells #[.int .i64 y1, .int .i64 m1, .int .i64 d1] 34)); obtain ⟨k0, k1, k2, f0, f1, f2, _⟩ := HX3.out.facts; obtain ⟨q0, q1, q2, _⟩ := (HX3.out.put y1 m1 d1).facts; clear hb3))
        refine bodyPost_ret (by simp [results, Tryz.results24, go_sem, q0, q1, q2]; try rfl) rfl ?_
        exact ⟨rfl, ((HB3.out.setCell (Nat.le_refl _) _).setCell (Nat.le_refl _) _).setCell (Nat.le_refl _) _⟩
      · have HV : Hid (rwV 6 9 n0 n1 n2 = rT 0 0 0 30 9) := by unfold rwV; rw [if_pos ⟨g1, g2⟩, if_neg g3]; exact rfl
        rw [HV.out]
        clear HV HV0
        generalize wkN n0 = C at *
        by_cases g4 : 1 ≤ n2
        · have g5 : ¬ n2 ≤ 7 := fun h => g3 ⟨g4, h⟩
          clear g3
          unfold rT dV at *
          go_enter Tryz.func24, Tryz.ntmps24
          go_wp2_with fail
          refine HF.out.mono ?_
          rintro e w2 ⟨rfl, hb⟩
          rw [← HSZ.out] at hb
          have hx := Z0.out.later hb
          obtain ⟨k0, k1, k2, f0, f1, f2, _⟩ := hx.facts
          obtain ⟨d0, d1, d2, _⟩ := (hx.put 0 0 0).facts
          obtain ⟨j0, j1, j2, _⟩ := (Z1.out.later hb).facts
          have HB := hid (HB0.out.trans (hb.mono HB0.out.size))
          clear hx hb HF HB0
          go_wp2_with (first | (go_at_call_of 57 (Value.int IntKind.i64 0); refine (N0.out _).mono ?_; rintro e w' ⟨rfl, rfl⟩) | (go_at_call_of 57 (Value.int IntKind.i64 6); refine (N1.out _).mono ?_; rintro e w' ⟨rfl, rfl⟩) | (go_at_call_of 57 (Value.int IntKind.i64 9); refine (N2.out _).mono ?_; rintro e w' ⟨rfl, rfl⟩) | (go_at_call 61; refine (HK.out _).mono ?_; rintro e w' ⟨rfl, rfl⟩))
          refine bodyPost_ret (by simp [results, Tryz.results24, go_sem, d0, d1, d2]; try rfl) rfl ?_
          exact ⟨rfl, ((HB.out.setCell (Nat.le_refl _) _).setCell (Nat.le_refl _) _).setCell (Nat.le_refl _) _⟩
        · clear g3
          unfold rT dV at *
          go_enter Tryz.func24, Tryz.ntmps24
          go_wp2_with fail
          refine HF.out.mono ?_
          rintro e w2 ⟨rfl, hb⟩
          rw [← HSZ.out] at hb
          have hx := Z0.out.later hb
          obtain ⟨k0, k1, k2, f0, f1, f2, _⟩ := hx.facts
          obtain ⟨d0, d1, d2, _⟩ := (hx.put 0 0 0).facts
          obtain ⟨j0, j1, j2, _⟩ := (Z1.out.later hb).facts
          have HB := hid (HB0.out.trans (hb.mono HB0.out.size))
          clear hx hb HF HB0
          go_wp2_with (first | (go_at_call_of 57 (Value.int IntKind.i64 0); refine (N0.out _).mono ?_; rintro e w' ⟨rfl, rfl⟩) | (go_at_call_of 57 (Value.int IntKind.i64 6); refine (N1.out _).mono ?_; rintro e w' ⟨rfl, rfl⟩) | (go_at_call_of 57 (Value.int IntKind.i64 9); refine (N2.out _).mono ?_; rintro e w' ⟨rfl, rfl⟩) | (go_at_call 61; refine (HK.out _).mono ?_; rintro e w' ⟨rfl, rfl⟩))
          refine bodyPost_ret (by simp [results, Tryz.results24, go_sem, d0, d1, d2]; try rfl) rfl ?_
          exact ⟨rfl, ((HB.out.setCell (Nat.le_refl _) _).setCell (Nat.le_refl _) _).setCell (Nat.le_refl _) _⟩
    · have HV : Hid (rwV 6 9 n0 n1 n2 = rT 0 0 0 30 6) := by unfold rwV; rw [if_neg (fun h => g2 h.2)]; exact rfl
      rw [HV.out]
      clear HV HV0
      generalize wkN n0 = C at *
      unfold rT dV at *
      go_enter Tryz.func24, Tryz.ntmps24
      go_wp2_with fail
      refine HF.out.mono ?_
      rintro e w2 ⟨rfl, hb⟩
      rw [← HSZ.out] at hb
      have hx := Z0.out.later hb
      obtain ⟨k0, k1, k2, f0, f1, f2, _⟩ := hx.facts
      obtain ⟨d0, d1, d2, _⟩ := (hx.put 0 0 0).facts
      obtain ⟨j0, j1, j2, _⟩ := (Z1.out.later hb).facts
      have HB := hid (HB0.out.trans (hb.mono HB0.out.size))
      clear hx hb HF HB0
      go_wp2_with (first | (go_at_call_of 57 (Value.int IntKind.i64 0); refine (N0.out _).mono ?_; rintro e w' ⟨rfl, rfl⟩) | (go_at_call_of 57 (Value.int IntKind.i64 6); refine (N1.out _).mono ?_; rintro e w' ⟨rfl, rfl⟩) | (go_at_call_of 57 (Value.int IntKind.i64 9); refine (N2.out _).mono ?_; rintro e w' ⟨rfl, rfl⟩) | (go_at_call 61; refine (HK.out _).mono ?_; rintro e w' ⟨rfl, rfl⟩))
      refine bodyPost_ret (by simp [results, Tryz.results24, go_sem, d0, d1, d2]; try rfl) rfl ?_
      exact ⟨rfl, ((HB.out.setCell (Nat.le_refl _) _).setCell (Nat.le_refl _) _).setCell (Nat.le_refl _) _⟩
  · have HV : Hid (rwV 6 9 n0 n1 n2 = rT 0 0 0 30 6) := by unfold rwV; rw [if_neg (fun h => g1 h.1)]; exact rfl
    rw [HV.out]
    clear HV HV0 HK hwn
    unfold rT dV at *
    go_enter Tryz.func24, Tryz.ntmps24
    go_wp2_with fail
    refine HF.out.mono ?_
    rintro e w2 ⟨rfl, hb⟩
    rw [← HSZ.out] at hb
    have hx := Z0.out.later hb
    obtain ⟨k0, k1, k2, f0, f1, f2, _⟩ := hx.facts
    obtain ⟨d0, d1, d2, _⟩ := (hx.put 0 0 0).facts
    obtain ⟨j0, j1, j2, _⟩ := (Z1.out.later hb).facts
    have HB := hid (HB0.out.trans (hb.mono HB0.out.size))
    clear hx hb HF HB0
    go_wp2_with (first | (go_at_call_of 57 (Value.int IntKind.i64 0); refine (N0.out _).mono ?_; rintro e w' ⟨rfl, rfl⟩) | (go_at_call_of 57 (Value.int IntKind.i64 6); refine (N1.out _).mono ?_; rintro e w' ⟨rfl, rfl⟩) | (go_at_call_of 57 (Value.int IntKind.i64 9); refine (N2.out _).mono ?_; rintro e w' ⟨rfl, rfl⟩))
    refine bodyPost_ret (by simp [results, Tryz.results24, go_sem, d0, d1, d2]; try rfl) rfl ?_
    exact ⟨rfl, ((HB.out.setCell (Nat.le_refl _) _).setCell (Nat.le_refl _) _).setCell (Nat.le_refl _) _⟩

set_option maxHeartbeats 2000000 in
theorem refParse_5 (t : ByteArray) (hm : MK t 5) (hf : fitL t.data.toList (SS DS) 0 0 = (5, 0)) (w : World) :
    Calls Tryz.prog 24 #[.string t] w fun e w' => e = .returned (shA t 5) ∧ Below w.heap.size w w' := by
  have hz := mk_size t 5 8 hm (by decide +kernel)
  have b0 : 0 ≤ nt t 0 4 ∧ nt t 0 4 ≤ 9999 := by
    have h := nt_in t 5 0 4 hm (by omega) (by decide +kernel)
    have e : (10 ^ 4 : Nat) = 10000 := by decide
    rw [e] at h
    omega
  have N0 : Hid (∀ w, Calls Tryz.prog 57 #[.string t, .int .i64 0, .int .i64 4] w fun e w' => e = .returned (.int .i64 (nt t 0 4)) ∧ w' = w) := fun w => num_any t 0 4 (by omega) (by omega) (by omega) (mk_dig t 5 0 4 hm (by decide +kernel)) w
  have b1 : 0 ≤ nt t 5 2 ∧ nt t 5 2 ≤ 99 := by
    have h := nt_in t 5 5 2 hm (by omega) (by decide +kernel)
    have e : (10 ^ 2 : Nat) = 100 := by decide
    rw [e] at h
    omega
  have N1 : Hid (∀ w, Calls Tryz.prog 57 #[.string t, .int .i64 5, .int .i64 2] w fun e w' => e = .returned (.int .i64 (nt t 5 2)) ∧ w' = w) := fun w => num_any t 5 2 (by omega) (by omega) (by omega) (mk_dig t 5 5 2 hm (by decide +kernel)) w
  have b2 : 0 ≤ nt t 7 1 ∧ nt t 7 1 ≤ 9 := by
    have h := nt_in t 5 7 1 hm (by omega) (by decide +kernel)
    have e : (10 ^ 1 : Nat) = 10 := by decide
    rw [e] at h
    omega
  have N2 : Hid (∀ w, Calls Tryz.prog 57 #[.string t, .int .i64 7, .int .i64 1] w fun e w' => e = .returned (.int .i64 (nt t 7 1)) ∧ w' = w) := fun w => num_any t 7 1 (by omega) (by omega) (by omega) (mk_dig t 5 7 1 hm (by decide +kernel)) w
  obtain ⟨z0, z1, hsz, hB0⟩ := two_zero w
  have HF := hid (shaped_ds t (by omega) ((w.alloc zD).alloc zD))
  rw [hf, show ((5 : Int), (0 : Nat)) = (((5 : Nat) : Int), 0) from rfl, shN_at, hsz] at HF
  have Z0 := hid z0
  have Z1 := hid z1
  have HB0 := hid hB0
  have HSZ := hid hsz
  have HV0 : Hid (shA t 5 = rwV 5 7 (nt t 0 4) (nt t 5 2) (nt t 7 1)) := hid rfl
  rw [HV0.out]
  have HK := hid (fun w => refWeeks_any (nt t 0 4) (by omega) (by omega) w)
  have hwn := (wkN_is (nt t 0 4)).2
  generalize nt t 0 4 = n0 at *
  generalize nt t 5 2 = n1 at *
  generalize nt t 7 1 = n2 at *
  clear hf z0 z1 hB0 hsz hm
  by_cases g1 : 1 ≤ n1
  · by_cases g2 : n1 ≤ wkN n0
    · by_cases g3 : 1 ≤ n2 ∧ n2 ≤ 7
      · obtain ⟨g3a, g3b⟩ := g3
        obtain ⟨y1, m1, d1, e1, hv, ht1⟩ := ofVT (wkD n0 n1 n2)
        have HV : Hid (rwV 5 7 n0 n1 n2 = rT y1 m1 d1 e1 0) := by unfold rwV; rw [if_pos ⟨g1, g2⟩, if_pos ⟨g3a, g3b⟩]; exact ht1
        have HW := hid (fun w => refFromWeek_good n0 n1 n2 ⟨by omega, b0.2, g1, g2, g3a, g3b⟩ w)
        rw [hv] at HW
        rw [HV.out]
        clear HV HV0 hv ht1
        generalize wkN n0 = C at *
        unfold rT dV at *
        go_enter Tryz.func24, Tryz.ntmps24
        go_wp2_with fail
        refine HF.out.mono ?_
        rintro e w2 ⟨rfl, hb⟩
        rw [← HSZ.out] at hb
        have hx := Z0.out.later hb
        obtain ⟨k0, k1, k2, f0, f1, f2, _⟩ := hx.facts
        obtain ⟨j0, j1, j2, _⟩ := (Z1.out.later hb).facts
        have HB := hid (HB0.out.trans (hb.mono HB0.out.size))
        have HX := hid hx
        clear hx hb HF HB0
        go_wp2_with (first | (go_at_call_of 57 (Value.int IntKind.i64 0); refine (N0.out _).mono ?_; rintro e w' ⟨rfl, rfl⟩) | (go_at_call_of 57 (Value.int IntKind.i64 5); refine (N1.out _).mono ?_; rintro e w' ⟨rfl, rfl⟩) | (go_at_call_of 57 (Value.int IntKind.i64 7); refine (N2.out _).mono ?_; rintro e w' ⟨rfl, rfl⟩) | (go_at_call 61; refine (HK.out _).mono ?_; rintro e w' ⟨rfl, rfl⟩) | (go_at_call 62; refine (HW.out _).mono ?_; rintro e w3 ⟨rfl, hb3⟩; have HX3 := hid ((HX.out.later hb3).later (alloc_below _ (.cells #[.int .i64 y1, .int .i64 m1, .int .i64 d1] 34))); have HB3 := hid ((HB.out.trans (hb3.mono HB.out.size)).alloc (HB.out.trans (hb3.mono HB.out.size)).size (.cells #[.int .i64 y1, .int .i64 m1, .int .i64 d1] 34)); obtain ⟨k0, k1, k2, f0, f1, f2, _⟩ := HX3.out.facts; obtain ⟨q0, q1, q2, _⟩ := (HX3.out.put y1 m1 d1).facts; clear hb3))
        refine bodyPost_ret (by simp [results, Tryz.results24, go_sem, q0, q1, q2]; try rfl) rfl ?_
        exact ⟨rfl, ((HB3.out.setCell (Nat.le_refl _) _).setCell (Nat.le_refl _) _).setCell (Nat.le_refl _) _⟩
      · have HV : Hid (rwV 5 7 n0 n1 n2 = rT 0 0 0 30 7) := by unfold rwV; rw [if_pos ⟨g1, g2⟩, if_neg g3]; exact rfl
        rw [HV.out]
        clear HV HV0
        generalize wkN n0 = C at *
        by_cases g4 : 1 ≤ n2
        · have g5 : ¬ n2 ≤ 7 := fun h => g3 ⟨g4, h⟩
          clear g3
          unfold rT dV at *
          go_enter Tryz.func24, Tryz.ntmps24
          go_wp2_with fail
          refine HF.out.mono ?_
          rintro e w2 ⟨rfl, hb⟩
          rw [← HSZ.out] at hb
          have hx := Z0.out.later hb
          obtain ⟨k0, k1, k2, f0, f1, f2, _⟩ := hx.facts
          obtain ⟨d0, d1, d2, _⟩ := (hx.put 0 0 0).facts
          obtain ⟨j0, j1, j2, _⟩ := (Z1.out.later hb).facts
          have HB := hid (HB0.out.trans (hb.mono HB0.out.size))
          clear hx hb HF HB0
          go_wp2_with (first | (go_at_call_of 57 (Value.int IntKind.i64 0); refine (N0.out _).mono ?_; rintro e w' ⟨rfl, rfl⟩) | (go_at_call_of 57 (Value.int IntKind.i64 5); refine (N1.out _).mono ?_; rintro e w' ⟨rfl, rfl⟩) | (go_at_call_of 57 (Value.int IntKind.i64 7); refine (N2.out _).mono ?_; rintro e w' ⟨rfl, rfl⟩) | (go_at_call 61; refine (HK.out _).mono ?_; rintro e w' ⟨rfl, rfl⟩))
          refine bodyPost_ret (by simp [results, Tryz.results24, go_sem, d0, d1, d2]; try rfl) rfl ?_
          exact ⟨rfl, ((HB.out.setCell (Nat.le_refl _) _).setCell (Nat.le_refl _) _).setCell (Nat.le_refl _) _⟩
        · clear g3
          unfold rT dV at *
          go_enter Tryz.func24, Tryz.ntmps24
          go_wp2_with fail
          refine HF.out.mono ?_
          rintro e w2 ⟨rfl, hb⟩
          rw [← HSZ.out] at hb
          have hx := Z0.out.later hb
          obtain ⟨k0, k1, k2, f0, f1, f2, _⟩ := hx.facts
          obtain ⟨d0, d1, d2, _⟩ := (hx.put 0 0 0).facts
          obtain ⟨j0, j1, j2, _⟩ := (Z1.out.later hb).facts
          have HB := hid (HB0.out.trans (hb.mono HB0.out.size))
          clear hx hb HF HB0
          go_wp2_with (first | (go_at_call_of 57 (Value.int IntKind.i64 0); refine (N0.out _).mono ?_; rintro e w' ⟨rfl, rfl⟩) | (go_at_call_of 57 (Value.int IntKind.i64 5); refine (N1.out _).mono ?_; rintro e w' ⟨rfl, rfl⟩) | (go_at_call_of 57 (Value.int IntKind.i64 7); refine (N2.out _).mono ?_; rintro e w' ⟨rfl, rfl⟩) | (go_at_call 61; refine (HK.out _).mono ?_; rintro e w' ⟨rfl, rfl⟩))
          refine bodyPost_ret (by simp [results, Tryz.results24, go_sem, d0, d1, d2]; try rfl) rfl ?_
          exact ⟨rfl, ((HB.out.setCell (Nat.le_refl _) _).setCell (Nat.le_refl _) _).setCell (Nat.le_refl _) _⟩
    · have HV : Hid (rwV 5 7 n0 n1 n2 = rT 0 0 0 30 5) := by unfold rwV; rw [if_neg (fun h => g2 h.2)]; exact rfl
      rw [HV.out]
      clear HV HV0
      generalize wkN n0 = C at *
      unfold rT dV at *
      go_enter Tryz.func24, Tryz.ntmps24
      go_wp2_with fail
      refine HF.out.mono ?_
      rintro e w2 ⟨rfl, hb⟩
      rw [← HSZ.out] at hb
      have hx := Z0.out.later hb
      obtain ⟨k0, k1, k2, f0, f1, f2, _⟩ := hx.facts
      obtain ⟨d0, d1, d2, _⟩ := (hx.put 0 0 0).facts
      obtain ⟨j0, j1, j2, _⟩ := (Z1.out.later hb).facts
      have HB := hid (HB0.out.trans (hb.mono HB0.out.size))
      clear hx hb HF HB0
      go_wp2_with (first | (go_at_call_of 57 (Value.int IntKind.i64 0); refine (N0.out _).mono ?_; rintro e w' ⟨rfl, rfl⟩) | (go_at_call_of 57 (Value.int IntKind.i64 5); refine (N1.out _).mono ?_; rintro e w' ⟨rfl, rfl⟩) | (go_at_call_of 57 (Value.int IntKind.i64 7); refine (N2.out _).mono ?_; rintro e w' ⟨rfl, rfl⟩) | (go_at_call 61; refine (HK.out _).mono ?_; rintro e w' ⟨rfl, rfl⟩))
      refine bodyPost_ret (by simp [results, Tryz.results24, go_sem, d0, d1, d2]; try rfl) rfl ?_
      exact ⟨rfl, ((HB.out.setCell (Nat.le_refl _) _).setCell (Nat.le_refl _) _).setCell (Nat.le_refl _) _⟩
  · have HV : Hid (rwV 5 7 n0 n1 n2 = rT 0 0 0 30 5) := by unfold rwV; rw [if_neg (fun h => g1 h.1)]; exact rfl
    rw [HV.out]
    clear HV HV0 HK hwn
    unfold rT dV at *
    go_enter Tryz.func24, Tryz.ntmps24
    go_wp2_with fail
    refine HF.out.mono ?_
    rintro e w2 ⟨rfl, hb⟩
    rw [← HSZ.out] at hb
    have hx := Z0.out.later hb
    obtain ⟨k0, k1, k2, f0, f1, f2, _⟩ := hx.facts
    obtain ⟨d0, d1, d2, _⟩ := (hx.put 0 0 0).facts
    obtain ⟨j0, j1, j2, _⟩ := (Z1.out.later hb).facts
    have HB := hid (HB0.out.trans (hb.mono HB0.out.size))
    clear hx hb HF HB0
    go_wp2_with (first | (go_at_call_of 57 (Value.int IntKind.i64 0); refine (N0.out _).mono ?_; rintro e w' ⟨rfl, rfl⟩) | (go_at_call_of 57 (Value.int IntKind.i64 5); refine (N1.out _).mono ?_; rintro e w' ⟨rfl, rfl⟩) | (go_at_call_of 57 (Value.int IntKind.i64 7); refine (N2.out _).mono ?_; rintro e w' ⟨rfl, rfl⟩))
    refine bodyPost_ret (by simp [results, Tryz.results24, go_sem, d0, d1, d2]; try rfl) rfl ?_
    exact ⟨rfl, ((HB.out.setCell (Nat.le_refl _) _).setCell (Nat.le_refl _) _).setCell (Nat.le_refl _) _⟩

end Go.Proofs.YtcmllfipaiacfaaGreatDoor
