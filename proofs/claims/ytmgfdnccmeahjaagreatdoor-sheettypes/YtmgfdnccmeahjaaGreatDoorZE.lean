/-
  VRpdh: The document's own ParseDate.
  VRpd0: The document's own ParseDate, shapes 0 and 1.
  VRpd2: The document's own ParseDate, shapes 2 and 3.
  VRpd4: The document's own ParseDate, shapes 4 and 5.
  VRb: CalReads: the law's own walk, out of the contracts.
-/
import Derived.Test.YtmgfdnccmeahjaaGreatDoorZC
import Derived.Test.YtmgfdnccmeahjaaGreatDoorZD
import Derived.Stop.LaidErr
namespace Go.Proofs.YtmgfdnccmeahjaaGreatDoor
open Go.RowKit
set_option maxRecDepth 100000

theorem shaped_ds (t : ByteArray) (ht : t.size ≤ 64) (w : World) : Calls Tryz.prog 132 #[.string t, .slice (some ⟨w.heap.size, 0, none⟩) 6 6] (w.alloc dsO) fun e w' => e = .returned (.tuple #[.int .i64 (fitL t.data.toList (SS DS) 0 0).1, .int .i64 (shN t.size (fitL t.data.toList (SS DS) 0 0) : Nat)]) ∧ Below w.heap.size w w' := by
  refine (shaped_any t ht DS DS_small (by decide) w.heap.size (w.alloc dsO) (ShB.ds (heap_alloc_new _ _))).mono ?_
  rintro e w' ⟨rfl, n, rfl⟩
  exact ⟨rfl, below_drewN ((Below.refl _ _).alloc (Nat.le_refl _) _) n⟩

theorem nt_in (t : ByteArray) (k a n : Nat) (h : MKC t k) (hn : a + n ≤ t.size) (hd : (((((SS DS).getD k []).map (fun x => x == 100)).drop a).take n).all id = true) : 0 ≤ nt t a n ∧ nt t a n < (10 ^ n : Nat) := by
  have lt : t.data.toList.length = t.size := Array.length_toList
  have h2 := nm_lt _ (mk_dig t k a n h hd)
  rw [sub_lenC _ _ _ (by rw [lt]; exact hn)] at h2
  unfold nt
  exact ⟨by omega, by exact_mod_cast h2⟩

theorem refParse_long (t : ByteArray) (ht : 64 < t.size) (w : World) : Calls Tryz.prog 110 #[.string t] w fun e w' => e = .returned (rT 0 0 0 1 0) ∧ Below w.heap.size w w' := by
  unfold rT dV
  have hB : Below w.heap.size w ((w.alloc zD).alloc zD) := ((Below.refl _ _).alloc (Nat.le_refl _) _).alloc (by simp) _
  go_enter Tryz.func110, Tryz.ntmps110
  go_wp2
  refine bodyPost_ret (by simp [results, Tryz.results110, go_sem]; try rfl) rfl ?_
  exact ⟨rfl, hB⟩

/-- the two dates of zeros that ParseDate lays -/
theorem two_zero (w : World) : Box ((w.alloc zD).alloc zD) w.heap.size 0 0 0 ∧ Box ((w.alloc zD).alloc zD) (w.heap.size + 1) 0 0 0 ∧ ((w.alloc zD).alloc zD).heap.size = w.heap.size + 1 + 1 ∧ Below w.heap.size w ((w.alloc zD).alloc zD) := by
  have s1 : (w.alloc zD).heap.size = w.heap.size + 1 := by simp
  refine ⟨(Box.new w 0 0 0).later (alloc_below _ zD), ?_, by simp, ((Below.refl _ _).alloc (Nat.le_refl _) _).alloc (by simp) _⟩
  have h := Box.new (w.alloc zD) 0 0 0
  rw [s1] at h
  exact h

set_option maxHeartbeats 400000 in
theorem refParse_none (t : ByteArray) (ht : t.size ≤ 64) (p : Nat) (hf : fitL t.data.toList (SS DS) 0 0 = (-1, p)) (w : World) : Calls Tryz.prog 110 #[.string t] w fun e w' => e = .returned (rT 0 0 0 31 (p : Int)) ∧ Below w.heap.size w w' := by
  obtain ⟨z0, z1, hsz, hB0⟩ := two_zero w
  have HF := hidC (shaped_ds t ht ((w.alloc zD).alloc zD))
  rw [hf, shN_no, hsz] at HF
  have Z0 := hidC z0
  have Z1 := hidC z1
  have HB0 := hidC hB0
  have HSZ := hidC hsz
  unfold rT dV
  clear hf z0 z1 hB0 hsz
  go_enter Tryz.func110, Tryz.ntmps110
  go_wp2_with fail
  refine HF.out.mono ?_
  rintro e w2 ⟨rfl, hb⟩
  rw [← HSZ.out] at hb
  have hx := Z0.out.later hb
  obtain ⟨k0, k1, k2, f0, f1, f2, _⟩ := hx.facts
  obtain ⟨d0, d1, d2, _⟩ := (hx.put 0 0 0).facts
  obtain ⟨j0, j1, j2, _⟩ := (Z1.out.later hb).facts
  have HB := hidC (HB0.out.trans (hb.mono HB0.out.size))
  clear hx hb
  go_wp2
  refine bodyPost_ret (by simp [results, Tryz.results110, go_sem, d0, d1, d2]; try rfl) rfl ?_
  exact ⟨rfl, ((HB.out.setCell (Nat.le_refl _) _).setCell (Nat.le_refl _) _).setCell (Nat.le_refl _) _⟩

end Go.Proofs.YtmgfdnccmeahjaaGreatDoor

namespace Go.Proofs.YtmgfdnccmeahjaaGreatDoor
open Go.RowKit
set_option maxRecDepth 100000

set_option maxHeartbeats 2000000 in
theorem refParse_0 (t : ByteArray) (hm : MKC t 0) (hf : fitL t.data.toList (SS DS) 0 0 = (0, 0)) (w : World) :
    Calls Tryz.prog 110 #[.string t] w fun e w' => e = .returned (shA t 0) ∧ Below w.heap.size w w' := by
  have hz := mk_size t 0 10 hm (by decide +kernel)
  have b0 : 0 ≤ nt t 0 4 ∧ nt t 0 4 ≤ 9999 := by
    have h := nt_in t 0 0 4 hm (by omega) (by decide +kernel)
    have e : (10 ^ 4 : Nat) = 10000 := by decide
    rw [e] at h
    omega
  have N0 : Hid (∀ w, Calls Tryz.prog 133 #[.string t, .int .i64 0, .int .i64 4] w fun e w' => e = .returned (.int .i64 (nt t 0 4)) ∧ w' = w) := fun w => num_any t 0 4 (by omega) (by omega) (by omega) (mk_dig t 0 0 4 hm (by decide +kernel)) w
  have b1 : 0 ≤ nt t 5 2 ∧ nt t 5 2 ≤ 99 := by
    have h := nt_in t 0 5 2 hm (by omega) (by decide +kernel)
    have e : (10 ^ 2 : Nat) = 100 := by decide
    rw [e] at h
    omega
  have N1 : Hid (∀ w, Calls Tryz.prog 133 #[.string t, .int .i64 5, .int .i64 2] w fun e w' => e = .returned (.int .i64 (nt t 5 2)) ∧ w' = w) := fun w => num_any t 5 2 (by omega) (by omega) (by omega) (mk_dig t 0 5 2 hm (by decide +kernel)) w
  have b2 : 0 ≤ nt t 8 2 ∧ nt t 8 2 ≤ 99 := by
    have h := nt_in t 0 8 2 hm (by omega) (by decide +kernel)
    have e : (10 ^ 2 : Nat) = 100 := by decide
    rw [e] at h
    omega
  have N2 : Hid (∀ w, Calls Tryz.prog 133 #[.string t, .int .i64 8, .int .i64 2] w fun e w' => e = .returned (.int .i64 (nt t 8 2)) ∧ w' = w) := fun w => num_any t 8 2 (by omega) (by omega) (by omega) (mk_dig t 0 8 2 hm (by decide +kernel)) w
  obtain ⟨z0, z1, hsz, hB0⟩ := two_zero w
  have HF := hidC (shaped_ds t (by omega) ((w.alloc zD).alloc zD))
  rw [hf, show ((0 : Int), (0 : Nat)) = (((0 : Nat) : Int), 0) from rfl, shN_at, hsz] at HF
  have Z0 := hidC z0
  have Z1 := hidC z1
  have HB0 := hidC hB0
  have HSZ := hidC hsz
  have HV0 : Hid (shA t 0 = rdV 5 8 (nt t 0 4) (nt t 5 2) (nt t 8 2)) := hidC rfl
  rw [HV0.out]
  have HL := hidC (fun w => refLong_any (nt t 0 4) (nt t 5 2) b0.1 w)
  have hlg := lg_le (nt t 0 4) (nt t 5 2)
  generalize nt t 0 4 = n0 at *
  generalize nt t 5 2 = n1 at *
  generalize nt t 8 2 = n2 at *
  clear hf z0 z1 hB0 hsz hm
  by_cases g1 : 1 ≤ n1 ∧ n1 ≤ 12
  · obtain ⟨g1a, g1b⟩ := g1
    by_cases g2 : 1 ≤ n2
    · by_cases g3 : n2 ≤ lg n0 n1
      · have HV : Hid (rdV 5 8 n0 n1 n2 = rT n0 n1 n2 0 0) := by unfold rdV; rw [if_pos ⟨g1a, g1b⟩, if_pos ⟨b0.1, b0.2, g1a, g1b, g2, g3⟩]; exact rfl
        rw [HV.out]
        clear HV HV0
        generalize lg n0 n1 = L at *
        unfold rT dV at *
        go_enter Tryz.func110, Tryz.ntmps110
        go_wp2_with fail
        refine HF.out.mono ?_
        rintro e w2 ⟨rfl, hb⟩
        rw [← HSZ.out] at hb
        have hx := Z0.out.later hb
        obtain ⟨k0, k1, k2, f0, f1, f2, _⟩ := hx.facts
        obtain ⟨d0, d1, d2, _⟩ := (hx.put n0 n1 n2).facts
        obtain ⟨j0, j1, j2, _⟩ := (Z1.out.later hb).facts
        have HB := hidC (HB0.out.trans (hb.mono HB0.out.size))
        clear hx hb HF HB0
        go_wp2_with (first | (go_at_call_of 133 (Value.int IntKind.i64 0); refine (N0.out _).mono ?_; rintro e w' ⟨rfl, rfl⟩) | (go_at_call_of 133 (Value.int IntKind.i64 5); refine (N1.out _).mono ?_; rintro e w' ⟨rfl, rfl⟩) | (go_at_call_of 133 (Value.int IntKind.i64 8); refine (N2.out _).mono ?_; rintro e w' ⟨rfl, rfl⟩) | (go_at_call 134; refine (HL.out _).mono ?_; rintro e w' ⟨rfl, rfl⟩))
        refine bodyPost_ret (by simp [results, Tryz.results110, go_sem, d0, d1, d2]; try rfl) rfl ?_
        exact ⟨rfl, ((HB.out.setCell (Nat.le_refl _) _).setCell (Nat.le_refl _) _).setCell (Nat.le_refl _) _⟩
      · have HV : Hid (rdV 5 8 n0 n1 n2 = rT 0 0 0 30 8) := by unfold rdV; rw [if_pos ⟨g1a, g1b⟩, if_neg (fun h => g3 h.2.2.2.2.2)]; exact rfl
        rw [HV.out]
        clear HV HV0
        generalize lg n0 n1 = L at *
        unfold rT dV at *
        go_enter Tryz.func110, Tryz.ntmps110
        go_wp2_with fail
        refine HF.out.mono ?_
        rintro e w2 ⟨rfl, hb⟩
        rw [← HSZ.out] at hb
        have hx := Z0.out.later hb
        obtain ⟨k0, k1, k2, f0, f1, f2, _⟩ := hx.facts
        obtain ⟨d0, d1, d2, _⟩ := (hx.put 0 0 0).facts
        obtain ⟨j0, j1, j2, _⟩ := (Z1.out.later hb).facts
        have HB := hidC (HB0.out.trans (hb.mono HB0.out.size))
        clear hx hb HF HB0
        go_wp2_with (first | (go_at_call_of 133 (Value.int IntKind.i64 0); refine (N0.out _).mono ?_; rintro e w' ⟨rfl, rfl⟩) | (go_at_call_of 133 (Value.int IntKind.i64 5); refine (N1.out _).mono ?_; rintro e w' ⟨rfl, rfl⟩) | (go_at_call_of 133 (Value.int IntKind.i64 8); refine (N2.out _).mono ?_; rintro e w' ⟨rfl, rfl⟩) | (go_at_call 134; refine (HL.out _).mono ?_; rintro e w' ⟨rfl, rfl⟩))
        refine bodyPost_ret (by simp [results, Tryz.results110, go_sem, d0, d1, d2]; try rfl) rfl ?_
        exact ⟨rfl, ((HB.out.setCell (Nat.le_refl _) _).setCell (Nat.le_refl _) _).setCell (Nat.le_refl _) _⟩
    · have HV : Hid (rdV 5 8 n0 n1 n2 = rT 0 0 0 30 8) := by unfold rdV; rw [if_pos ⟨g1a, g1b⟩, if_neg (fun h => g2 h.2.2.2.2.1)]; exact rfl
      rw [HV.out]
      clear HV HV0 hlg HL
      unfold rT dV at *
      go_enter Tryz.func110, Tryz.ntmps110
      go_wp2_with fail
      refine HF.out.mono ?_
      rintro e w2 ⟨rfl, hb⟩
      rw [← HSZ.out] at hb
      have hx := Z0.out.later hb
      obtain ⟨k0, k1, k2, f0, f1, f2, _⟩ := hx.facts
      obtain ⟨d0, d1, d2, _⟩ := (hx.put 0 0 0).facts
      obtain ⟨j0, j1, j2, _⟩ := (Z1.out.later hb).facts
      have HB := hidC (HB0.out.trans (hb.mono HB0.out.size))
      clear hx hb HF HB0
      go_wp2_with (first | (go_at_call_of 133 (Value.int IntKind.i64 0); refine (N0.out _).mono ?_; rintro e w' ⟨rfl, rfl⟩) | (go_at_call_of 133 (Value.int IntKind.i64 5); refine (N1.out _).mono ?_; rintro e w' ⟨rfl, rfl⟩) | (go_at_call_of 133 (Value.int IntKind.i64 8); refine (N2.out _).mono ?_; rintro e w' ⟨rfl, rfl⟩))
      refine bodyPost_ret (by simp [results, Tryz.results110, go_sem, d0, d1, d2]; try rfl) rfl ?_
      exact ⟨rfl, ((HB.out.setCell (Nat.le_refl _) _).setCell (Nat.le_refl _) _).setCell (Nat.le_refl _) _⟩
  · have HV : Hid (rdV 5 8 n0 n1 n2 = rT 0 0 0 30 5) := by unfold rdV; rw [if_neg g1]; exact rfl
    rw [HV.out]
    clear HV HV0 hlg HL
    by_cases g2 : 1 ≤ n1
    · have g3 : ¬ n1 ≤ 12 := fun h => g1 ⟨g2, h⟩
      clear g1
      unfold rT dV at *
      go_enter Tryz.func110, Tryz.ntmps110
      go_wp2_with fail
      refine HF.out.mono ?_
      rintro e w2 ⟨rfl, hb⟩
      rw [← HSZ.out] at hb
      have hx := Z0.out.later hb
      obtain ⟨k0, k1, k2, f0, f1, f2, _⟩ := hx.facts
      obtain ⟨d0, d1, d2, _⟩ := (hx.put 0 0 0).facts
      obtain ⟨j0, j1, j2, _⟩ := (Z1.out.later hb).facts
      have HB := hidC (HB0.out.trans (hb.mono HB0.out.size))
      clear hx hb HF HB0
      go_wp2_with (first | (go_at_call_of 133 (Value.int IntKind.i64 0); refine (N0.out _).mono ?_; rintro e w' ⟨rfl, rfl⟩) | (go_at_call_of 133 (Value.int IntKind.i64 5); refine (N1.out _).mono ?_; rintro e w' ⟨rfl, rfl⟩) | (go_at_call_of 133 (Value.int IntKind.i64 8); refine (N2.out _).mono ?_; rintro e w' ⟨rfl, rfl⟩))
      refine bodyPost_ret (by simp [results, Tryz.results110, go_sem, d0, d1, d2]; try rfl) rfl ?_
      exact ⟨rfl, ((HB.out.setCell (Nat.le_refl _) _).setCell (Nat.le_refl _) _).setCell (Nat.le_refl _) _⟩
    · clear g1
      unfold rT dV at *
      go_enter Tryz.func110, Tryz.ntmps110
      go_wp2_with fail
      refine HF.out.mono ?_
      rintro e w2 ⟨rfl, hb⟩
      rw [← HSZ.out] at hb
      have hx := Z0.out.later hb
      obtain ⟨k0, k1, k2, f0, f1, f2, _⟩ := hx.facts
      obtain ⟨d0, d1, d2, _⟩ := (hx.put 0 0 0).facts
      obtain ⟨j0, j1, j2, _⟩ := (Z1.out.later hb).facts
      have HB := hidC (HB0.out.trans (hb.mono HB0.out.size))
      clear hx hb HF HB0
      go_wp2_with (first | (go_at_call_of 133 (Value.int IntKind.i64 0); refine (N0.out _).mono ?_; rintro e w' ⟨rfl, rfl⟩) | (go_at_call_of 133 (Value.int IntKind.i64 5); refine (N1.out _).mono ?_; rintro e w' ⟨rfl, rfl⟩) | (go_at_call_of 133 (Value.int IntKind.i64 8); refine (N2.out _).mono ?_; rintro e w' ⟨rfl, rfl⟩))
      refine bodyPost_ret (by simp [results, Tryz.results110, go_sem, d0, d1, d2]; try rfl) rfl ?_
      exact ⟨rfl, ((HB.out.setCell (Nat.le_refl _) _).setCell (Nat.le_refl _) _).setCell (Nat.le_refl _) _⟩

set_option maxHeartbeats 2000000 in
theorem refParse_1 (t : ByteArray) (hm : MKC t 1) (hf : fitL t.data.toList (SS DS) 0 0 = (1, 0)) (w : World) :
    Calls Tryz.prog 110 #[.string t] w fun e w' => e = .returned (shA t 1) ∧ Below w.heap.size w w' := by
  have hz := mk_size t 1 8 hm (by decide +kernel)
  have b0 : 0 ≤ nt t 0 4 ∧ nt t 0 4 ≤ 9999 := by
    have h := nt_in t 1 0 4 hm (by omega) (by decide +kernel)
    have e : (10 ^ 4 : Nat) = 10000 := by decide
    rw [e] at h
    omega
  have N0 : Hid (∀ w, Calls Tryz.prog 133 #[.string t, .int .i64 0, .int .i64 4] w fun e w' => e = .returned (.int .i64 (nt t 0 4)) ∧ w' = w) := fun w => num_any t 0 4 (by omega) (by omega) (by omega) (mk_dig t 1 0 4 hm (by decide +kernel)) w
  have b1 : 0 ≤ nt t 4 2 ∧ nt t 4 2 ≤ 99 := by
    have h := nt_in t 1 4 2 hm (by omega) (by decide +kernel)
    have e : (10 ^ 2 : Nat) = 100 := by decide
    rw [e] at h
    omega
  have N1 : Hid (∀ w, Calls Tryz.prog 133 #[.string t, .int .i64 4, .int .i64 2] w fun e w' => e = .returned (.int .i64 (nt t 4 2)) ∧ w' = w) := fun w => num_any t 4 2 (by omega) (by omega) (by omega) (mk_dig t 1 4 2 hm (by decide +kernel)) w
  have b2 : 0 ≤ nt t 6 2 ∧ nt t 6 2 ≤ 99 := by
    have h := nt_in t 1 6 2 hm (by omega) (by decide +kernel)
    have e : (10 ^ 2 : Nat) = 100 := by decide
    rw [e] at h
    omega
  have N2 : Hid (∀ w, Calls Tryz.prog 133 #[.string t, .int .i64 6, .int .i64 2] w fun e w' => e = .returned (.int .i64 (nt t 6 2)) ∧ w' = w) := fun w => num_any t 6 2 (by omega) (by omega) (by omega) (mk_dig t 1 6 2 hm (by decide +kernel)) w
  obtain ⟨z0, z1, hsz, hB0⟩ := two_zero w
  have HF := hidC (shaped_ds t (by omega) ((w.alloc zD).alloc zD))
  rw [hf, show ((1 : Int), (0 : Nat)) = (((1 : Nat) : Int), 0) from rfl, shN_at, hsz] at HF
  have Z0 := hidC z0
  have Z1 := hidC z1
  have HB0 := hidC hB0
  have HSZ := hidC hsz
  have HV0 : Hid (shA t 1 = rdV 4 6 (nt t 0 4) (nt t 4 2) (nt t 6 2)) := hidC rfl
  rw [HV0.out]
  have HL := hidC (fun w => refLong_any (nt t 0 4) (nt t 4 2) b0.1 w)
  have hlg := lg_le (nt t 0 4) (nt t 4 2)
  generalize nt t 0 4 = n0 at *
  generalize nt t 4 2 = n1 at *
  generalize nt t 6 2 = n2 at *
  clear hf z0 z1 hB0 hsz hm
  by_cases g1 : 1 ≤ n1 ∧ n1 ≤ 12
  · obtain ⟨g1a, g1b⟩ := g1
    by_cases g2 : 1 ≤ n2
    · by_cases g3 : n2 ≤ lg n0 n1
      · have HV : Hid (rdV 4 6 n0 n1 n2 = rT n0 n1 n2 0 0) := by unfold rdV; rw [if_pos ⟨g1a, g1b⟩, if_pos ⟨b0.1, b0.2, g1a, g1b, g2, g3⟩]; exact rfl
        rw [HV.out]
        clear HV HV0
        generalize lg n0 n1 = L at *
        unfold rT dV at *
        go_enter Tryz.func110, Tryz.ntmps110
        go_wp2_with fail
        refine HF.out.mono ?_
        rintro e w2 ⟨rfl, hb⟩
        rw [← HSZ.out] at hb
        have hx := Z0.out.later hb
        obtain ⟨k0, k1, k2, f0, f1, f2, _⟩ := hx.facts
        obtain ⟨d0, d1, d2, _⟩ := (hx.put n0 n1 n2).facts
        obtain ⟨j0, j1, j2, _⟩ := (Z1.out.later hb).facts
        have HB := hidC (HB0.out.trans (hb.mono HB0.out.size))
        clear hx hb HF HB0
        go_wp2_with (first | (go_at_call_of 133 (Value.int IntKind.i64 0); refine (N0.out _).mono ?_; rintro e w' ⟨rfl, rfl⟩) | (go_at_call_of 133 (Value.int IntKind.i64 4); refine (N1.out _).mono ?_; rintro e w' ⟨rfl, rfl⟩) | (go_at_call_of 133 (Value.int IntKind.i64 6); refine (N2.out _).mono ?_; rintro e w' ⟨rfl, rfl⟩) | (go_at_call 134; refine (HL.out _).mono ?_; rintro e w' ⟨rfl, rfl⟩))
        refine bodyPost_ret (by simp [results, Tryz.results110, go_sem, d0, d1, d2]; try rfl) rfl ?_
        exact ⟨rfl, ((HB.out.setCell (Nat.le_refl _) _).setCell (Nat.le_refl _) _).setCell (Nat.le_refl _) _⟩
      · have HV : Hid (rdV 4 6 n0 n1 n2 = rT 0 0 0 30 6) := by unfold rdV; rw [if_pos ⟨g1a, g1b⟩, if_neg (fun h => g3 h.2.2.2.2.2)]; exact rfl
        rw [HV.out]
        clear HV HV0
        generalize lg n0 n1 = L at *
        unfold rT dV at *
        go_enter Tryz.func110, Tryz.ntmps110
        go_wp2_with fail
        refine HF.out.mono ?_
        rintro e w2 ⟨rfl, hb⟩
        rw [← HSZ.out] at hb
        have hx := Z0.out.later hb
        obtain ⟨k0, k1, k2, f0, f1, f2, _⟩ := hx.facts
        obtain ⟨d0, d1, d2, _⟩ := (hx.put 0 0 0).facts
        obtain ⟨j0, j1, j2, _⟩ := (Z1.out.later hb).facts
        have HB := hidC (HB0.out.trans (hb.mono HB0.out.size))
        clear hx hb HF HB0
        go_wp2_with (first | (go_at_call_of 133 (Value.int IntKind.i64 0); refine (N0.out _).mono ?_; rintro e w' ⟨rfl, rfl⟩) | (go_at_call_of 133 (Value.int IntKind.i64 4); refine (N1.out _).mono ?_; rintro e w' ⟨rfl, rfl⟩) | (go_at_call_of 133 (Value.int IntKind.i64 6); refine (N2.out _).mono ?_; rintro e w' ⟨rfl, rfl⟩) | (go_at_call 134; refine (HL.out _).mono ?_; rintro e w' ⟨rfl, rfl⟩))
        refine bodyPost_ret (by simp [results, Tryz.results110, go_sem, d0, d1, d2]; try rfl) rfl ?_
        exact ⟨rfl, ((HB.out.setCell (Nat.le_refl _) _).setCell (Nat.le_refl _) _).setCell (Nat.le_refl _) _⟩
    · have HV : Hid (rdV 4 6 n0 n1 n2 = rT 0 0 0 30 6) := by unfold rdV; rw [if_pos ⟨g1a, g1b⟩, if_neg (fun h => g2 h.2.2.2.2.1)]; exact rfl
      rw [HV.out]
      clear HV HV0 hlg HL
      unfold rT dV at *
      go_enter Tryz.func110, Tryz.ntmps110
      go_wp2_with fail
      refine HF.out.mono ?_
      rintro e w2 ⟨rfl, hb⟩
      rw [← HSZ.out] at hb
      have hx := Z0.out.later hb
      obtain ⟨k0, k1, k2, f0, f1, f2, _⟩ := hx.facts
      obtain ⟨d0, d1, d2, _⟩ := (hx.put 0 0 0).facts
      obtain ⟨j0, j1, j2, _⟩ := (Z1.out.later hb).facts
      have HB := hidC (HB0.out.trans (hb.mono HB0.out.size))
      clear hx hb HF HB0
      go_wp2_with (first | (go_at_call_of 133 (Value.int IntKind.i64 0); refine (N0.out _).mono ?_; rintro e w' ⟨rfl, rfl⟩) | (go_at_call_of 133 (Value.int IntKind.i64 4); refine (N1.out _).mono ?_; rintro e w' ⟨rfl, rfl⟩) | (go_at_call_of 133 (Value.int IntKind.i64 6); refine (N2.out _).mono ?_; rintro e w' ⟨rfl, rfl⟩))
      refine bodyPost_ret (by simp [results, Tryz.results110, go_sem, d0, d1, d2]; try rfl) rfl ?_
      exact ⟨rfl, ((HB.out.setCell (Nat.le_refl _) _).setCell (Nat.le_refl _) _).setCell (Nat.le_refl _) _⟩
  · have HV : Hid (rdV 4 6 n0 n1 n2 = rT 0 0 0 30 4) := by unfold rdV; rw [if_neg g1]; exact rfl
    rw [HV.out]
    clear HV HV0 hlg HL
    by_cases g2 : 1 ≤ n1
    · have g3 : ¬ n1 ≤ 12 := fun h => g1 ⟨g2, h⟩
      clear g1
      unfold rT dV at *
      go_enter Tryz.func110, Tryz.ntmps110
      go_wp2_with fail
      refine HF.out.mono ?_
      rintro e w2 ⟨rfl, hb⟩
      rw [← HSZ.out] at hb
      have hx := Z0.out.later hb
      obtain ⟨k0, k1, k2, f0, f1, f2, _⟩ := hx.facts
      obtain ⟨d0, d1, d2, _⟩ := (hx.put 0 0 0).facts
      obtain ⟨j0, j1, j2, _⟩ := (Z1.out.later hb).facts
      have HB := hidC (HB0.out.trans (hb.mono HB0.out.size))
      clear hx hb HF HB0
      go_wp2_with (first | (go_at_call_of 133 (Value.int IntKind.i64 0); refine (N0.out _).mono ?_; rintro e w' ⟨rfl, rfl⟩) | (go_at_call_of 133 (Value.int IntKind.i64 4); refine (N1.out _).mono ?_; rintro e w' ⟨rfl, rfl⟩) | (go_at_call_of 133 (Value.int IntKind.i64 6); refine (N2.out _).mono ?_; rintro e w' ⟨rfl, rfl⟩))
      refine bodyPost_ret (by simp [results, Tryz.results110, go_sem, d0, d1, d2]; try rfl) rfl ?_
      exact ⟨rfl, ((HB.out.setCell (Nat.le_refl _) _).setCell (Nat.le_refl _) _).setCell (Nat.le_refl _) _⟩
    · clear g1
      unfold rT dV at *
      go_enter Tryz.func110, Tryz.ntmps110
      go_wp2_with fail
      refine HF.out.mono ?_
      rintro e w2 ⟨rfl, hb⟩
      rw [← HSZ.out] at hb
      have hx := Z0.out.later hb
      obtain ⟨k0, k1, k2, f0, f1, f2, _⟩ := hx.facts
      obtain ⟨d0, d1, d2, _⟩ := (hx.put 0 0 0).facts
      obtain ⟨j0, j1, j2, _⟩ := (Z1.out.later hb).facts
      have HB := hidC (HB0.out.trans (hb.mono HB0.out.size))
      clear hx hb HF HB0
      go_wp2_with (first | (go_at_call_of 133 (Value.int IntKind.i64 0); refine (N0.out _).mono ?_; rintro e w' ⟨rfl, rfl⟩) | (go_at_call_of 133 (Value.int IntKind.i64 4); refine (N1.out _).mono ?_; rintro e w' ⟨rfl, rfl⟩) | (go_at_call_of 133 (Value.int IntKind.i64 6); refine (N2.out _).mono ?_; rintro e w' ⟨rfl, rfl⟩))
      refine bodyPost_ret (by simp [results, Tryz.results110, go_sem, d0, d1, d2]; try rfl) rfl ?_
      exact ⟨rfl, ((HB.out.setCell (Nat.le_refl _) _).setCell (Nat.le_refl _) _).setCell (Nat.le_refl _) _⟩

end Go.Proofs.YtmgfdnccmeahjaaGreatDoor

namespace Go.Proofs.YtmgfdnccmeahjaaGreatDoor
open Go.RowKit
set_option maxRecDepth 100000

set_option maxHeartbeats 2000000 in
theorem refParse_2 (t : ByteArray) (hm : MKC t 2) (hf : fitL t.data.toList (SS DS) 0 0 = (2, 0)) (w : World) :
    Calls Tryz.prog 110 #[.string t] w fun e w' => e = .returned (shA t 2) ∧ Below w.heap.size w w' := by
  have hz := mk_size t 2 8 hm (by decide +kernel)
  have b0 : 0 ≤ nt t 0 4 ∧ nt t 0 4 ≤ 9999 := by
    have h := nt_in t 2 0 4 hm (by omega) (by decide +kernel)
    have e : (10 ^ 4 : Nat) = 10000 := by decide
    rw [e] at h
    omega
  have N0 : Hid (∀ w, Calls Tryz.prog 133 #[.string t, .int .i64 0, .int .i64 4] w fun e w' => e = .returned (.int .i64 (nt t 0 4)) ∧ w' = w) := fun w => num_any t 0 4 (by omega) (by omega) (by omega) (mk_dig t 2 0 4 hm (by decide +kernel)) w
  have b1 : 0 ≤ nt t 5 3 ∧ nt t 5 3 ≤ 999 := by
    have h := nt_in t 2 5 3 hm (by omega) (by decide +kernel)
    have e : (10 ^ 3 : Nat) = 1000 := by decide
    rw [e] at h
    omega
  have N1 : Hid (∀ w, Calls Tryz.prog 133 #[.string t, .int .i64 5, .int .i64 3] w fun e w' => e = .returned (.int .i64 (nt t 5 3)) ∧ w' = w) := fun w => num_any t 5 3 (by omega) (by omega) (by omega) (mk_dig t 2 5 3 hm (by decide +kernel)) w
  obtain ⟨z0, z1, hsz, hB0⟩ := two_zero w
  have HF := hidC (shaped_ds t (by omega) ((w.alloc zD).alloc zD))
  rw [hf, show ((2 : Int), (0 : Nat)) = (((2 : Nat) : Int), 0) from rfl, shN_at, hsz] at HF
  have Z0 := hidC z0
  have Z1 := hidC z1
  have HB0 := hidC hB0
  have HSZ := hidC hsz
  have HV0 : Hid (shA t 2 = ryV 5 (nt t 0 4) (nt t 5 3)) := hidC rfl
  rw [HV0.out]
  have HA0 := hidC (fun w => refAhead_any (nt t 0 4) b0.1 (by omega) w)
  have HA1 := hidC (fun w => refAhead_any (nt t 0 4 + 1) (by omega) (by omega) w)
  have hyn := ys_next (nt t 0 4)
  have hyb := ys_bounds (nt t 0 4) (by omega) (by omega)
  have hy0 := ys_le 0 (nt t 0 4) b0.1
  have hy1 := ys_le (nt t 0 4 + 1) 10000 (by omega)
  rw [ys_zero] at hy0
  rw [ys_10000] at hy1
  have hlp := lpN_cases (nt t 0 4)
  have hlp2 : 0 ≤ lpN (nt t 0 4) ∧ lpN (nt t 0 4) ≤ 1 := by omega
  clear hlp
  generalize nt t 0 4 = n0 at *
  generalize nt t 5 3 = n1 at *
  clear hf z0 z1 hB0 hsz hm
  by_cases g1 : 1 ≤ n1
  · by_cases g2 : n1 ≤ 365 + lpN n0
    · have HD := hidC (fun w => refDate_any (ys n0 + n1 - 1) (by omega) (by omega) w)
      have HV : Hid (ryV 5 n0 n1 = rT (dY (ys n0 + n1 - 1)) (dM (ys n0 + n1 - 1)) (dD (ys n0 + n1 - 1)) 0 0) := by unfold ryV; rw [if_pos ⟨g1, g2⟩]; exact rfl
      rw [HV.out]
      have gd : ¬ ys (n0 + 1) - ys n0 < n1 := by omega
      have gb : -10000 ≤ ys (n0 + 1) ∧ ys (n0 + 1) ≤ 4000000 := by omega
      clear HV HV0 hyn hy0 hy1 hlp2 g2
      generalize dY (ys n0 + n1 - 1) = yy at *
      generalize dM (ys n0 + n1 - 1) = mm at *
      generalize dD (ys n0 + n1 - 1) = dd at *
      generalize ys (n0 + 1) = A1 at *
      generalize ys n0 = A0 at *
      unfold rT dV at *
      go_enter Tryz.func110, Tryz.ntmps110
      go_wp2_with fail
      refine HF.out.mono ?_
      rintro e w2 ⟨rfl, hb⟩
      rw [← HSZ.out] at hb
      have hx := Z0.out.later hb
      obtain ⟨k0, k1, k2, f0, f1, f2, _⟩ := hx.facts
      obtain ⟨j0, j1, j2, _⟩ := (Z1.out.later hb).facts
      have HB := hidC (HB0.out.trans (hb.mono HB0.out.size))
      have HX := hidC hx
      clear hx hb HF HB0
      go_wp2_with (first | (go_at_call_of 133 (Value.int IntKind.i64 0); refine (N0.out _).mono ?_; rintro e w' ⟨rfl, rfl⟩) | (go_at_call_of 133 (Value.int IntKind.i64 5); refine (N1.out _).mono ?_; rintro e w' ⟨rfl, rfl⟩))
      refine (HA1.out _).mono ?_
      rintro e w' ⟨rfl, rfl⟩
      go_wp2_with fail
      refine (HA0.out _).mono ?_
      rintro e w' ⟨rfl, rfl⟩
      go_wp2_with fail
      refine (HA0.out _).mono ?_
      rintro e w' ⟨rfl, rfl⟩
      go_wp2_with fail
      refine (HD.out _).mono ?_
      rintro e w3 ⟨rfl, hb3⟩
      have HX3 := hidC (HX.out.later hb3)
      have HB3 := hidC (HB.out.trans (hb3.mono HB.out.size))
      obtain ⟨k0, k1, k2, f0, f1, f2, _⟩ := HX3.out.facts
      obtain ⟨d0, d1, d2, _⟩ := (HX3.out.put yy mm dd).facts
      clear hb3
      go_wp2
      refine bodyPost_ret (by simp [results, Tryz.results110, go_sem, d0, d1, d2]; try rfl) rfl ?_
      exact ⟨rfl, ((HB3.out.setCell (Nat.le_refl _) _).setCell (Nat.le_refl _) _).setCell (Nat.le_refl _) _⟩
    · have HV : Hid (ryV 5 n0 n1 = rT 0 0 0 30 5) := by unfold ryV; rw [if_neg (fun h => g2 h.2)]; exact rfl
      rw [HV.out]
      have gd : ys (n0 + 1) - ys n0 < n1 := by omega
      have gb : -10000 ≤ ys (n0 + 1) ∧ ys (n0 + 1) ≤ 4000000 := by omega
      clear HV HV0 hyn hy0 hy1 hlp2 g2
      generalize ys (n0 + 1) = A1 at *
      generalize ys n0 = A0 at *
      unfold rT dV at *
      go_enter Tryz.func110, Tryz.ntmps110
      go_wp2_with fail
      refine HF.out.mono ?_
      rintro e w2 ⟨rfl, hb⟩
      rw [← HSZ.out] at hb
      have hx := Z0.out.later hb
      obtain ⟨k0, k1, k2, f0, f1, f2, _⟩ := hx.facts
      obtain ⟨d0, d1, d2, _⟩ := (hx.put 0 0 0).facts
      obtain ⟨j0, j1, j2, _⟩ := (Z1.out.later hb).facts
      have HB := hidC (HB0.out.trans (hb.mono HB0.out.size))
      clear hx hb HF HB0
      go_wp2_with (first | (go_at_call_of 133 (Value.int IntKind.i64 0); refine (N0.out _).mono ?_; rintro e w' ⟨rfl, rfl⟩) | (go_at_call_of 133 (Value.int IntKind.i64 5); refine (N1.out _).mono ?_; rintro e w' ⟨rfl, rfl⟩))
      refine (HA1.out _).mono ?_
      rintro e w' ⟨rfl, rfl⟩
      go_wp2_with fail
      refine (HA0.out _).mono ?_
      rintro e w' ⟨rfl, rfl⟩
      go_wp2
      refine bodyPost_ret (by simp [results, Tryz.results110, go_sem, d0, d1, d2]; try rfl) rfl ?_
      exact ⟨rfl, ((HB.out.setCell (Nat.le_refl _) _).setCell (Nat.le_refl _) _).setCell (Nat.le_refl _) _⟩
  · have HV : Hid (ryV 5 n0 n1 = rT 0 0 0 30 5) := by unfold ryV; rw [if_neg (fun h => g1 h.1)]; exact rfl
    rw [HV.out]
    clear HV HV0 hyn hy0 hy1 hlp2 HA0 HA1 hyb
    unfold rT dV at *
    go_enter Tryz.func110, Tryz.ntmps110
    go_wp2_with fail
    refine HF.out.mono ?_
    rintro e w2 ⟨rfl, hb⟩
    rw [← HSZ.out] at hb
    have hx := Z0.out.later hb
    obtain ⟨k0, k1, k2, f0, f1, f2, _⟩ := hx.facts
    obtain ⟨d0, d1, d2, _⟩ := (hx.put 0 0 0).facts
    obtain ⟨j0, j1, j2, _⟩ := (Z1.out.later hb).facts
    have HB := hidC (HB0.out.trans (hb.mono HB0.out.size))
    clear hx hb HF HB0
    go_wp2_with (first | (go_at_call_of 133 (Value.int IntKind.i64 0); refine (N0.out _).mono ?_; rintro e w' ⟨rfl, rfl⟩) | (go_at_call_of 133 (Value.int IntKind.i64 5); refine (N1.out _).mono ?_; rintro e w' ⟨rfl, rfl⟩))
    refine bodyPost_ret (by simp [results, Tryz.results110, go_sem, d0, d1, d2]; try rfl) rfl ?_
    exact ⟨rfl, ((HB.out.setCell (Nat.le_refl _) _).setCell (Nat.le_refl _) _).setCell (Nat.le_refl _) _⟩

set_option maxHeartbeats 2000000 in
theorem refParse_3 (t : ByteArray) (hm : MKC t 3) (hf : fitL t.data.toList (SS DS) 0 0 = (3, 0)) (w : World) :
    Calls Tryz.prog 110 #[.string t] w fun e w' => e = .returned (shA t 3) ∧ Below w.heap.size w w' := by
  have hz := mk_size t 3 7 hm (by decide +kernel)
  have b0 : 0 ≤ nt t 0 4 ∧ nt t 0 4 ≤ 9999 := by
    have h := nt_in t 3 0 4 hm (by omega) (by decide +kernel)
    have e : (10 ^ 4 : Nat) = 10000 := by decide
    rw [e] at h
    omega
  have N0 : Hid (∀ w, Calls Tryz.prog 133 #[.string t, .int .i64 0, .int .i64 4] w fun e w' => e = .returned (.int .i64 (nt t 0 4)) ∧ w' = w) := fun w => num_any t 0 4 (by omega) (by omega) (by omega) (mk_dig t 3 0 4 hm (by decide +kernel)) w
  have b1 : 0 ≤ nt t 4 3 ∧ nt t 4 3 ≤ 999 := by
    have h := nt_in t 3 4 3 hm (by omega) (by decide +kernel)
    have e : (10 ^ 3 : Nat) = 1000 := by decide
    rw [e] at h
    omega
  have N1 : Hid (∀ w, Calls Tryz.prog 133 #[.string t, .int .i64 4, .int .i64 3] w fun e w' => e = .returned (.int .i64 (nt t 4 3)) ∧ w' = w) := fun w => num_any t 4 3 (by omega) (by omega) (by omega) (mk_dig t 3 4 3 hm (by decide +kernel)) w
  obtain ⟨z0, z1, hsz, hB0⟩ := two_zero w
  have HF := hidC (shaped_ds t (by omega) ((w.alloc zD).alloc zD))
  rw [hf, show ((3 : Int), (0 : Nat)) = (((3 : Nat) : Int), 0) from rfl, shN_at, hsz] at HF
  have Z0 := hidC z0
  have Z1 := hidC z1
  have HB0 := hidC hB0
  have HSZ := hidC hsz
  have HV0 : Hid (shA t 3 = ryV 4 (nt t 0 4) (nt t 4 3)) := hidC rfl
  rw [HV0.out]
  have HA0 := hidC (fun w => refAhead_any (nt t 0 4) b0.1 (by omega) w)
  have HA1 := hidC (fun w => refAhead_any (nt t 0 4 + 1) (by omega) (by omega) w)
  have hyn := ys_next (nt t 0 4)
  have hyb := ys_bounds (nt t 0 4) (by omega) (by omega)
  have hy0 := ys_le 0 (nt t 0 4) b0.1
  have hy1 := ys_le (nt t 0 4 + 1) 10000 (by omega)
  rw [ys_zero] at hy0
  rw [ys_10000] at hy1
  have hlp := lpN_cases (nt t 0 4)
  have hlp2 : 0 ≤ lpN (nt t 0 4) ∧ lpN (nt t 0 4) ≤ 1 := by omega
  clear hlp
  generalize nt t 0 4 = n0 at *
  generalize nt t 4 3 = n1 at *
  clear hf z0 z1 hB0 hsz hm
  by_cases g1 : 1 ≤ n1
  · by_cases g2 : n1 ≤ 365 + lpN n0
    · have HD := hidC (fun w => refDate_any (ys n0 + n1 - 1) (by omega) (by omega) w)
      have HV : Hid (ryV 4 n0 n1 = rT (dY (ys n0 + n1 - 1)) (dM (ys n0 + n1 - 1)) (dD (ys n0 + n1 - 1)) 0 0) := by unfold ryV; rw [if_pos ⟨g1, g2⟩]; exact rfl
      rw [HV.out]
      have gd : ¬ ys (n0 + 1) - ys n0 < n1 := by omega
      have gb : -10000 ≤ ys (n0 + 1) ∧ ys (n0 + 1) ≤ 4000000 := by omega
      clear HV HV0 hyn hy0 hy1 hlp2 g2
      generalize dY (ys n0 + n1 - 1) = yy at *
      generalize dM (ys n0 + n1 - 1) = mm at *
      generalize dD (ys n0 + n1 - 1) = dd at *
      generalize ys (n0 + 1) = A1 at *
      generalize ys n0 = A0 at *
      unfold rT dV at *
      go_enter Tryz.func110, Tryz.ntmps110
      go_wp2_with fail
      refine HF.out.mono ?_
      rintro e w2 ⟨rfl, hb⟩
      rw [← HSZ.out] at hb
      have hx := Z0.out.later hb
      obtain ⟨k0, k1, k2, f0, f1, f2, _⟩ := hx.facts
      obtain ⟨j0, j1, j2, _⟩ := (Z1.out.later hb).facts
      have HB := hidC (HB0.out.trans (hb.mono HB0.out.size))
      have HX := hidC hx
      clear hx hb HF HB0
      go_wp2_with (first | (go_at_call_of 133 (Value.int IntKind.i64 0); refine (N0.out _).mono ?_; rintro e w' ⟨rfl, rfl⟩) | (go_at_call_of 133 (Value.int IntKind.i64 4); refine (N1.out _).mono ?_; rintro e w' ⟨rfl, rfl⟩))
      refine (HA1.out _).mono ?_
      rintro e w' ⟨rfl, rfl⟩
      go_wp2_with fail
      refine (HA0.out _).mono ?_
      rintro e w' ⟨rfl, rfl⟩
      go_wp2_with fail
      refine (HA0.out _).mono ?_
      rintro e w' ⟨rfl, rfl⟩
      go_wp2_with fail
      refine (HD.out _).mono ?_
      rintro e w3 ⟨rfl, hb3⟩
      have HX3 := hidC (HX.out.later hb3)
      have HB3 := hidC (HB.out.trans (hb3.mono HB.out.size))
      obtain ⟨k0, k1, k2, f0, f1, f2, _⟩ := HX3.out.facts
      obtain ⟨d0, d1, d2, _⟩ := (HX3.out.put yy mm dd).facts
      clear hb3
      go_wp2
      refine bodyPost_ret (by simp [results, Tryz.results110, go_sem, d0, d1, d2]; try rfl) rfl ?_
      exact ⟨rfl, ((HB3.out.setCell (Nat.le_refl _) _).setCell (Nat.le_refl _) _).setCell (Nat.le_refl _) _⟩
    · have HV : Hid (ryV 4 n0 n1 = rT 0 0 0 30 4) := by unfold ryV; rw [if_neg (fun h => g2 h.2)]; exact rfl
      rw [HV.out]
      have gd : ys (n0 + 1) - ys n0 < n1 := by omega
      have gb : -10000 ≤ ys (n0 + 1) ∧ ys (n0 + 1) ≤ 4000000 := by omega
      clear HV HV0 hyn hy0 hy1 hlp2 g2
      generalize ys (n0 + 1) = A1 at *
      generalize ys n0 = A0 at *
      unfold rT dV at *
      go_enter Tryz.func110, Tryz.ntmps110
      go_wp2_with fail
      refine HF.out.mono ?_
      rintro e w2 ⟨rfl, hb⟩
      rw [← HSZ.out] at hb
      have hx := Z0.out.later hb
      obtain ⟨k0, k1, k2, f0, f1, f2, _⟩ := hx.facts
      obtain ⟨d0, d1, d2, _⟩ := (hx.put 0 0 0).facts
      obtain ⟨j0, j1, j2, _⟩ := (Z1.out.later hb).facts
      have HB := hidC (HB0.out.trans (hb.mono HB0.out.size))
      clear hx hb HF HB0
      go_wp2_with (first | (go_at_call_of 133 (Value.int IntKind.i64 0); refine (N0.out _).mono ?_; rintro e w' ⟨rfl, rfl⟩) | (go_at_call_of 133 (Value.int IntKind.i64 4); refine (N1.out _).mono ?_; rintro e w' ⟨rfl, rfl⟩))
      refine (HA1.out _).mono ?_
      rintro e w' ⟨rfl, rfl⟩
      go_wp2_with fail
      refine (HA0.out _).mono ?_
      rintro e w' ⟨rfl, rfl⟩
      go_wp2
      refine bodyPost_ret (by simp [results, Tryz.results110, go_sem, d0, d1, d2]; try rfl) rfl ?_
      exact ⟨rfl, ((HB.out.setCell (Nat.le_refl _) _).setCell (Nat.le_refl _) _).setCell (Nat.le_refl _) _⟩
  · have HV : Hid (ryV 4 n0 n1 = rT 0 0 0 30 4) := by unfold ryV; rw [if_neg (fun h => g1 h.1)]; exact rfl
    rw [HV.out]
    clear HV HV0 hyn hy0 hy1 hlp2 HA0 HA1 hyb
    unfold rT dV at *
    go_enter Tryz.func110, Tryz.ntmps110
    go_wp2_with fail
    refine HF.out.mono ?_
    rintro e w2 ⟨rfl, hb⟩
    rw [← HSZ.out] at hb
    have hx := Z0.out.later hb
    obtain ⟨k0, k1, k2, f0, f1, f2, _⟩ := hx.facts
    obtain ⟨d0, d1, d2, _⟩ := (hx.put 0 0 0).facts
    obtain ⟨j0, j1, j2, _⟩ := (Z1.out.later hb).facts
    have HB := hidC (HB0.out.trans (hb.mono HB0.out.size))
    clear hx hb HF HB0
    go_wp2_with (first | (go_at_call_of 133 (Value.int IntKind.i64 0); refine (N0.out _).mono ?_; rintro e w' ⟨rfl, rfl⟩) | (go_at_call_of 133 (Value.int IntKind.i64 4); refine (N1.out _).mono ?_; rintro e w' ⟨rfl, rfl⟩))
    refine bodyPost_ret (by simp [results, Tryz.results110, go_sem, d0, d1, d2]; try rfl) rfl ?_
    exact ⟨rfl, ((HB.out.setCell (Nat.le_refl _) _).setCell (Nat.le_refl _) _).setCell (Nat.le_refl _) _⟩

end Go.Proofs.YtmgfdnccmeahjaaGreatDoor

namespace Go.Proofs.YtmgfdnccmeahjaaGreatDoor
open Go.RowKit
set_option maxRecDepth 100000

set_option maxHeartbeats 2000000 in
theorem refParse_4 (t : ByteArray) (hm : MKC t 4) (hf : fitL t.data.toList (SS DS) 0 0 = (4, 0)) (w : World) :
    Calls Tryz.prog 110 #[.string t] w fun e w' => e = .returned (shA t 4) ∧ Below w.heap.size w w' := by
  have hz := mk_size t 4 10 hm (by decide +kernel)
  have b0 : 0 ≤ nt t 0 4 ∧ nt t 0 4 ≤ 9999 := by
    have h := nt_in t 4 0 4 hm (by omega) (by decide +kernel)
    have e : (10 ^ 4 : Nat) = 10000 := by decide
    rw [e] at h
    omega
  have N0 : Hid (∀ w, Calls Tryz.prog 133 #[.string t, .int .i64 0, .int .i64 4] w fun e w' => e = .returned (.int .i64 (nt t 0 4)) ∧ w' = w) := fun w => num_any t 0 4 (by omega) (by omega) (by omega) (mk_dig t 4 0 4 hm (by decide +kernel)) w
  have b1 : 0 ≤ nt t 6 2 ∧ nt t 6 2 ≤ 99 := by
    have h := nt_in t 4 6 2 hm (by omega) (by decide +kernel)
    have e : (10 ^ 2 : Nat) = 100 := by decide
    rw [e] at h
    omega
  have N1 : Hid (∀ w, Calls Tryz.prog 133 #[.string t, .int .i64 6, .int .i64 2] w fun e w' => e = .returned (.int .i64 (nt t 6 2)) ∧ w' = w) := fun w => num_any t 6 2 (by omega) (by omega) (by omega) (mk_dig t 4 6 2 hm (by decide +kernel)) w
  have b2 : 0 ≤ nt t 9 1 ∧ nt t 9 1 ≤ 9 := by
    have h := nt_in t 4 9 1 hm (by omega) (by decide +kernel)
    have e : (10 ^ 1 : Nat) = 10 := by decide
    rw [e] at h
    omega
  have N2 : Hid (∀ w, Calls Tryz.prog 133 #[.string t, .int .i64 9, .int .i64 1] w fun e w' => e = .returned (.int .i64 (nt t 9 1)) ∧ w' = w) := fun w => num_any t 9 1 (by omega) (by omega) (by omega) (mk_dig t 4 9 1 hm (by decide +kernel)) w
  obtain ⟨z0, z1, hsz, hB0⟩ := two_zero w
  have HF := hidC (shaped_ds t (by omega) ((w.alloc zD).alloc zD))
  rw [hf, show ((4 : Int), (0 : Nat)) = (((4 : Nat) : Int), 0) from rfl, shN_at, hsz] at HF
  have Z0 := hidC z0
  have Z1 := hidC z1
  have HB0 := hidC hB0
  have HSZ := hidC hsz
  have HV0 : Hid (shA t 4 = rwV 6 9 (nt t 0 4) (nt t 6 2) (nt t 9 1)) := hidC rfl
  rw [HV0.out]
  have HK := hidC (fun w => refWeeks_any (nt t 0 4) (by omega) (by omega) w)
  have hwn := (wkN_is (nt t 0 4)).2
  generalize nt t 0 4 = n0 at *
  generalize nt t 6 2 = n1 at *
  generalize nt t 9 1 = n2 at *
  clear hf z0 z1 hB0 hsz hm
  by_cases g1 : 1 ≤ n1
  · by_cases g2 : n1 ≤ wkN n0
    · by_cases g3 : 1 ≤ n2 ∧ n2 ≤ 7
      · obtain ⟨g3a, g3b⟩ := g3
        obtain ⟨y1, m1, d1, e1, hv, ht1⟩ := ofVT (wkD n0 n1 n2)
        have HV : Hid (rwV 6 9 n0 n1 n2 = rT y1 m1 d1 e1 0) := by unfold rwV; rw [if_pos ⟨g1, g2⟩, if_pos ⟨g3a, g3b⟩]; exact ht1
        have HW := hidC (fun w => refFromWeek_good n0 n1 n2 ⟨by omega, b0.2, g1, g2, g3a, g3b⟩ w)
        rw [hv] at HW
        rw [HV.out]
        clear HV HV0 hv ht1
        generalize wkN n0 = C at *
        unfold rT dV at *
        go_enter Tryz.func110, Tryz.ntmps110
        go_wp2_with fail
        refine HF.out.mono ?_
        rintro e w2 ⟨rfl, hb⟩
        rw [← HSZ.out] at hb
        have hx := Z0.out.later hb
        obtain ⟨k0, k1, k2, f0, f1, f2, _⟩ := hx.facts
        obtain ⟨j0, j1, j2, _⟩ := (Z1.out.later hb).facts
        have HB := hidC (HB0.out.trans (hb.mono HB0.out.size))
        have HX := hidC hx
        clear hx hb HF HB0
        go_wp2_with (first | (go_at_call_of 133 (Value.int IntKind.i64 0); refine (N0.out _).mono ?_; rintro e w' ⟨rfl, rfl⟩) | (go_at_call_of 133 (Value.int IntKind.i64 6); refine (N1.out _).mono ?_; rintro e w' ⟨rfl, rfl⟩) | (go_at_call_of 133 (Value.int IntKind.i64 9); refine (N2.out _).mono ?_; rintro e w' ⟨rfl, rfl⟩) | (go_at_call 135; refine (HK.out _).mono ?_; rintro e w' ⟨rfl, rfl⟩) | (go_at_call 136; refine (HW.out _).mono ?_; rintro e w3 ⟨rfl, hb3⟩; have HX3 := hidC ((HX.out.later hb3).later (alloc_below _ (.cells #[.int .i64 y1, .int .i64 m1, .int .i64 d1] 187))); have HB3 := hidC ((HB.out.trans (hb3.mono HB.out.size)).alloc (HB.out.trans (hb3.mono HB.out.size)).size (.cells #[.int .i64 y1, .int .i64 m1, .int .i64 d1] 187)); obtain ⟨k0, k1, k2, f0, f1, f2, _⟩ := HX3.out.facts; obtain ⟨q0, q1, q2, _⟩ := (HX3.out.put y1 m1 d1).facts; clear hb3))
        refine bodyPost_ret (by simp [results, Tryz.results110, go_sem, q0, q1, q2]; try rfl) rfl ?_
        exact ⟨rfl, ((HB3.out.setCell (Nat.le_refl _) _).setCell (Nat.le_refl _) _).setCell (Nat.le_refl _) _⟩
      · have HV : Hid (rwV 6 9 n0 n1 n2 = rT 0 0 0 30 9) := by unfold rwV; rw [if_pos ⟨g1, g2⟩, if_neg g3]; exact rfl
        rw [HV.out]
        clear HV HV0
        generalize wkN n0 = C at *
        by_cases g4 : 1 ≤ n2
        · have g5 : ¬ n2 ≤ 7 := fun h => g3 ⟨g4, h⟩
          clear g3
          unfold rT dV at *
          go_enter Tryz.func110, Tryz.ntmps110
          go_wp2_with fail
          refine HF.out.mono ?_
          rintro e w2 ⟨rfl, hb⟩
          rw [← HSZ.out] at hb
          have hx := Z0.out.later hb
          obtain ⟨k0, k1, k2, f0, f1, f2, _⟩ := hx.facts
          obtain ⟨d0, d1, d2, _⟩ := (hx.put 0 0 0).facts
          obtain ⟨j0, j1, j2, _⟩ := (Z1.out.later hb).facts
          have HB := hidC (HB0.out.trans (hb.mono HB0.out.size))
          clear hx hb HF HB0
          go_wp2_with (first | (go_at_call_of 133 (Value.int IntKind.i64 0); refine (N0.out _).mono ?_; rintro e w' ⟨rfl, rfl⟩) | (go_at_call_of 133 (Value.int IntKind.i64 6); refine (N1.out _).mono ?_; rintro e w' ⟨rfl, rfl⟩) | (go_at_call_of 133 (Value.int IntKind.i64 9); refine (N2.out _).mono ?_; rintro e w' ⟨rfl, rfl⟩) | (go_at_call 135; refine (HK.out _).mono ?_; rintro e w' ⟨rfl, rfl⟩))
          refine bodyPost_ret (by simp [results, Tryz.results110, go_sem, d0, d1, d2]; try rfl) rfl ?_
          exact ⟨rfl, ((HB.out.setCell (Nat.le_refl _) _).setCell (Nat.le_refl _) _).setCell (Nat.le_refl _) _⟩
        · clear g3
          unfold rT dV at *
          go_enter Tryz.func110, Tryz.ntmps110
          go_wp2_with fail
          refine HF.out.mono ?_
          rintro e w2 ⟨rfl, hb⟩
          rw [← HSZ.out] at hb
          have hx := Z0.out.later hb
          obtain ⟨k0, k1, k2, f0, f1, f2, _⟩ := hx.facts
          obtain ⟨d0, d1, d2, _⟩ := (hx.put 0 0 0).facts
          obtain ⟨j0, j1, j2, _⟩ := (Z1.out.later hb).facts
          have HB := hidC (HB0.out.trans (hb.mono HB0.out.size))
          clear hx hb HF HB0
          go_wp2_with (first | (go_at_call_of 133 (Value.int IntKind.i64 0); refine (N0.out _).mono ?_; rintro e w' ⟨rfl, rfl⟩) | (go_at_call_of 133 (Value.int IntKind.i64 6); refine (N1.out _).mono ?_; rintro e w' ⟨rfl, rfl⟩) | (go_at_call_of 133 (Value.int IntKind.i64 9); refine (N2.out _).mono ?_; rintro e w' ⟨rfl, rfl⟩) | (go_at_call 135; refine (HK.out _).mono ?_; rintro e w' ⟨rfl, rfl⟩))
          refine bodyPost_ret (by simp [results, Tryz.results110, go_sem, d0, d1, d2]; try rfl) rfl ?_
          exact ⟨rfl, ((HB.out.setCell (Nat.le_refl _) _).setCell (Nat.le_refl _) _).setCell (Nat.le_refl _) _⟩
    · have HV : Hid (rwV 6 9 n0 n1 n2 = rT 0 0 0 30 6) := by unfold rwV; rw [if_neg (fun h => g2 h.2)]; exact rfl
      rw [HV.out]
      clear HV HV0
      generalize wkN n0 = C at *
      unfold rT dV at *
      go_enter Tryz.func110, Tryz.ntmps110
      go_wp2_with fail
      refine HF.out.mono ?_
      rintro e w2 ⟨rfl, hb⟩
      rw [← HSZ.out] at hb
      have hx := Z0.out.later hb
      obtain ⟨k0, k1, k2, f0, f1, f2, _⟩ := hx.facts
      obtain ⟨d0, d1, d2, _⟩ := (hx.put 0 0 0).facts
      obtain ⟨j0, j1, j2, _⟩ := (Z1.out.later hb).facts
      have HB := hidC (HB0.out.trans (hb.mono HB0.out.size))
      clear hx hb HF HB0
      go_wp2_with (first | (go_at_call_of 133 (Value.int IntKind.i64 0); refine (N0.out _).mono ?_; rintro e w' ⟨rfl, rfl⟩) | (go_at_call_of 133 (Value.int IntKind.i64 6); refine (N1.out _).mono ?_; rintro e w' ⟨rfl, rfl⟩) | (go_at_call_of 133 (Value.int IntKind.i64 9); refine (N2.out _).mono ?_; rintro e w' ⟨rfl, rfl⟩) | (go_at_call 135; refine (HK.out _).mono ?_; rintro e w' ⟨rfl, rfl⟩))
      refine bodyPost_ret (by simp [results, Tryz.results110, go_sem, d0, d1, d2]; try rfl) rfl ?_
      exact ⟨rfl, ((HB.out.setCell (Nat.le_refl _) _).setCell (Nat.le_refl _) _).setCell (Nat.le_refl _) _⟩
  · have HV : Hid (rwV 6 9 n0 n1 n2 = rT 0 0 0 30 6) := by unfold rwV; rw [if_neg (fun h => g1 h.1)]; exact rfl
    rw [HV.out]
    clear HV HV0 HK hwn
    unfold rT dV at *
    go_enter Tryz.func110, Tryz.ntmps110
    go_wp2_with fail
    refine HF.out.mono ?_
    rintro e w2 ⟨rfl, hb⟩
    rw [← HSZ.out] at hb
    have hx := Z0.out.later hb
    obtain ⟨k0, k1, k2, f0, f1, f2, _⟩ := hx.facts
    obtain ⟨d0, d1, d2, _⟩ := (hx.put 0 0 0).facts
    obtain ⟨j0, j1, j2, _⟩ := (Z1.out.later hb).facts
    have HB := hidC (HB0.out.trans (hb.mono HB0.out.size))
    clear hx hb HF HB0
    go_wp2_with (first | (go_at_call_of 133 (Value.int IntKind.i64 0); refine (N0.out _).mono ?_; rintro e w' ⟨rfl, rfl⟩) | (go_at_call_of 133 (Value.int IntKind.i64 6); refine (N1.out _).mono ?_; rintro e w' ⟨rfl, rfl⟩) | (go_at_call_of 133 (Value.int IntKind.i64 9); refine (N2.out _).mono ?_; rintro e w' ⟨rfl, rfl⟩))
    refine bodyPost_ret (by simp [results, Tryz.results110, go_sem, d0, d1, d2]; try rfl) rfl ?_
    exact ⟨rfl, ((HB.out.setCell (Nat.le_refl _) _).setCell (Nat.le_refl _) _).setCell (Nat.le_refl _) _⟩

set_option maxHeartbeats 2000000 in
theorem refParse_5 (t : ByteArray) (hm : MKC t 5) (hf : fitL t.data.toList (SS DS) 0 0 = (5, 0)) (w : World) :
    Calls Tryz.prog 110 #[.string t] w fun e w' => e = .returned (shA t 5) ∧ Below w.heap.size w w' := by
  have hz := mk_size t 5 8 hm (by decide +kernel)
  have b0 : 0 ≤ nt t 0 4 ∧ nt t 0 4 ≤ 9999 := by
    have h := nt_in t 5 0 4 hm (by omega) (by decide +kernel)
    have e : (10 ^ 4 : Nat) = 10000 := by decide
    rw [e] at h
    omega
  have N0 : Hid (∀ w, Calls Tryz.prog 133 #[.string t, .int .i64 0, .int .i64 4] w fun e w' => e = .returned (.int .i64 (nt t 0 4)) ∧ w' = w) := fun w => num_any t 0 4 (by omega) (by omega) (by omega) (mk_dig t 5 0 4 hm (by decide +kernel)) w
  have b1 : 0 ≤ nt t 5 2 ∧ nt t 5 2 ≤ 99 := by
    have h := nt_in t 5 5 2 hm (by omega) (by decide +kernel)
    have e : (10 ^ 2 : Nat) = 100 := by decide
    rw [e] at h
    omega
  have N1 : Hid (∀ w, Calls Tryz.prog 133 #[.string t, .int .i64 5, .int .i64 2] w fun e w' => e = .returned (.int .i64 (nt t 5 2)) ∧ w' = w) := fun w => num_any t 5 2 (by omega) (by omega) (by omega) (mk_dig t 5 5 2 hm (by decide +kernel)) w
  have b2 : 0 ≤ nt t 7 1 ∧ nt t 7 1 ≤ 9 := by
    have h := nt_in t 5 7 1 hm (by omega) (by decide +kernel)
    have e : (10 ^ 1 : Nat) = 10 := by decide
    rw [e] at h
    omega
  have N2 : Hid (∀ w, Calls Tryz.prog 133 #[.string t, .int .i64 7, .int .i64 1] w fun e w' => e = .returned (.int .i64 (nt t 7 1)) ∧ w' = w) := fun w => num_any t 7 1 (by omega) (by omega) (by omega) (mk_dig t 5 7 1 hm (by decide +kernel)) w
  obtain ⟨z0, z1, hsz, hB0⟩ := two_zero w
  have HF := hidC (shaped_ds t (by omega) ((w.alloc zD).alloc zD))
  rw [hf, show ((5 : Int), (0 : Nat)) = (((5 : Nat) : Int), 0) from rfl, shN_at, hsz] at HF
  have Z0 := hidC z0
  have Z1 := hidC z1
  have HB0 := hidC hB0
  have HSZ := hidC hsz
  have HV0 : Hid (shA t 5 = rwV 5 7 (nt t 0 4) (nt t 5 2) (nt t 7 1)) := hidC rfl
  rw [HV0.out]
  have HK := hidC (fun w => refWeeks_any (nt t 0 4) (by omega) (by omega) w)
  have hwn := (wkN_is (nt t 0 4)).2
  generalize nt t 0 4 = n0 at *
  generalize nt t 5 2 = n1 at *
  generalize nt t 7 1 = n2 at *
  clear hf z0 z1 hB0 hsz hm
  by_cases g1 : 1 ≤ n1
  · by_cases g2 : n1 ≤ wkN n0
    · by_cases g3 : 1 ≤ n2 ∧ n2 ≤ 7
      · obtain ⟨g3a, g3b⟩ := g3
        obtain ⟨y1, m1, d1, e1, hv, ht1⟩ := ofVT (wkD n0 n1 n2)
        have HV : Hid (rwV 5 7 n0 n1 n2 = rT y1 m1 d1 e1 0) := by unfold rwV; rw [if_pos ⟨g1, g2⟩, if_pos ⟨g3a, g3b⟩]; exact ht1
        have HW := hidC (fun w => refFromWeek_good n0 n1 n2 ⟨by omega, b0.2, g1, g2, g3a, g3b⟩ w)
        rw [hv] at HW
        rw [HV.out]
        clear HV HV0 hv ht1
        generalize wkN n0 = C at *
        unfold rT dV at *
        go_enter Tryz.func110, Tryz.ntmps110
        go_wp2_with fail
        refine HF.out.mono ?_
        rintro e w2 ⟨rfl, hb⟩
        rw [← HSZ.out] at hb
        have hx := Z0.out.later hb
        obtain ⟨k0, k1, k2, f0, f1, f2, _⟩ := hx.facts
        obtain ⟨j0, j1, j2, _⟩ := (Z1.out.later hb).facts
        have HB := hidC (HB0.out.trans (hb.mono HB0.out.size))
        have HX := hidC hx
        clear hx hb HF HB0
        go_wp2_with (first | (go_at_call_of 133 (Value.int IntKind.i64 0); refine (N0.out _).mono ?_; rintro e w' ⟨rfl, rfl⟩) | (go_at_call_of 133 (Value.int IntKind.i64 5); refine (N1.out _).mono ?_; rintro e w' ⟨rfl, rfl⟩) | (go_at_call_of 133 (Value.int IntKind.i64 7); refine (N2.out _).mono ?_; rintro e w' ⟨rfl, rfl⟩) | (go_at_call 135; refine (HK.out _).mono ?_; rintro e w' ⟨rfl, rfl⟩) | (go_at_call 136; refine (HW.out _).mono ?_; rintro e w3 ⟨rfl, hb3⟩; have HX3 := hidC ((HX.out.later hb3).later (alloc_below _ (.cells #[.int .i64 y1, .int .i64 m1, .int .i64 d1] 187))); have HB3 := hidC ((HB.out.trans (hb3.mono HB.out.size)).alloc (HB.out.trans (hb3.mono HB.out.size)).size (.cells #[.int .i64 y1, .int .i64 m1, .int .i64 d1] 187)); obtain ⟨k0, k1, k2, f0, f1, f2, _⟩ := HX3.out.facts; obtain ⟨q0, q1, q2, _⟩ := (HX3.out.put y1 m1 d1).facts; clear hb3))
        refine bodyPost_ret (by simp [results, Tryz.results110, go_sem, q0, q1, q2]; try rfl) rfl ?_
        exact ⟨rfl, ((HB3.out.setCell (Nat.le_refl _) _).setCell (Nat.le_refl _) _).setCell (Nat.le_refl _) _⟩
      · have HV : Hid (rwV 5 7 n0 n1 n2 = rT 0 0 0 30 7) := by unfold rwV; rw [if_pos ⟨g1, g2⟩, if_neg g3]; exact rfl
        rw [HV.out]
        clear HV HV0
        generalize wkN n0 = C at *
        by_cases g4 : 1 ≤ n2
        · have g5 : ¬ n2 ≤ 7 := fun h => g3 ⟨g4, h⟩
          clear g3
          unfold rT dV at *
          go_enter Tryz.func110, Tryz.ntmps110
          go_wp2_with fail
          refine HF.out.mono ?_
          rintro e w2 ⟨rfl, hb⟩
          rw [← HSZ.out] at hb
          have hx := Z0.out.later hb
          obtain ⟨k0, k1, k2, f0, f1, f2, _⟩ := hx.facts
          obtain ⟨d0, d1, d2, _⟩ := (hx.put 0 0 0).facts
          obtain ⟨j0, j1, j2, _⟩ := (Z1.out.later hb).facts
          have HB := hidC (HB0.out.trans (hb.mono HB0.out.size))
          clear hx hb HF HB0
          go_wp2_with (first | (go_at_call_of 133 (Value.int IntKind.i64 0); refine (N0.out _).mono ?_; rintro e w' ⟨rfl, rfl⟩) | (go_at_call_of 133 (Value.int IntKind.i64 5); refine (N1.out _).mono ?_; rintro e w' ⟨rfl, rfl⟩) | (go_at_call_of 133 (Value.int IntKind.i64 7); refine (N2.out _).mono ?_; rintro e w' ⟨rfl, rfl⟩) | (go_at_call 135; refine (HK.out _).mono ?_; rintro e w' ⟨rfl, rfl⟩))
          refine bodyPost_ret (by simp [results, Tryz.results110, go_sem, d0, d1, d2]; try rfl) rfl ?_
          exact ⟨rfl, ((HB.out.setCell (Nat.le_refl _) _).setCell (Nat.le_refl _) _).setCell (Nat.le_refl _) _⟩
        · clear g3
          unfold rT dV at *
          go_enter Tryz.func110, Tryz.ntmps110
          go_wp2_with fail
          refine HF.out.mono ?_
          rintro e w2 ⟨rfl, hb⟩
          rw [← HSZ.out] at hb
          have hx := Z0.out.later hb
          obtain ⟨k0, k1, k2, f0, f1, f2, _⟩ := hx.facts
          obtain ⟨d0, d1, d2, _⟩ := (hx.put 0 0 0).facts
          obtain ⟨j0, j1, j2, _⟩ := (Z1.out.later hb).facts
          have HB := hidC (HB0.out.trans (hb.mono HB0.out.size))
          clear hx hb HF HB0
          go_wp2_with (first | (go_at_call_of 133 (Value.int IntKind.i64 0); refine (N0.out _).mono ?_; rintro e w' ⟨rfl, rfl⟩) | (go_at_call_of 133 (Value.int IntKind.i64 5); refine (N1.out _).mono ?_; rintro e w' ⟨rfl, rfl⟩) | (go_at_call_of 133 (Value.int IntKind.i64 7); refine (N2.out _).mono ?_; rintro e w' ⟨rfl, rfl⟩) | (go_at_call 135; refine (HK.out _).mono ?_; rintro e w' ⟨rfl, rfl⟩))
          refine bodyPost_ret (by simp [results, Tryz.results110, go_sem, d0, d1, d2]; try rfl) rfl ?_
          exact ⟨rfl, ((HB.out.setCell (Nat.le_refl _) _).setCell (Nat.le_refl _) _).setCell (Nat.le_refl _) _⟩
    · have HV : Hid (rwV 5 7 n0 n1 n2 = rT 0 0 0 30 5) := by unfold rwV; rw [if_neg (fun h => g2 h.2)]; exact rfl
      rw [HV.out]
      clear HV HV0
      generalize wkN n0 = C at *
      unfold rT dV at *
      go_enter Tryz.func110, Tryz.ntmps110
      go_wp2_with fail
      refine HF.out.mono ?_
      rintro e w2 ⟨rfl, hb⟩
      rw [← HSZ.out] at hb
      have hx := Z0.out.later hb
      obtain ⟨k0, k1, k2, f0, f1, f2, _⟩ := hx.facts
      obtain ⟨d0, d1, d2, _⟩ := (hx.put 0 0 0).facts
      obtain ⟨j0, j1, j2, _⟩ := (Z1.out.later hb).facts
      have HB := hidC (HB0.out.trans (hb.mono HB0.out.size))
      clear hx hb HF HB0
      go_wp2_with (first | (go_at_call_of 133 (Value.int IntKind.i64 0); refine (N0.out _).mono ?_; rintro e w' ⟨rfl, rfl⟩) | (go_at_call_of 133 (Value.int IntKind.i64 5); refine (N1.out _).mono ?_; rintro e w' ⟨rfl, rfl⟩) | (go_at_call_of 133 (Value.int IntKind.i64 7); refine (N2.out _).mono ?_; rintro e w' ⟨rfl, rfl⟩) | (go_at_call 135; refine (HK.out _).mono ?_; rintro e w' ⟨rfl, rfl⟩))
      refine bodyPost_ret (by simp [results, Tryz.results110, go_sem, d0, d1, d2]; try rfl) rfl ?_
      exact ⟨rfl, ((HB.out.setCell (Nat.le_refl _) _).setCell (Nat.le_refl _) _).setCell (Nat.le_refl _) _⟩
  · have HV : Hid (rwV 5 7 n0 n1 n2 = rT 0 0 0 30 5) := by unfold rwV; rw [if_neg (fun h => g1 h.1)]; exact rfl
    rw [HV.out]
    clear HV HV0 HK hwn
    unfold rT dV at *
    go_enter Tryz.func110, Tryz.ntmps110
    go_wp2_with fail
    refine HF.out.mono ?_
    rintro e w2 ⟨rfl, hb⟩
    rw [← HSZ.out] at hb
    have hx := Z0.out.later hb
    obtain ⟨k0, k1, k2, f0, f1, f2, _⟩ := hx.facts
    obtain ⟨d0, d1, d2, _⟩ := (hx.put 0 0 0).facts
    obtain ⟨j0, j1, j2, _⟩ := (Z1.out.later hb).facts
    have HB := hidC (HB0.out.trans (hb.mono HB0.out.size))
    clear hx hb HF HB0
    go_wp2_with (first | (go_at_call_of 133 (Value.int IntKind.i64 0); refine (N0.out _).mono ?_; rintro e w' ⟨rfl, rfl⟩) | (go_at_call_of 133 (Value.int IntKind.i64 5); refine (N1.out _).mono ?_; rintro e w' ⟨rfl, rfl⟩) | (go_at_call_of 133 (Value.int IntKind.i64 7); refine (N2.out _).mono ?_; rintro e w' ⟨rfl, rfl⟩))
    refine bodyPost_ret (by simp [results, Tryz.results110, go_sem, d0, d1, d2]; try rfl) rfl ?_
    exact ⟨rfl, ((HB.out.setCell (Nat.le_refl _) _).setCell (Nat.le_refl _) _).setCell (Nat.le_refl _) _⟩

end Go.Proofs.YtmgfdnccmeahjaaGreatDoor

namespace Go.Proofs.YtmgfdnccmeahjaaGreatDoor
open Go.RowKit
set_option maxRecDepth 100000

theorem rdV_num (p1 p2 : Nat) (n0 n1 n2 : Int) : ∃ y m d e p, rdV p1 p2 n0 n1 n2 = rT y m d e p ∧ 0 ≤ e ∧ e ≤ 100 := by
  unfold rdV
  split
  · split
    · exact ⟨_, _, _, _, _, rfl, by omega, by omega⟩
    · exact ⟨_, _, _, _, _, rfl, by omega, by omega⟩
  · exact ⟨_, _, _, _, _, rfl, by omega, by omega⟩
theorem ryV_num (p1 : Nat) (n0 n1 : Int) : ∃ y m d e p, ryV p1 n0 n1 = rT y m d e p ∧ 0 ≤ e ∧ e ≤ 100 := by
  unfold ryV
  split
  · exact ⟨_, _, _, _, _, rfl, by omega, by omega⟩
  · exact ⟨_, _, _, _, _, rfl, by omega, by omega⟩
theorem rwV_num (p1 p2 : Nat) (n0 n1 n2 : Int) : ∃ y m d e p, rwV p1 p2 n0 n1 n2 = rT y m d e p ∧ 0 ≤ e ∧ e ≤ 100 := by
  unfold rwV ofT
  split
  · split
    · split
      · exact ⟨_, _, _, _, _, rfl, by omega, by omega⟩
      · exact ⟨_, _, _, _, _, rfl, by omega, by omega⟩
    · exact ⟨_, _, _, _, _, rfl, by omega, by omega⟩
  · exact ⟨_, _, _, _, _, rfl, by omega, by omega⟩
theorem shA_is (t : ByteArray) (k : Nat) : ∃ y m d e p, shA t k = rT y m d e p ∧ 0 ≤ e ∧ e ≤ 100 := by
  unfold shA
  split
  · exact rdV_num _ _ _ _ _
  · exact rdV_num _ _ _ _ _
  · exact ryV_num _ _ _
  · exact ryV_num _ _ _
  · exact rwV_num _ _ _ _ _
  · exact rwV_num _ _ _ _ _

/-- both sides answer the same -/
theorem reads_both (t : ByteArray) : ∃ y m d e p : Int, (∀ w, HasAh w → Calls Tryz.prog 169 #[.string t] w fun x w' => x = .returned (rT y m d e p) ∧ Below w.heap.size w w') ∧
    (∀ w, Calls Tryz.prog 110 #[.string t] w fun x w' => x = .returned (rT y m d e p) ∧ Below w.heap.size w w') ∧ 0 ≤ e ∧ e ≤ 100 := by
  by_cases hs : 64 < t.size
  · exact ⟨_, _, _, _, _, fun w _ => parse_long t hs w, fun w => refParse_long t hs w, by omega, by omega⟩
  · rcases ds_cases t.data.toList with ⟨p, hp⟩ | ⟨k, hk, hf, hm⟩
    · exact ⟨_, _, _, _, _, fun w _ => parse_none t (by omega) p hp w, fun w => refParse_none t (by omega) p hp w, by omega, by omega⟩
    · obtain ⟨y, m, d, e, p, hv, he⟩ := shA_is t k
      refine ⟨y, m, d, e, p, ?_, ?_, he⟩
      · intro w hA
        rw [← hv]
        match k, hk, hf, hm with
        | 0, _, hf, hm => exact parse_0 t hm hf w hA
        | 1, _, hf, hm => exact parse_1 t hm hf w hA
        | 2, _, hf, hm => exact parse_2 t hm hf w hA
        | 3, _, hf, hm => exact parse_3 t hm hf w hA
        | 4, _, hf, hm => exact parse_4 t hm hf w hA
        | 5, _, hf, hm => exact parse_5 t hm hf w hA
      · intro w
        rw [← hv]
        match k, hk, hf, hm with
        | 0, _, hf, hm => exact refParse_0 t hm hf w
        | 1, _, hf, hm => exact refParse_1 t hm hf w
        | 2, _, hf, hm => exact refParse_2 t hm hf w
        | 3, _, hf, hm => exact refParse_3 t hm hf w
        | 4, _, hf, hm => exact refParse_4 t hm hf w
        | 5, _, hf, hm => exact refParse_5 t hm hf w
end Go.Proofs.YtmgfdnccmeahjaaGreatDoor
