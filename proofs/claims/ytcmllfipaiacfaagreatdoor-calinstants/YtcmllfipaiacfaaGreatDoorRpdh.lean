/-
  The document's own ParseDate.
-/
import Derived.Test.YtcmllfipaiacfaaGreatDoorPd
import Derived.Test.YtcmllfipaiacfaaGreatDoorRfw
namespace Go.Proofs.YtcmllfipaiacfaaGreatDoor
open Go.RowKit
set_option maxRecDepth 100000

theorem shaped_ds (t : ByteArray) (ht : t.size ≤ 64) (w : World) : Calls Tryz.prog 25 #[.string t, .slice (some ⟨w.heap.size, 0, none⟩) 6 6] (w.alloc dsO) fun e w' => e = .returned (.tuple #[.int .i64 (fitL t.data.toList (SS DS) 0 0).1, .int .i64 (shN t.size (fitL t.data.toList (SS DS) 0 0) : Nat)]) ∧ Below w.heap.size w w' := by
  refine (shaped_any t ht DS DS_small (by decide) w.heap.size (w.alloc dsO) (ShB.ds (heap_alloc_new _ _))).mono ?_
  rintro e w' ⟨rfl, n, rfl⟩
  exact ⟨rfl, below_drewN ((Below.refl _ _).alloc (Nat.le_refl _) _) n⟩

theorem nt_in (t : ByteArray) (k a n : Nat) (h : MK t k) (hn : a + n ≤ t.size) (hd : (((((SS DS).getD k []).map (fun x => x == 100)).drop a).take n).all id = true) : 0 ≤ nt t a n ∧ nt t a n < (10 ^ n : Nat) := by
  have lt : t.data.toList.length = t.size := Array.length_toList
  have h2 := nm_lt _ (mk_dig t k a n h hd)
  rw [sub_len _ _ _ (by rw [lt]; exact hn)] at h2
  unfold nt
  exact ⟨by omega, by exact_mod_cast h2⟩

theorem refParse_long (t : ByteArray) (ht : 64 < t.size) (w : World) : Calls Tryz.prog 24 #[.string t] w fun e w' => e = .returned (rT 0 0 0 1 0) ∧ Below w.heap.size w w' := by
  unfold rT dV
  have hB : Below w.heap.size w ((w.alloc zD).alloc zD) := ((Below.refl _ _).alloc (Nat.le_refl _) _).alloc (by simp) _
  go_enter Tryz.func24, Tryz.ntmps24
  go_wp2
  refine bodyPost_ret (by simp [results, Tryz.results24, go_sem]; try rfl) rfl ?_
  exact ⟨rfl, hB⟩

/-- the two dates of zeros that ParseDate lays -/
theorem two_zero (w : World) : Box ((w.alloc zD).alloc zD) w.heap.size 0 0 0 ∧ Box ((w.alloc zD).alloc zD) (w.heap.size + 1) 0 0 0 ∧ ((w.alloc zD).alloc zD).heap.size = w.heap.size + 1 + 1 ∧ Below w.heap.size w ((w.alloc zD).alloc zD) := by
  have s1 : (w.alloc zD).heap.size = w.heap.size + 1 := by simp
  refine ⟨(Box.new w 0 0 0).later (alloc_below _ zD), ?_, by simp, ((Below.refl _ _).alloc (Nat.le_refl _) _).alloc (by simp) _⟩
  have h := Box.new (w.alloc zD) 0 0 0
  rw [s1] at h
  exact h

set_option maxHeartbeats 400000 in
theorem refParse_none (t : ByteArray) (ht : t.size ≤ 64) (p : Nat) (hf : fitL t.data.toList (SS DS) 0 0 = (-1, p)) (w : World) : Calls Tryz.prog 24 #[.string t] w fun e w' => e = .returned (rT 0 0 0 31 (p : Int)) ∧ Below w.heap.size w w' := by
  obtain ⟨z0, z1, hsz, hB0⟩ := two_zero w
  have HF := hid (shaped_ds t ht ((w.alloc zD).alloc zD))
  rw [hf, shN_no, hsz] at HF
  have Z0 := hid z0
  have Z1 := hid z1
  have HB0 := hid hB0
  have HSZ := hid hsz
  unfold rT dV
  clear hf z0 z1 hB0 hsz
  go_enter Tryz.func24, Tryz.ntmps24
  go_wp2_with fail
  refine HF.out.mono ?_
  rintro e w2 ⟨rfl, hb⟩
  rw [← HSZ.out] at hb
  have hx := Z0.out.later hb
  obtain ⟨k0, k1, k2, f0, f1, f2, _⟩ := hx.facts
  obtain ⟨d0, d1, d2, _⟩ := (hx.put 0 0 0).facts
  obtain ⟨j0, j1, j2, _⟩ := (Z1.out.later hb).facts
  have HB := hid (HB0.out.trans (hb.mono HB0.out.size))
  clear hx hb
  go_wp2
  refine bodyPost_ret (by simp [results, Tryz.results24, go_sem, d0, d1, d2]; try rfl) rfl ?_
  exact ⟨rfl, ((HB.out.setCell (Nat.le_refl _) _).setCell (Nat.le_refl _) _).setCell (Nat.le_refl _) _⟩

end Go.Proofs.YtcmllfipaiacfaaGreatDoor
