/-
  plan: the law's lines: are two lists the same?
-/
import Derived.Test.YtgnnopjkbmbjbaaPq1
import Derived.Deep.RegionHeld3
namespace Go.Proofs.Ytgnnopjkbmbjbaa
open Go.RowKit
set_option maxRecDepth 100000
set_option linter.unusedSimpArgs false

theorem ba_toList (a b : ByteArray) : (a.toList == b.toList) = true ↔ a = b := by
  rw [beq_iff_eq, ByteArray.toList_eq, ByteArray.toList_eq]
  constructor
  · intro h; cases a; cases b; simp only [Array.toList_inj] at h; rw [h]
  · rintro rfl; rfl
theorem line_at {w : World} {v : Value} {L : List Ln} (h : RL lnC 2 w v L) (i : Nat) (hi : i < L.length) :
    ∃ g off c, v = .slice (some ⟨g, off, none⟩) L.length c ∧ L.length ≤ c ∧ w.cell? ⟨g, off + i * 2, none⟩ = some (.string L[i].1) ∧ w.cell? ⟨g, off + i * 2 + 1, none⟩ = some (.int .i64 L[i].2) := by
  obtain ⟨g, off, c, hv, hc, hr⟩ := h.form (by omega)
  exact ⟨g, off, c, hv, hc, hr i hi 0 _ rfl, hr i hi 1 _ rfl⟩
set_option maxHeartbeats 2000000 in
/-- the same list twice -/
theorem lines_same (va vb : Value) (L : List Ln) (w : World) (ha : RL lnC 2 w va L) (hb : RL lnC 2 w vb L) (hl : (L.length : Int) ≤ 9223372036854775806) :
    Calls Try.prog 11 #[va, vb] w fun e w' => e = .returned (.bool true) ∧ Below w.heap.size w w' := by
  have HA := hid ha
  have HB := hid hb
  obtain ⟨ao, ca, rfl⟩ := ha.len0
  obtain ⟨bo, cb, rfl⟩ := hb.len0
  clear ha hb
  go_enter Try.func11, Try.ntmps11
  go_wp2_with fail
  go_loopw [5] (fun i wr => ∃ k : Nat, k ≤ L.length ∧ i = .int .i64 (k : Int) ∧ Below w.heap.size w wr) (fun i _ => L.length - (intOf i).toNat)
  case atStart => exact ⟨0, by omega, rfl, Below.refl _ _⟩
  case round =>
    obtain ⟨k, hk, rfl, hbl⟩ := hrel
    by_cases hlt : k < L.length
    · have hI : (k : Int) < (L.length : Int) := by omega
      obtain ⟨g, off, c, e1, hc, c0, c1⟩ := line_at (HA.out.below hbl) k hlt
      obtain ⟨g', off', c', e1', hc', d0, d1⟩ := line_at (HB.out.below hbl) k hlt
      cases e1
      cases e1'
      have HBL := hid hbl
      clear hbl
      generalize L[k]'hlt = x at *
      obtain ⟨x1, x2⟩ := x
      dsimp only at *
      have r1 : (x1.toList == x1.toList) = true := by simp
      go_wp2_with fail
      go_quiet (fail)
      have BQ := hid (below_drewN HBL.out nq)
      go_wp2_with fail
      go_roundw
      case rel => exact ⟨k + 1, by omega, by go_num, BQ.out⟩
      case measure => simp [intOf]; omega
    · obtain rfl : k = L.length := by omega
      go_wp2
      go_ret
      exact ⟨rfl, hbl⟩
end Go.Proofs.Ytgnnopjkbmbjbaa
