/-
  strings.IndexRune of the signs of a zone, at any rune that is no byte. Laid by mkia2.py.
-/
import Derived.Test.YtcmllfipaiacfaaGreatDoorIa1
import Derived.WalkMore
namespace Go.Proofs.YtcmllfipaiacfaaGreatDoor
open Go.RowKit
set_option maxRecDepth 1000000
set_option linter.unusedSimpArgs false

theorem ib_45 (y : UInt8) (h : 128 ≤ y.toNat) : Lib.indexByte [45] y = -1 := ib_none (by intro e; simp at e; rw [e] at h; exact absurd h (by decide))
theorem run_45 (w : World) : (Instr.slice 9 (.string zS) (some (.int .i64 2)) none none).run Tryz.prog w = .ok (.string ⟨#[45]⟩) w := by
  have h := run_fromI zS 2 2 rfl (by decide) w
  exact h
theorem run_e0 (w : World) : (Instr.slice 9 (.string zS) (some (.int .i64 3)) none none).run Tryz.prog w = .ok (.string ⟨#[]⟩) w := by
  have h := run_fromI zS 3 3 rfl (by decide) w
  exact h
set_option maxHeartbeats 4000000 in
theorem irune_bad (r : Nat) (h : 128 ≤ r) (he : r ≠ 65533) (hv : Lib.validRune (r : Int) = false) (w : World) :
    Calls Tryz.prog 44 #[.string zS, .int .i32 (r : Int)] w fun e w' => e = .returned (.int .i64 (-1)) ∧ Below w.heap.size w w' := by
  have n1 : ¬ (r : Int) < 128 := by omega
  have n2 : ¬ (r : Int) = 65533 := by omega
  have n3 : 0 ≤ (r : Int) := by omega
  have HV := hid (fun w => Tryz.utf8_ValidRune (r : Int) w)
  rw [hv] at HV
  clear hv
  go_enter Tryz.func44, Tryz.ntmps44
  go_wp2_with fail
  refine (HV.out _).mono ?_
  rintro e w1 ⟨rfl, rfl⟩
  go_wp2
  go_ret
  exact ⟨rfl, Below.refl _ _⟩
set_option maxHeartbeats 4000000 in
theorem irune_2 (r : Nat) (h : 128 ≤ r) (he : r ≠ 65533) (hv : Lib.validRune (r : Int) = true) (x y : UInt8) (hE : Utf8.encode (r : Int) = ⟨#[x, y]⟩) (hy : 128 ≤ y.toNat) (w : World) :
    Calls Tryz.prog 44 #[.string zS, .int .i32 (r : Int)] w fun e w' => e = .returned (.int .i64 (-1)) ∧ Below w.heap.size w w' := by
  have n1 : ¬ (r : Int) < 128 := by omega
  have n2 : ¬ (r : Int) = 65533 := by omega
  have n3 : 0 ≤ (r : Int) := by omega
  have HV := hid (fun w => Tryz.utf8_ValidRune (r : Int) w)
  rw [hv] at HV
  clear hv
  have HI := hid (fun w => Tryz.strings_IndexByte ⟨#[45]⟩ (y.toNat : Int) w)
  have e1 : ((y.toNat : Int)).toNat.toUInt8 = y := by simp
  rw [e1] at HI
  have e2 : Lib.indexByte (⟨#[45]⟩ : ByteArray).data.toList y = -1 := ib_45 y hy
  rw [e2] at HI
  have hn : ¬ (43 : Int) = (y.toNat : Int) := by omega
  have hn2 : ¬ (y.toNat : Int) = 43 := by omega
  have hb : ((43 : Int) == (y.toNat : Int)) = false := by rw [beq_eq_false_iff_ne]; exact hn
  have hne : (43 : UInt8) ≠ y := fun e => by rw [← e] at hy; exact absurd hy (by decide)
  have hnb : (((zS[1]'(by decide)).toNat : Int) != (((⟨#[x, y]⟩ : ByteArray)[1]'(by show 1 < 2; decide)).toNat : Int)) = true := by show ((43 : Int) != (y.toNat : Int)) = true; simp [hn]
  have q := run_45
  clear e1 e2
  have hcv : ∀ w, (convert 21 9 (.int .i32 (r : Int))).run Tryz.prog w = .ok (.string ⟨#[x, y]⟩) w := fun w => by rw [← hE]; exact run_convert_int_string w _ _ _ _ (by kernel_rfl) Tryz.underlying9
  clear hE
  go_enter Tryz.func44, Tryz.ntmps44
  go_wp2_with fail
  refine (HV.out _).mono ?_
  rintro e w1 ⟨rfl, rfl⟩
  go_wp2_with fail
  go_step3
  go_wp2_with fail
  go_loopw [9] (fun i wr => i = .int .i64 1 ∧ wr = w1) (fun _ _ => 0)
  case atStart => exact ⟨rfl, rfl⟩
  case round =>
    obtain ⟨rfl, rfl⟩ := hrel
    go_wp2_with fail
    go_step3
    go_wp2_with fail
    go_quiet (fail)
    obtain ⟨wq, hwq⟩ : ∃ wq, wr.drewN nq = wq := ⟨_, rfl⟩
    have BQ := hid (show Below wr.heap.size wr wq by rw [← hwq]; exact below_drewN (Below.refl _ _) nq)
    rw [hwq]
    clear hwq nq
    go_wp2_with fail
    go_quiet ((go_at_call 85; exact Calls.quiet_of_same (HI.out _)))
    have BR := hid (BQ.out.trans ((below_drewN (Below.refl wq.heap.size wq) nq).mono BQ.out.size))
    go_wp2
    rw [Exit.noGoto_ret]
    go_wp2
    rw [Exit.noGoto_ret]
    go_wp2
    go_ret
    exact ⟨rfl, BR.out⟩
set_option maxHeartbeats 4000000 in
theorem irune_3 (r : Nat) (h : 128 ≤ r) (he : r ≠ 65533) (hv : Lib.validRune (r : Int) = true) (x y z : UInt8) (hE : Utf8.encode (r : Int) = ⟨#[x, y, z]⟩) (hy : 128 ≤ z.toNat) (w : World) :
    Calls Tryz.prog 44 #[.string zS, .int .i32 (r : Int)] w fun e w' => e = .returned (.int .i64 (-1)) ∧ Below w.heap.size w w' := by
  have n1 : ¬ (r : Int) < 128 := by omega
  have n2 : ¬ (r : Int) = 65533 := by omega
  have n3 : 0 ≤ (r : Int) := by omega
  have HV := hid (fun w => Tryz.utf8_ValidRune (r : Int) w)
  rw [hv] at HV
  clear hv
  have HI := hid (fun w => Tryz.strings_IndexByte ⟨#[]⟩ (z.toNat : Int) w)
  have e1 : ((z.toNat : Int)).toNat.toUInt8 = z := by simp
  rw [e1] at HI
  have e2 : Lib.indexByte (⟨#[]⟩ : ByteArray).data.toList z = -1 := rfl
  rw [e2] at HI
  have hn : ¬ (45 : Int) = (z.toNat : Int) := by omega
  have hn2 : ¬ (z.toNat : Int) = 45 := by omega
  have hb : ((45 : Int) == (z.toNat : Int)) = false := by rw [beq_eq_false_iff_ne]; exact hn
  have hne : (45 : UInt8) ≠ z := fun e => by rw [← e] at hy; exact absurd hy (by decide)
  have hnb : (((zS[2]'(by decide)).toNat : Int) != (((⟨#[x, y, z]⟩ : ByteArray)[2]'(by show 2 < 3; decide)).toNat : Int)) = true := by show ((45 : Int) != (z.toNat : Int)) = true; simp [hn]
  have q := run_e0
  clear e1 e2
  have hcv : ∀ w, (convert 21 9 (.int .i32 (r : Int))).run Tryz.prog w = .ok (.string ⟨#[x, y, z]⟩) w := fun w => by rw [← hE]; exact run_convert_int_string w _ _ _ _ (by kernel_rfl) Tryz.underlying9
  clear hE
  go_enter Tryz.func44, Tryz.ntmps44
  go_wp2_with fail
  refine (HV.out _).mono ?_
  rintro e w1 ⟨rfl, rfl⟩
  go_wp2_with fail
  go_step3
  go_wp2_with fail
  go_loopw [9] (fun i wr => i = .int .i64 2 ∧ wr = w1) (fun _ _ => 0)
  case atStart => exact ⟨rfl, rfl⟩
  case round =>
    obtain ⟨rfl, rfl⟩ := hrel
    go_wp2_with fail
    go_step3
    go_wp2_with fail
    go_quiet (fail)
    obtain ⟨wq, hwq⟩ : ∃ wq, wr.drewN nq = wq := ⟨_, rfl⟩
    have BQ := hid (show Below wr.heap.size wr wq by rw [← hwq]; exact below_drewN (Below.refl _ _) nq)
    rw [hwq]
    clear hwq nq
    go_wp2_with fail
    go_quiet ((go_at_call 85; exact Calls.quiet_of_same (HI.out _)))
    have BR := hid (BQ.out.trans ((below_drewN (Below.refl wq.heap.size wq) nq).mono BQ.out.size))
    go_wp2
    rw [Exit.noGoto_ret]
    go_wp2
    rw [Exit.noGoto_ret]
    go_wp2
    go_ret
    exact ⟨rfl, BR.out⟩
set_option maxHeartbeats 4000000 in
theorem irune_4 (r : Nat) (h : 128 ≤ r) (he : r ≠ 65533) (hv : Lib.validRune (r : Int) = true) (x y z v : UInt8) (hE : Utf8.encode (r : Int) = ⟨#[x, y, z, v]⟩) (w : World) :
    Calls Tryz.prog 44 #[.string zS, .int .i32 (r : Int)] w fun e w' => e = .returned (.int .i64 (-1)) ∧ Below w.heap.size w w' := by
  have n1 : ¬ (r : Int) < 128 := by omega
  have n2 : ¬ (r : Int) = 65533 := by omega
  have n3 : 0 ≤ (r : Int) := by omega
  have HV := hid (fun w => Tryz.utf8_ValidRune (r : Int) w)
  rw [hv] at HV
  clear hv
  have hcv : ∀ w, (convert 21 9 (.int .i32 (r : Int))).run Tryz.prog w = .ok (.string ⟨#[x, y, z, v]⟩) w := fun w => by rw [← hE]; exact run_convert_int_string w _ _ _ _ (by kernel_rfl) Tryz.underlying9
  clear hE
  go_enter Tryz.func44, Tryz.ntmps44
  go_wp2_with fail
  refine (HV.out _).mono ?_
  rintro e w1 ⟨rfl, rfl⟩
  go_wp2_with fail
  go_step3
  go_wp2_with fail
  go_loopw [9] (fun i wr => i = .int .i64 3 ∧ wr = w1) (fun _ _ => 0)
  case atStart => exact ⟨rfl, rfl⟩
  case round =>
    obtain ⟨rfl, rfl⟩ := hrel
    go_wp2_with fail
    go_wp2
    try rw [Exit.noGoto_ret]
    go_ret
    exact ⟨rfl, Below.refl _ _⟩
theorem irune_any (r : Nat) (h : 128 ≤ r) (w : World) :
    Calls Tryz.prog 44 #[.string zS, .int .i32 (r : Int)] w fun e w' => e = .returned (.int .i64 (-1)) ∧ Below w.heap.size w w' := by
  by_cases he : r = 65533
  · subst he
    exact irune_err w
  cases hv : Lib.validRune (r : Int)
  · exact irune_bad r h he hv w
  · rcases enc_cases r h with ⟨x, y, hE, hy⟩ | ⟨x, y, z, hE, hz⟩ | ⟨x, y, z, v, hE⟩
    · exact irune_2 r h he hv x y hE hy w
    · exact irune_3 r h he hv x y z hE hz w
    · exact irune_4 r h he hv x y z v hE w
end Go.Proofs.YtcmllfipaiacfaaGreatDoor
