/-
  THE SHELL OF A PROOF OF 'Rows.FrameStepsSaid' ('larder/larderlaw01.FrameSteps'), WRITTEN BY PROGRAM (proof-skeleton.mjs) off the guide's own print for that function. Not trusted: Lean checks it.
  YOURS ARE THE HOLES MARKED 'HOLE' (each bears 'sorry'). ALL ELSE IS THE GUIDE's TEMPLATE (howto/template/XProofs.lean) at this function's number and types: leave it.
-/
import Derived.Test.YtbmnkedbpomnkaaRows
import Derived.WalkKit
import Derived.ProofKit
import Derived.OpenShut
import Derived.Test.YtbmnkedbpomnkaaSum
namespace Go.Proofs.Ytbmnkedbpomnkaa.frameSteps
open Go.ChangeShapes Go.WideShapes Go.ChangeAt Go.RowKit
set_option linter.unusedVariables false      -- a walk need not use every 'w<i>' (that an integer argument fits its kind)

theorem own : ownKnob Try.prog.godebug = none := by kernel_rfl

set_option maxHeartbeats 800000 in
theorem walk_nn (a0 a1 a2 a3 a4 : Int) (w : World) (n1 : a3 < 0 ∨ 1099511627776 < a3) (m1 : a4 < 0 ∨ 1099511627776 < a4) :
    Calls Try.prog 3 #[.int .u32 a0, .int .u32 a1, .int .u32 a2, .int .i64 a3, .int .i64 a4] w fun e w' => e = .returned (.bool true) ∧ Grown w w' := by
  rcases n1 with n1 | n1 <;> rcases m1 with m1 | m1
  all_goals
    go_enter Try.func3, Try.ntmps3
    go_wp2_with fail
    refine (join_no _ _ _ _ (by omega)).mono ?_
    rintro e w' ⟨rfl, rfl⟩
    go_wp2_with fail
    refine (join_no _ _ _ _ (by omega)).mono ?_
    rintro e w' ⟨rfl, rfl⟩
    go_wp2
    go_ret
    exact ⟨rfl, Grown.refl _⟩

set_option maxHeartbeats 800000 in
theorem walk_ny (a0 a1 a2 a3 a4 : Int) (w : World) (n1 : a3 < 0 ∨ 1099511627776 < a3) (m2 : 0 ≤ a4) (m3 : a4 ≤ 1099511627776) (b00 : 0 ≤ a0) (b01 : a0 < 4294967296) (b10 : 0 ≤ a1) (b11 : a1 < 4294967296) (b20 : 0 ≤ a2) (b21 : a2 < 4294967296) :
    Calls Try.prog 3 #[.int .u32 a0, .int .u32 a1, .int .u32 a2, .int .i64 a3, .int .i64 a4] w fun e w' => e = .returned (.bool true) ∧ Grown w w' := by
  rcases n1 with n1 | n1
  all_goals
    go_enter Try.func3, Try.ntmps3
    go_wp2_with fail
    refine (join_no _ _ _ _ (by omega)).mono ?_
    rintro e w' ⟨rfl, rfl⟩
    go_wp2_with fail
    refine (join_yes _ _ _ _ (by omega) (by omega) (by omega) (by omega) (by omega) (by omega)).mono ?_
    rintro e w' ⟨rfl, rfl⟩
    go_wp2
    go_ret
    exact ⟨rfl, Grown.refl _⟩

set_option maxHeartbeats 800000 in
theorem walk_yn (a0 a1 a2 a3 a4 : Int) (w : World) (n2 : 0 ≤ a3) (n3 : a3 ≤ 1099511627776) (m1 : a4 < 0 ∨ 1099511627776 < a4) (b00 : 0 ≤ a0) (b01 : a0 < 4294967296) (b10 : 0 ≤ a1) (b11 : a1 < 4294967296) (b20 : 0 ≤ a2) (b21 : a2 < 4294967296) :
    Calls Try.prog 3 #[.int .u32 a0, .int .u32 a1, .int .u32 a2, .int .i64 a3, .int .i64 a4] w fun e w' => e = .returned (.bool true) ∧ Grown w w' := by
  rcases m1 with m1 | m1
  all_goals
    go_enter Try.func3, Try.ntmps3
    go_wp2_with fail
    refine (join_yes _ _ _ _ (by omega) (by omega) (by omega) (by omega) (by omega) (by omega)).mono ?_
    rintro e w' ⟨rfl, rfl⟩
    go_wp2_with fail
    refine (join_no _ _ _ _ (by omega)).mono ?_
    rintro e w' ⟨rfl, rfl⟩
    go_wp2
    go_ret
    exact ⟨rfl, Grown.refl _⟩

set_option maxHeartbeats 800000 in
theorem walk_sum (a0 a1 a2 a3 a4 : Int) (w : World) (n2 : 0 ≤ a3) (n3 : a3 ≤ 1099511627776) (m2 : 0 ≤ a4) (m3 : a4 ≤ 1099511627776) (s1 : 1099511627776 < a3 + a4) (b00 : 0 ≤ a0) (b01 : a0 < 4294967296) (b10 : 0 ≤ a1) (b11 : a1 < 4294967296) (b20 : 0 ≤ a2) (b21 : a2 < 4294967296) :
    Calls Try.prog 3 #[.int .u32 a0, .int .u32 a1, .int .u32 a2, .int .i64 a3, .int .i64 a4] w fun e w' => e = .returned (.bool true) ∧ Grown w w' := by
  go_enter Try.func3, Try.ntmps3
  go_wp2_with fail
  refine (join_yes _ _ _ _ (by omega) (by omega) (by omega) (by omega) (by omega) (by omega)).mono ?_
  rintro e w' ⟨rfl, rfl⟩
  go_wp2_with fail
  refine (join_yes _ _ _ _ (by omega) (by omega) (by omega) (by omega) (by omega) (by omega)).mono ?_
  rintro e w' ⟨rfl, rfl⟩
  go_wp2
  go_ret
  exact ⟨rfl, Grown.refl _⟩

set_option maxHeartbeats 800000 in
theorem walk_all (a0 a1 a2 a3 a4 : Int) (w : World) (n2 : 0 ≤ a3) (n3 : a3 ≤ 1099511627776) (m2 : 0 ≤ a4) (m3 : a4 ≤ 1099511627776) (s1 : a3 + a4 ≤ 1099511627776) (b00 : 0 ≤ a0) (b01 : a0 < 4294967296) (b10 : 0 ≤ a1) (b11 : a1 < 4294967296) (b20 : 0 ≤ a2) (b21 : a2 < 4294967296) :
    Calls Try.prog 3 #[.int .u32 a0, .int .u32 a1, .int .u32 a2, .int .i64 a3, .int .i64 a4] w fun e w' => e = .returned (.bool true) ∧ Grown w w' := by
  have j1 := joinS_lt a0.toNat a1.toNat a3.toNat (by omega)
  have j2 := joinS_lt a1.toNat a2.toNat a4.toNat (by omega)
  have q1 : (((joinS (joinS a0.toNat a1.toNat a3.toNat) a2.toNat a4.toNat : Nat) : Int) == ((joinS a0.toNat (joinS a1.toNat a2.toNat a4.toNat) (a3 + a4).toNat : Nat) : Int)) = true := by
    rw [beq_iff_eq, show (a3 + a4).toNat = a3.toNat + a4.toNat by omega]
    exact congrArg _ (Poly.three a0.toNat a1.toNat a2.toNat 8388608 a3.toNat a4.toNat (by decide))
  have q2 : (((joinS a0.toNat 0 0 : Nat) : Int) == a0) = true := by
    rw [beq_iff_eq]
    unfold joinS
    simp only [Poly.pw]
    rw [Poly.mul_one _ (by omega), Nat.xor_zero]
    omega
  go_enter Try.func3, Try.ntmps3
  go_wp2_with fail
  refine (join_yes _ _ _ _ (by omega) (by omega) (by omega) (by omega) (by omega) (by omega)).mono ?_
  rintro e w' ⟨rfl, rfl⟩
  go_wp2_with fail
  refine (join_yes _ _ _ _ (by omega) (by omega) (by omega) (by omega) (by omega) (by omega)).mono ?_
  rintro e w' ⟨rfl, rfl⟩
  go_wp2_with fail
  refine (join_yes _ _ _ _ (by omega) (by omega) (by omega) (by omega) (by omega) (by omega)).mono ?_
  rintro e w' ⟨rfl, rfl⟩
  go_wp2_with fail
  refine (join_yes _ _ _ _ (by omega) (by omega) (by omega) (by omega) (by omega) (by omega)).mono ?_
  rintro e w' ⟨rfl, rfl⟩
  go_wp2_with fail
  refine (join_yes _ _ _ _ (by omega) (by omega) (by omega) (by omega) (by omega) (by omega)).mono ?_
  rintro e w' ⟨rfl, rfl⟩
  go_wp2
  go_ret
  exact ⟨rfl, Grown.refl _⟩

/-! ### STEP 1: THE WALK: the Go text returns true. 'Grown w w'': the world has at most new blocks (Derived/RowKit3.lean). Part the cases AHEAD of 'go_enter' where a test parts the walk; take each callee by a contract of your own. -/
theorem walk (a0 : Int) (a1 : Int) (a2 : Int) (a3 : Int) (a4 : Int) (w0 : (Lit.int .u32 a0).wf = true) (w1 : (Lit.int .u32 a1).wf = true) (w2 : (Lit.int .u32 a2).wf = true) (w3 : (Lit.int .i64 a3).wf = true) (w4 : (Lit.int .i64 a4).wf = true) (w : World) :
    Calls Try.prog 3 #[.int .u32 a0, .int .u32 a1, .int .u32 a2, .int .i64 a3, .int .i64 a4] w fun e w' => e = .returned (.bool true) ∧ Grown w w' := by
  obtain ⟨b00, b01⟩ : 0 ≤ a0 ∧ a0 < 4294967296 := by have := bounds_u32 w0; omega
  obtain ⟨b10, b11⟩ : 0 ≤ a1 ∧ a1 < 4294967296 := by have := bounds_u32 w1; omega
  obtain ⟨b20, b21⟩ : 0 ≤ a2 ∧ a2 < 4294967296 := by have := bounds_u32 w2; omega
  obtain ⟨b30, b31⟩ : -9223372036854775808 ≤ a3 ∧ a3 ≤ 9223372036854775807 := by have := bounds_i64 w3; omega
  obtain ⟨b40, b41⟩ : -9223372036854775808 ≤ a4 ∧ a4 ≤ 9223372036854775807 := by have := bounds_i64 w4; omega
  clear w0 w1 w2 w3 w4
  by_cases n1 : a3 < 0 ∨ 1099511627776 < a3
  · by_cases m1 : a4 < 0 ∨ 1099511627776 < a4
    · exact walk_nn a0 a1 a2 a3 a4 w n1 m1
    · exact walk_ny a0 a1 a2 a3 a4 w n1 (by omega) (by omega) b00 b01 b10 b11 b20 b21
  · by_cases m1 : a4 < 0 ∨ 1099511627776 < a4
    · exact walk_yn a0 a1 a2 a3 a4 w (by omega) (by omega) m1 b00 b01 b10 b11 b20 b21
    · by_cases s1 : 1099511627776 < a3 + a4
      · exact walk_sum a0 a1 a2 a3 a4 w (by omega) (by omega) (by omega) (by omega) s1 b00 b01 b10 b11 b20 b21
      · exact walk_all a0 a1 a2 a3 a4 w (by omega) (by omega) (by omega) (by omega) (by omega) b00 b01 b10 b11 b20 b21

/-! ### THE ROW's STEP: WRITTEN OUT: LEAVE IT -/
set_option maxRecDepth 100000 in
theorem lifted (os : Os) (started : os.Started) (H : Type) (enc : TypeId × Value → H) :
    ReturnsInHanded {} Try.checked os 3 .any (Rows.frameStepsSpec.pre6 enc Try.prog Try.f3 Rows.frameStepsRow.domain false) (Rows.frameStepsSpec.post enc Try.prog Try.f3 false true false false) := by
  refine returnsInHanded_of_change (C := Try.checked) own started (by kernel_rfl) Try.func3
    (ChangeSpec.witness6 (enc := enc) (C := Try.checked) false ⟨#[], #[.int .u32 0, .int .u32 0, .int .u32 0, .int .i64 0, .int .i64 0], []⟩ 8 (by kernel_rfl) (by kernel_rfl) (by kernel_rfl) (by kernel_rfl)) ?_
  intro W base args ds gs before hval0 hW hcnd _
  have hval : ∀ (j : Nat) t v, Try.f3.params[j]? = some t → args[j]? = some v → Value.okWide Try.prog W .any base t v := hval0
  have hW' := hW
  obtain ⟨p, q, hA0, hV, rfl, hfz, hnd⟩ := hW
  have hA : DataW.TrodAll enc Try.prog W 0 (fun _ => true) true Try.f3.params.toList args.toList ds p := hA0
  rw [Try.params3] at hA hval
  obtain ⟨v0, vs0, d0, ds0, p0, q0, hargs, rfl, rfl, h0, r0⟩ := trodAll_cons hA
  obtain ⟨v1, vs1, d1, ds1, p1, q1, rfl, rfl, rfl, h1, r1⟩ := trodAll_cons r0
  obtain ⟨v2, vs2, d2, ds2, p2, q2, rfl, rfl, rfl, h2, r2⟩ := trodAll_cons r1
  obtain ⟨v3, vs3, d3, ds3, p3, q3, rfl, rfl, rfl, h3, r3⟩ := trodAll_cons r2
  obtain ⟨v4, vs4, d4, ds4, p4, q4, rfl, rfl, rfl, h4, r4⟩ := trodAll_cons r3
  obtain ⟨rfl, rfl, rfl⟩ := trodAll_nil r4
  obtain rfl : args = #[v0, v1, v2, v3, v4] := by cases args; simp_all
  obtain ⟨rfl, rfl⟩ := trodVars_none hV
  obtain ⟨a0, rfl, rfl, rfl, w0⟩ := open_int Try.underlying22 (hval 0 22 v0 rfl rfl) h0
  obtain ⟨a1, rfl, rfl, rfl, w1⟩ := open_int Try.underlying22 (hval 1 22 v1 rfl rfl) h1
  obtain ⟨a2, rfl, rfl, rfl, w2⟩ := open_int Try.underlying22 (hval 2 22 v2 rfl rfl) h2
  obtain ⟨a3, rfl, rfl, rfl, w3⟩ := open_int Try.underlying3 (hval 3 3 v3 rfl rfl) h3
  obtain ⟨a4, rfl, rfl, rfl, w4⟩ := open_int Try.underlying3 (hval 4 3 v4 rfl rfl) h4
  clear hA0 hval0
  simp only [List.append_nil] at hW'
  refine (walk a0 a1 a2 a3 a4 w0 w1 w2 w3 w4 W).mono fun e W' ⟨he, hg⟩ => ?_
  subst he
  exact ⟨_, rfl, post_of_same (pa := []) (pv := []) hW' (fun _ _ _ => (trodAll_cons_mk (shut_bool Try.underlying4 _) trodAll_mk0)) (fun sp _ => (trodAll_cons_mk (shut_int Try.underlying22 w0) (trodAll_cons_mk (shut_int Try.underlying22 w1) (trodAll_cons_mk (shut_int Try.underlying22 w2) (trodAll_cons_mk (shut_int Try.underlying3 w3) (trodAll_cons_mk (shut_int Try.underlying3 w4) trodAll_mk0)))))) (fun _ _ => rfl) rfl
    (hg.frame _) hg.2.1 (ok_one (by kernel_rfl) rfl (okWide_bool_mk Try.underlying4 _))⟩

theorem over : Rows.frameStepsRow.holds Try.pinned (OpenSpec.ofChange Rows.frameStepsSpec) :=
  OpenClaim.holds_of_wide 3 Try.f3 rfl rfl rfl rfl rfl rfl rfl ⟨rfl, rfl, rfl, rfl, rfl⟩ rfl rfl rfl rfl rfl (by kernel_rfl) Try.func3 (by kernel_rfl)
    (of_decide_eq_true (by kernel_rfl)) (by unfold Func.isWrapper; first | (rw [if_pos (by decide +kernel)]; kernel_rfl) | (rw [if_neg (by decide +kernel)]; exact ⟨rfl, rfl⟩))
    (fun os started H enc _ => lifted os started H enc)

/-- ████ THE STATEMENT ████ -/
theorem proved : Rows.FrameStepsSaid :=
  over
#print axioms proved
end Go.Proofs.Ytbmnkedbpomnkaa.frameSteps
