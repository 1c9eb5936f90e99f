/-
  StockWeighs: the row.
-/
import Derived.Test.YthnbaekbbeckjaaRows
import Derived.WalkKit
import Derived.ProofKit
import Derived.OpenShut
import Derived.ShutString
import Derived.ChangeOld
import Derived.Below
import Derived.SizedLaws
import Derived.Test.YthnbaekbbeckjaaKbIn
import Derived.Test.YthnbaekbbeckjaaLawKWe
namespace Go.Proofs.Ythnbaekbbeckjaa.stockWeighs
open Go.ChangeShapes Go.WideShapes Go.ChangeAt Go.RowKit
open Go.ChangeMaps (open_string shut_string)
set_option linter.unusedVariables false

theorem own : ownKnob Try.prog.godebug = none := by kernel_rfl
theorem laidOut : laidOutB Try.prog = true := by kernel_rfl

theorem walk (rx0 : Sx) (oa0 : Option Addr) (ca0 : Nat) (ob0 : Option Addr) (cb0 : Nat) (oc0 : Option Addr) (cc0 : Nat) (rx1 : Dn) (o1 : Option Addr) (c1 : Nat) (w : World) (w0 : RLv w (.slice oa0 rx0.levels.length ca0) rx0.levels) (x0 : RHl w ob0 rx0.holds) (y0 : RDn w oc0 rx0.done) (z0 : SxI rx0) (u0 : rx0.holds.length ≤ 9223372036854775807 ∧ rx0.done.length ≤ 9223372036854775807) (w1 : RLn w (.slice o1 rx1.req.lines.length c1) rx1.req.lines) (z1 : DnI rx1) :
    Calls Try.prog 3 #[sxV rx0 oa0 ca0 ob0 cb0 oc0 cc0, dnV rx1 o1 c1] w fun e w' => e = .returned (.bool true) ∧ Below w.heap.size w w' := by
  exact stockWeighs_any rx0 oa0 ca0 ob0 cb0 oc0 cc0 rx1 o1 c1 w w0 x0 y0 u0.1 u0.2

set_option maxRecDepth 100000 in
theorem lifted (os : Os) (started : os.Started) (H : Type) (enc : TypeId × Value → H) :
    ReturnsInHanded {} Try.checked os 3 .any (Rows.stockWeighsSpec.pre6 enc Try.prog Try.f3 Rows.stockWeighsRow.domain false) (Rows.stockWeighsSpec.post enc Try.prog Try.f3 false true false false) := by
  refine returnsInHanded_of_change_sized (C := Try.checked) own started (by kernel_rfl) Try.func3
    (ChangeSpec.witness6 (enc := enc) (C := Try.checked) false ⟨#[], #[.agg #[.int .i64 0, .int .i64 0, .int .i64 0, .slice none 0 0, .slice none 0 0, .slice none 0 0], .agg #[.string ByteArray.empty, .int .i64 0, .slice none 0 0, .string ByteArray.empty, .int .i64 0, .int .i64 0, .int .i64 0]], []⟩ 8 (by kernel_rfl) (by kernel_rfl) (by kernel_rfl) (by kernel_rfl)) ?_
  intro W base args ds gs before hval0 hW hcnd hsz0 _
  have hsz : (DataW.weightsEach Try.prog (Try.f3.params.toList ++ Rows.stockWeighsSpec.plain.varTypes Try.prog) (ds ++ gs)).all (· ≤ reachBytes) = true := hsz0
  clear hsz0
  have hval : ∀ (j : Nat) t v, Try.f3.params[j]? = some t → args[j]? = some v → Value.okWide Try.prog W .any base t v := hval0
  have hW' := hW
  obtain ⟨p, q, hA0, hV, rfl, hfz, hnd⟩ := hW
  have hA : DataW.TrodAll enc Try.prog W 0 (fun _ => true) true Try.f3.params.toList args.toList ds p := hA0
  rw [Try.params3] at hA hval hsz
  obtain ⟨v0, vs0, d0, ds0, p0, q0, hargs, rfl, rfl, h0, r0⟩ := trodAll_cons hA
  obtain ⟨v1, vs1, d1, ds1, p1, q1, rfl, rfl, rfl, h1, r1⟩ := trodAll_cons r0
  obtain ⟨rfl, rfl, rfl⟩ := trodAll_nil r1
  obtain rfl : args = #[v0, v1] := by cases args; simp_all
  obtain ⟨rfl, rfl⟩ := trodVars_none hV
  have k0 := h0
  have lt0 : ∀ x ∈ p0, x.block < W.heap.size := by obtain ⟨m, hm⟩ := k0; exact DataW.trod_lt m _ _ _ hm
  obtain ⟨rx0, oa0, ca0, ob0, cb0, oc0, cc0, rfl, w0, x0, y0, z0, u0, _⟩ := state_open (hval 0 26 v0 rfl rfl) h0
  have k1 := h1
  have lt1 : ∀ x ∈ p1, x.block < W.heap.size := by obtain ⟨m, hm⟩ := k1; exact DataW.trod_lt m _ _ _ hm
  obtain ⟨rx1, o1, c1, rfl, w1, z1, _⟩ := done_open (hval 1 31 v1 rfl rfl) h1
  clear hA0 hval0
  refine (walk rx0 oa0 ca0 ob0 cb0 oc0 cc0 rx1 o1 c1 W w0 x0 y0 z0 u0 w1 z1).mono fun e W' ⟨he, bel⟩ => ?_
  subst he
  exact ⟨_, rfl, _, _, _, [], _, [], hW', trodAll_mk1 (shut_bool Try.underlying4 _), (trodAll_cons_mk (Below.trod laidOut (by kernel_rfl) (of_decide_eq_true (by kernel_rfl)) k0 bel lt0) (trodAll_cons_mk (Below.trod laidOut (by kernel_rfl) (of_decide_eq_true (by kernel_rfl)) k1 bel lt1) trodAll_mk0)), rfl, bel.frame _, fun h => by cases h⟩

theorem over : Rows.stockWeighsRow.holds Try.pinned (OpenSpec.ofChange Rows.stockWeighsSpec) :=
  OpenClaim.holds_of_wide 3 Try.f3 rfl rfl rfl rfl rfl rfl rfl ⟨rfl, rfl, rfl, rfl, rfl⟩ rfl rfl rfl rfl rfl (by kernel_rfl) Try.func3 (by kernel_rfl)
    (of_decide_eq_true (by kernel_rfl)) (by unfold Func.isWrapper; first | (rw [if_pos (by decide +kernel)]; kernel_rfl) | (rw [if_neg (by decide +kernel)]; exact ⟨rfl, rfl⟩))
    (fun os started H enc _ => lifted os started H enc)

theorem proved : Rows.StockWeighsSaid := over
#print axioms proved
end Go.Proofs.Ythnbaekbbeckjaa.stockWeighs
