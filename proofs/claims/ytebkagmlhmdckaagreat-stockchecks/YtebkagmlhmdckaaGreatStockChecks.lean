/-
  StockChecks: the row.
-/
import Derived.Test.YtebkagmlhmdckaaGreatRows
import Derived.WalkKit
import Derived.ProofKit
import Derived.OpenShut
import Derived.ShutString
import Derived.ChangeOld
import Derived.Below
import Derived.SizedLaws
import Derived.Test.YtebkagmlhmdckaaGreatCkl
import Derived.Test.YtebkagmlhmdckaaGreatKbS
namespace Go.Proofs.YtebkagmlhmdckaaGreat.stockChecks
open Go.ChangeShapes Go.WideShapes Go.ChangeAt Go.RowKit
open Go.ChangeMaps (open_string shut_string)
set_option linter.unusedVariables false

theorem own : ownKnob Tryz.prog.godebug = none := by kernel_rfl
theorem laidOut : laidOutB Tryz.prog = true := by kernel_rfl

theorem walk (rx0 : Rq) (o0 : Option Addr) (c0 : Nat) (w : World) (w0 : RLn w (.slice o0 rx0.lines.length c0) rx0.lines) (z0 : I64 rx0.kind ∧ I64 rx0.ttl ∧ I64 rx0.now ∧ ∀ i (h : i < rx0.lines.length), -9223372036854775808 ≤ rx0.lines[i].2 ∧ rx0.lines[i].2 ≤ 9223372036854775807) (u0 : rx0.id.size ≤ maxLen ∧ rx0.hold.size ≤ maxLen ∧ ∀ y ∈ rx0.lines, y.1.size ≤ maxLen) (s0 : rx0.lines.length * 24 ≤ reachBytes) :
    Calls Tryz.prog 3 #[rqV rx0 o0 c0] w fun e w' => e = .returned (.bool true) ∧ Below w.heap.size w w' := by
  have hr : reachBytes = 140737488351232 := rfl
  have hm : maxLen = 9223372036854775807 := rfl
  refine stockChecks_any rx0 o0 c0 w w0 (fun y hy => ?_) (by have := u0.1; omega) (by have := u0.2.1; omega) (fun y hy => ?_) (by omega)
  · have := u0.2.2 y hy
    omega
  · obtain ⟨i, hi, rfl⟩ := List.mem_iff_getElem.1 hy
    exact z0.2.2.2 i hi

set_option maxRecDepth 100000 in
theorem lifted (os : Os) (started : os.Started) (H : Type) (enc : TypeId × Value → H) :
    ReturnsInHanded {} Tryz.checked os 3 .any (Rows.stockChecksSpec.pre6 enc Tryz.prog Tryz.f3 Rows.stockChecksRow.domain false) (Rows.stockChecksSpec.post enc Tryz.prog Tryz.f3 false true false false) := by
  refine returnsInHanded_of_change_sized (C := Tryz.checked) own started (by kernel_rfl) Tryz.func3
    (ChangeSpec.witness6 (enc := enc) (C := Tryz.checked) false ⟨#[], #[.agg #[.string ByteArray.empty, .int .i64 0, .slice none 0 0, .string ByteArray.empty, .int .i64 0, .int .i64 0]], []⟩ 8 (by kernel_rfl) (by kernel_rfl) (by kernel_rfl) (by kernel_rfl)) ?_
  intro W base args ds gs before hval0 hW hcnd hsz0 _
  have hsz : (DataW.weightsEach Tryz.prog (Tryz.f3.params.toList ++ Rows.stockChecksSpec.plain.varTypes Tryz.prog) (ds ++ gs)).all (· ≤ reachBytes) = true := hsz0
  clear hsz0
  have hval : ∀ (j : Nat) t v, Tryz.f3.params[j]? = some t → args[j]? = some v → Value.okWide Tryz.prog W .any base t v := hval0
  have hW' := hW
  obtain ⟨p, q, hA0, hV, rfl, hfz, hnd⟩ := hW
  have hA : DataW.TrodAll enc Tryz.prog W 0 (fun _ => true) true Tryz.f3.params.toList args.toList ds p := hA0
  rw [Tryz.params3] at hA hval hsz
  obtain ⟨v0, vs0, d0, ds0, p0, q0, hargs, rfl, rfl, h0, r0⟩ := trodAll_cons hA
  obtain ⟨rfl, rfl, rfl⟩ := trodAll_nil r0
  obtain rfl : args = #[v0] := by cases args; simp_all
  obtain ⟨rfl, rfl⟩ := trodVars_none hV
  have k0 := h0
  have lt0 : ∀ x ∈ p0, x.block < W.heap.size := by obtain ⟨m, hm⟩ := k0; exact DataW.trod_lt m _ _ _ hm
  have n0 : ∀ n ∈ d0.weights Tryz.prog 24, n ≤ reachBytes := fun n hn => by have := List.all_eq_true.1 hsz _ (DataW.weights_mem_each (j := 0) rfl rfl n hn); simpa using this
  obtain ⟨rx0, o0, c0, rfl, w0, za0, zb0, zc0, zd0, u0, se0⟩ := request_wide (hval 0 24 v0 rfl rfl) h0
  have z0 := And.intro za0 (And.intro zb0 (And.intro zc0 zd0))
  have s0 := se0 n0
  clear hA0 hval0
  refine (walk rx0 o0 c0 W w0 z0 u0 s0).mono fun e W' ⟨he, bel⟩ => ?_
  subst he
  exact ⟨_, rfl, _, _, _, [], _, [], hW', trodAll_mk1 (shut_bool Tryz.underlying4 _), (trodAll_cons_mk (Below.trod laidOut (by kernel_rfl) (of_decide_eq_true (by kernel_rfl)) k0 bel lt0) trodAll_mk0), rfl, bel.frame _, fun h => by cases h⟩

theorem over : Rows.stockChecksRow.holds Tryz.pinned (OpenSpec.ofChange Rows.stockChecksSpec) :=
  OpenClaim.holds_of_wide 3 Tryz.f3 rfl rfl rfl rfl rfl rfl rfl ⟨rfl, rfl, rfl, rfl, rfl⟩ rfl rfl rfl rfl rfl (by kernel_rfl) Tryz.func3 (by kernel_rfl)
    (of_decide_eq_true (by kernel_rfl)) (by unfold Func.isWrapper; first | (rw [if_pos (by decide +kernel)]; kernel_rfl) | (rw [if_neg (by decide +kernel)]; exact ⟨rfl, rfl⟩))
    (fun os started H enc _ => lifted os started H enc)

theorem proved : Rows.StockChecksSaid := over
#print axioms proved
end Go.Proofs.YtebkagmlhmdckaaGreat.stockChecks
