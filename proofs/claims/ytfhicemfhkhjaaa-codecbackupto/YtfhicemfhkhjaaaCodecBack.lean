/-
  CodecBack: the row, where what comes in is of small bulk.
-/
import Derived.Test.YtfhicemfhkhjaaaRows
import Derived.WalkKit
import Derived.ProofKit
import Derived.OpenShut
import Derived.ShutString
import Derived.ChangeOld
import Derived.Below
import Derived.SizedLaws
import Derived.JoinedCond
import Derived.Test.YtfhicemfhkhjaaaLawCBk
namespace Go.Proofs.Ytfhicemfhkhjaaa.codecBack
open Go.ChangeShapes Go.WideShapes Go.ChangeAt Go.RowKit
open Go.ChangeMaps (open_string shut_string)
set_option linter.unusedVariables false

theorem own : ownKnob Try.prog.godebug = none := by kernel_rfl
theorem laidOut : laidOutB Try.prog = true := by kernel_rfl

theorem walk (r0 : Rq) (o0 : Option Addr) (c0 : Nat) (r1 : Ry) (o1 : Option Addr) (c1 : Nat) (a2 : Int) (r3 : Sx) (oa3 : Option Addr) (ca3 : Nat) (ob3 : Option Addr) (cb3 : Nat) (oc3 : Option Addr) (cc3 : Nat) (w : World) (w0 : RLn w (.slice o0 r0.lines.length c0) r0.lines) (x0 : -9223372036854775808 ≤ r0.kind ∧ r0.kind ≤ 9223372036854775807) (y0 : -9223372036854775808 ≤ r0.ttl ∧ r0.ttl ≤ 9223372036854775807) (z0 : -9223372036854775808 ≤ r0.now ∧ r0.now ≤ 9223372036854775807) (u0 : ∀ i (h : i < r0.lines.length), -9223372036854775808 ≤ r0.lines[i].2 ∧ r0.lines[i].2 ≤ 9223372036854775807) (s0 : r0.id.size + r0.hold.size + wl r0.lines + r0.lines.length ≤ 1048576) (w1 : RLv w (.slice o1 r1.levels.length c1) r1.levels) (x1 : (-9223372036854775808 ≤ r1.err ∧ r1.err ≤ 9223372036854775807)) (y1 : (-9223372036854775808 ≤ r1.line ∧ r1.line ≤ 9223372036854775807)) (z1 : (-9223372036854775808 ≤ r1.now ∧ r1.now ≤ 9223372036854775807)) (u1 : ∀ i (h : i < r1.levels.length), (-9223372036854775808 ≤ r1.levels[i].2.1 ∧ r1.levels[i].2.1 ≤ 9223372036854775807) ∧ (-9223372036854775808 ≤ r1.levels[i].2.2 ∧ r1.levels[i].2.2 ≤ 9223372036854775807)) (s1 : r1.id.size + wv r1.levels + r1.levels.length ≤ 1048576) (w2 : (Lit.int .i64 a2).wf = true) (w3 : RLv w (.slice oa3 r3.levels.length ca3) r3.levels) (x3 : RHl w ob3 r3.holds) (y3 : RDn w oc3 r3.done) (z3 : SxI r3) (s3 : wst r3 ≤ 1048576) :
    Calls Try.prog 5 #[rqV r0 o0 c0, rpV r1 o1 c1, .int .i64 a2, sxV r3 oa3 ca3 ob3 cb3 oc3 cc3] w fun e w' => e = .returned (.bool true) ∧ Below w.heap.size w w' := by
  have b2 := bounds_i64 w2
  have hl1 := wl_len2 r0.lines
  have hl2 := wv_len r1.levels
  have hk : LnOk r0.lines := fun i hi => by
    refine ⟨?_, u0 i hi⟩
    have h1 := wl_take r0.lines i hi
    have h2 := wl_le r0.lines (i + 1)
    omega
  have hv : LvOk r1.levels := fun i hi => by
    refine ⟨?_, u1 i hi⟩
    have h1 := wv_take r1.levels i hi
    have h2 := wv_le r1.levels (i + 1)
    omega
  have hT := sx_t z3 s3
  have hv3 : LvOk r3.levels := fun i hi => by
    have := hT.levels.2 _ (List.getElem_mem hi)
    exact ⟨by omega, this.2.1, this.2.2⟩
  have hb4 := hT.levels.1
  have hb5 := hT.holds.1
  have hb6 := hT.done.1
  exact codecBack_any r0 o0 c0 r1 o1 c1 a2 r3 oa3 ca3 ob3 cb3 oc3 cc3 w
    ⟨⟨⟨by omega, by omega, by omega⟩, x0, y0, z0⟩, w0.ll hk, ⟨⟨by omega, by omega⟩, x1, y1, z1⟩, w1.lv hv, ⟨b2.1, by omega⟩, ⟨hT.room, hT.lsn, hT.now, by omega, by omega, by omega⟩, w3.lv hv3, x3.hls (by omega) hT.holds.2, y3.dls (by omega) hT.done.2⟩
    w0 w1 w3 x3 y3 ⟨⟨x0, y0, z0, u0⟩, ⟨x1, y1, z1, u1⟩, ⟨b2.1, by omega⟩, z3⟩ ⟨by omega, by omega, s3⟩

set_option maxRecDepth 100000 in
theorem contract (H : Type) (enc : TypeId × Value → H) (W : World) (base : Nat) (args : Array Value) (ds gs : List (DataW H)) (before : List MemPlace)
    (hval : ∀ (j : Nat) t v, Try.f5.params[j]? = some t → args[j]? = some v → Value.okWide Try.prog W .any base t v)
    (hW : DataW.Whole enc Try.prog Try.f5.params.toList Rows.codecBackSpec.vars false W args.toList ds gs before) (hk : Rows.uptoSmall H (ds ++ gs) = true) :
    Calls Try.prog 5 args W fun e W' => ∃ v, e = .returned v ∧ Rows.codecBackSpec.post enc Try.prog Try.f5 false true false false W args v W' := by
  have hW' := hW
  obtain ⟨p, q, hA0, hV, rfl, hfz, hnd⟩ := hW
  have hA : DataW.TrodAll enc Try.prog W 0 (fun _ => true) true Try.f5.params.toList args.toList ds p := hA0
  rw [Try.params5] at hA hval
  obtain ⟨v0, vs0, d0, ds0, p0, q0, hargs, rfl, rfl, h0, r0'⟩ := trodAll_cons hA
  obtain ⟨v1, vs1, d1, ds1, p1, q1, rfl, rfl, rfl, h1, r1'⟩ := trodAll_cons r0'
  obtain ⟨v2, vs2, d2, ds2, p2, q2, rfl, rfl, rfl, h2, r2'⟩ := trodAll_cons r1'
  obtain ⟨v3, vs3, d3, ds3, p3, q3, rfl, rfl, rfl, h3, r3'⟩ := trodAll_cons r2'
  obtain ⟨rfl, rfl, rfl⟩ := trodAll_nil r3'
  obtain rfl : args = #[v0, v1, v2, v3] := by cases args; simp_all
  obtain ⟨rfl, rfl⟩ := trodVars_none hV
  have hB : Rows.uptoBulkAll _ ≤ 1048576 := of_decide_eq_true hk
  simp only [List.append_nil, Rows.uptoBulkAll, Nat.add_zero] at hB
  have k0 := h0
  have lt0 : ∀ x ∈ p0, x.block < W.heap.size := by obtain ⟨m, hm⟩ := k0; exact DataW.trod_lt m _ _ _ hm
  obtain ⟨r0, o0, c0, rfl, w0, x0, y0, z0, u0, s0⟩ := request_open (hval 0 28 v0 rfl rfl) h0
  have k1 := h1
  have lt1 : ∀ x ∈ p1, x.block < W.heap.size := by obtain ⟨m, hm⟩ := k1; exact DataW.trod_lt m _ _ _ hm
  obtain ⟨r1, o1, c1, rfl, w1, x1, y1, z1, u1, s1⟩ := reply_open (hval 1 32 v1 rfl rfl) h1
  obtain ⟨a2, rfl, rfl, rfl, w2⟩ := open_int Try.underlying3 (hval 2 3 v2 rfl rfl) h2
  have k3 := h3
  have lt3 : ∀ x ∈ p3, x.block < W.heap.size := by obtain ⟨m, hm⟩ := k3; exact DataW.trod_lt m _ _ _ hm
  obtain ⟨r3, oa3, ca3, ob3, cb3, oc3, cc3, rfl, w3, x3, y3, z3, s3⟩ := state_open (hval 3 36 v3 rfl rfl) h3
  clear hA0
  refine (walk r0 o0 c0 r1 o1 c1 a2 r3 oa3 ca3 ob3 cb3 oc3 cc3 W w0 x0 y0 z0 u0 (by omega) w1 x1 y1 z1 u1 (by omega) w2 w3 x3 y3 z3 (by omega)).mono fun e W' ⟨he, bel⟩ => ?_
  subst he
  exact ⟨_, rfl, _, _, _, [], _, [], hW', trodAll_mk1 (shut_bool Try.underlying4 _), (trodAll_cons_mk (Below.trod laidOut (by kernel_rfl) (of_decide_eq_true (by kernel_rfl)) k0 bel lt0) (trodAll_cons_mk (Below.trod laidOut (by kernel_rfl) (of_decide_eq_true (by kernel_rfl)) k1 bel lt1) (trodAll_cons_mk (shut_int Try.underlying3 w2) (trodAll_cons_mk (Below.trod laidOut (by kernel_rfl) (of_decide_eq_true (by kernel_rfl)) k3 bel lt3) trodAll_mk0)))), rfl, bel.frame _, fun h => by cases h⟩

set_option maxRecDepth 100000 in
theorem lifted (os : Os) (started : os.Started) (H : Type) (enc : TypeId × Value → H) (F : Stop.Interp) :
    ReturnsInHanded {} Try.checked os 5 .any ((Rows.OpenSpec.upto Rows.codecBackSpec).pre6 enc Try.prog Try.f5 Rows.codecBackUptoRow.domain false) (((Rows.OpenSpec.upto Rows.codecBackSpec).at F).post enc Try.prog Try.f5 false true false false) := by
  refine returnsInHanded_of_cond (C := Try.checked) (s := Rows.OpenSpec.upto Rows.codecBackSpec) (k := Rows.uptoSmall) rfl own started (by kernel_rfl) Try.func5
    (OpenSpec.witness (enc := enc) (C := Try.checked) (s := Rows.OpenSpec.upto Rows.codecBackSpec) (k := Rows.uptoSmall) rfl false ⟨#[], #[.agg #[.string ByteArray.empty, .int .i64 0, .slice none 0 0, .string ByteArray.empty, .int .i64 0, .int .i64 0], .agg #[.string ByteArray.empty, .int .i64 0, .int .i64 0, .slice none 0 0, .int .i64 0], .int .i64 0, .agg #[.int .i64 0, .int .i64 0, .int .i64 0, .slice none 0 0, .slice none 0 0, .slice none 0 0]], []⟩ 8 (by kernel_rfl) (by kernel_rfl) (by kernel_rfl)
      (x := ([.agg [.lit (.string []), .lit (.int .i64 0), .nil, .lit (.string []), .lit (.int .i64 0), .lit (.int .i64 0)], .agg [.lit (.string []), .lit (.int .i64 0), .lit (.int .i64 0), .nil, .lit (.int .i64 0)], .lit (.int .i64 0), .agg [.lit (.int .i64 0), .lit (.int .i64 0), .lit (.int .i64 0), .nil, .nil, .nil]], [], [])) (by kernel_rfl) rfl (by kernel_rfl)) ?_
  intro W base args ds gs before hval hW _ hk _
  exact contract H enc W base args ds gs before hval hW hk

theorem proved : Rows.CodecBackUptoSaid :=
  OpenClaim.holds_of_cond 5 Try.f5 rfl rfl rfl rfl rfl rfl rfl ⟨rfl, rfl, rfl, rfl, rfl⟩ rfl rfl rfl rfl rfl (by kernel_rfl) Try.func5 (by kernel_rfl)
    (of_decide_eq_true (by kernel_rfl)) (by unfold Func.isWrapper; first | (rw [if_pos (by decide +kernel)]; kernel_rfl) | (rw [if_neg (by decide +kernel)]; exact ⟨rfl, rfl⟩))
    (fun os started H enc _ F => lifted os started H enc F)
#print axioms proved
end Go.Proofs.Ytfhicemfhkhjaaa.codecBack
