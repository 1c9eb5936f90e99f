/-
  CodecCut: the row, where what comes in is of small bulk.
-/
import Derived.Test.YtfhicemfhkhjaaaRows
import Derived.WalkKit
import Derived.ProofKit
import Derived.OpenShut
import Derived.ShutString
import Derived.ChangeOld
import Derived.Below
import Derived.SizedLaws
import Derived.JoinedCond
import Derived.Test.YtfhicemfhkhjaaaLawCCu
namespace Go.Proofs.Ytfhicemfhkhjaaa.codecCut
open Go.ChangeShapes Go.WideShapes Go.ChangeAt Go.RowKit
open Go.ChangeMaps (open_string shut_string)
set_option linter.unusedVariables false

theorem own : ownKnob Try.prog.godebug = none := by kernel_rfl
theorem laidOut : laidOutB Try.prog = true := by kernel_rfl

theorem walk (a0 : Int) (r1 : Rq) (o1 : Option Addr) (c1 : Nat) (r2 : Ry) (o2 : Option Addr) (c2 : Nat) (a3 : Int) (r4 : Sx) (oa4 : Option Addr) (ca4 : Nat) (ob4 : Option Addr) (cb4 : Nat) (oc4 : Option Addr) (cc4 : Nat) (a5 : Int) (v6 : Value) (l6 : List UInt8) (w : World) (w0 : (Lit.int .i64 a0).wf = true) (w1 : RLn w (.slice o1 r1.lines.length c1) r1.lines) (x1 : -9223372036854775808 ≤ r1.kind ∧ r1.kind ≤ 9223372036854775807) (y1 : -9223372036854775808 ≤ r1.ttl ∧ r1.ttl ≤ 9223372036854775807) (z1 : -9223372036854775808 ≤ r1.now ∧ r1.now ≤ 9223372036854775807) (u1 : ∀ i (h : i < r1.lines.length), -9223372036854775808 ≤ r1.lines[i].2 ∧ r1.lines[i].2 ≤ 9223372036854775807) (s1 : r1.id.size + r1.hold.size + wl r1.lines + r1.lines.length ≤ 1048576) (w2 : RLv w (.slice o2 r2.levels.length c2) r2.levels) (x2 : (-9223372036854775808 ≤ r2.err ∧ r2.err ≤ 9223372036854775807)) (y2 : (-9223372036854775808 ≤ r2.line ∧ r2.line ≤ 9223372036854775807)) (z2 : (-9223372036854775808 ≤ r2.now ∧ r2.now ≤ 9223372036854775807)) (u2 : ∀ i (h : i < r2.levels.length), (-9223372036854775808 ≤ r2.levels[i].2.1 ∧ r2.levels[i].2.1 ≤ 9223372036854775807) ∧ (-9223372036854775808 ≤ r2.levels[i].2.2 ∧ r2.levels[i].2.2 ≤ 9223372036854775807)) (s2 : r2.id.size + wv r2.levels + r2.levels.length ≤ 1048576) (w3 : (Lit.int .i64 a3).wf = true) (w4 : RLv w (.slice oa4 r4.levels.length ca4) r4.levels) (x4 : RHl w ob4 r4.holds) (y4 : RDn w oc4 r4.done) (z4 : SxI r4) (s4 : wst r4 ≤ 1048576) (w5 : (Lit.int .i64 a5).wf = true) (w6 : Reads w v6 l6) (s6 : l6.length ≤ 1048576) :
    Calls Try.prog 4 #[.int .i64 a0, rqV r1 o1 c1, rpV r2 o2 c2, .int .i64 a3, sxV r4 oa4 ca4 ob4 cb4 oc4 cc4, .int .i64 a5, v6] w fun e w' => e = .returned (.bool true) ∧ Below w.heap.size w w' := by
  have b3 := bounds_i64 w3
  have hl1 := wl_len2 r1.lines
  have hl2 := wv_len r2.levels
  have hk : LnOk r1.lines := fun i hi => by
    refine ⟨?_, u1 i hi⟩
    have h1 := wl_take r1.lines i hi
    have h2 := wl_le r1.lines (i + 1)
    omega
  have hv : LvOk r2.levels := fun i hi => by
    refine ⟨?_, u2 i hi⟩
    have h1 := wv_take r2.levels i hi
    have h2 := wv_le r2.levels (i + 1)
    omega
  have hT := sx_t z4 s4
  have hv4 : LvOk r4.levels := fun i hi => by
    have := hT.levels.2 _ (List.getElem_mem hi)
    exact ⟨by omega, this.2.1, this.2.2⟩
  have hb4 := hT.levels.1
  have hb5 := hT.holds.1
  have hb6 := hT.done.1
  exact codecCut_any a0 r1 o1 c1 r2 o2 c2 a3 r4 oa4 ca4 ob4 cb4 oc4 cc4 a5 v6 l6 w
    ⟨⟨⟨by omega, by omega, by omega⟩, x1, y1, z1⟩, w1.ll hk, ⟨⟨by omega, by omega⟩, x2, y2, z2⟩, w2.lv hv, ⟨b3.1, by omega⟩, ⟨hT.room, hT.lsn, hT.now, by omega, by omega, by omega⟩, w4.lv hv4, x4.hls (by omega) hT.holds.2, y4.dls (by omega) hT.done.2⟩
    w1 w2 w4 x4 y4 ⟨⟨x1, y1, z1, u1⟩, ⟨x2, y2, z2, u2⟩, ⟨b3.1, by omega⟩, z4⟩ ⟨by omega, by omega, s4⟩ w6 (by omega)

set_option maxRecDepth 100000 in
theorem contract (H : Type) (enc : TypeId × Value → H) (W : World) (base : Nat) (args : Array Value) (ds gs : List (DataW H)) (before : List MemPlace)
    (hval : ∀ (j : Nat) t v, Try.f4.params[j]? = some t → args[j]? = some v → Value.okWide Try.prog W .any base t v)
    (hW : DataW.Whole enc Try.prog Try.f4.params.toList Rows.codecCutSpec.vars false W args.toList ds gs before) (hk : Rows.uptoSmall H (ds ++ gs) = true) :
    Calls Try.prog 4 args W fun e W' => ∃ v, e = .returned v ∧ Rows.codecCutSpec.post enc Try.prog Try.f4 false true false false W args v W' := by
  have hW' := hW
  obtain ⟨p, q, hA0, hV, rfl, hfz, hnd⟩ := hW
  have hA : DataW.TrodAll enc Try.prog W 0 (fun _ => true) true Try.f4.params.toList args.toList ds p := hA0
  rw [Try.params4] at hA hval
  obtain ⟨v0, vs0, d0, ds0, p0, q0, hargs, rfl, rfl, h0, r0'⟩ := trodAll_cons hA
  obtain ⟨v1, vs1, d1, ds1, p1, q1, rfl, rfl, rfl, h1, r1'⟩ := trodAll_cons r0'
  obtain ⟨v2, vs2, d2, ds2, p2, q2, rfl, rfl, rfl, h2, r2'⟩ := trodAll_cons r1'
  obtain ⟨v3, vs3, d3, ds3, p3, q3, rfl, rfl, rfl, h3, r3'⟩ := trodAll_cons r2'
  obtain ⟨v4, vs4, d4, ds4, p4, q4, rfl, rfl, rfl, h4, r4'⟩ := trodAll_cons r3'
  obtain ⟨v5, vs5, d5, ds5, p5, q5, rfl, rfl, rfl, h5, r5'⟩ := trodAll_cons r4'
  obtain ⟨v6, vs6, d6, ds6, p6, q6, rfl, rfl, rfl, h6, r6'⟩ := trodAll_cons r5'
  obtain ⟨rfl, rfl, rfl⟩ := trodAll_nil r6'
  obtain rfl : args = #[v0, v1, v2, v3, v4, v5, v6] := by cases args; simp_all
  obtain ⟨rfl, rfl⟩ := trodVars_none hV
  have hB : Rows.uptoBulkAll _ ≤ 1048576 := of_decide_eq_true hk
  simp only [List.append_nil, Rows.uptoBulkAll, Nat.add_zero] at hB
  obtain ⟨a0, rfl, rfl, rfl, w0⟩ := open_int Try.underlying3 (hval 0 3 v0 rfl rfl) h0
  have k1 := h1
  have lt1 : ∀ x ∈ p1, x.block < W.heap.size := by obtain ⟨m, hm⟩ := k1; exact DataW.trod_lt m _ _ _ hm
  obtain ⟨r1, o1, c1, rfl, w1, x1, y1, z1, u1, s1⟩ := request_open (hval 1 28 v1 rfl rfl) h1
  have k2 := h2
  have lt2 : ∀ x ∈ p2, x.block < W.heap.size := by obtain ⟨m, hm⟩ := k2; exact DataW.trod_lt m _ _ _ hm
  obtain ⟨r2, o2, c2, rfl, w2, x2, y2, z2, u2, s2⟩ := reply_open (hval 2 32 v2 rfl rfl) h2
  obtain ⟨a3, rfl, rfl, rfl, w3⟩ := open_int Try.underlying3 (hval 3 3 v3 rfl rfl) h3
  have k4 := h4
  have lt4 : ∀ x ∈ p4, x.block < W.heap.size := by obtain ⟨m, hm⟩ := k4; exact DataW.trod_lt m _ _ _ hm
  obtain ⟨r4, oa4, ca4, ob4, cb4, oc4, cc4, rfl, w4, x4, y4, z4, s4⟩ := state_open (hval 4 36 v4 rfl rfl) h4
  obtain ⟨a5, rfl, rfl, rfl, w5⟩ := open_int Try.underlying3 (hval 5 3 v5 rfl rfl) h5
  obtain ⟨c6, e6, m6, rfl⟩ := okWide_slice Try.underlying22 (hval 6 22 v6 rfl rfl)
  have k6 := h6
  have lt6 : ∀ x ∈ p6, x.block < W.heap.size := by obtain ⟨m, hm⟩ := k6; exact DataW.trod_lt m _ _ _ hm
  obtain ⟨l6, w6, s6⟩ := bytes_open ⟨_, _, _, rfl⟩ h6
  clear hA0
  refine (walk a0 r1 o1 c1 r2 o2 c2 a3 r4 oa4 ca4 ob4 cb4 oc4 cc4 a5 _ l6 W w0 w1 x1 y1 z1 u1 (by omega) w2 x2 y2 z2 u2 (by omega) w3 w4 x4 y4 z4 (by omega) w5 w6 (by omega)).mono fun e W' ⟨he, bel⟩ => ?_
  subst he
  exact ⟨_, rfl, _, _, _, [], _, [], hW', trodAll_mk1 (shut_bool Try.underlying4 _), (trodAll_cons_mk (shut_int Try.underlying3 w0) (trodAll_cons_mk (Below.trod laidOut (by kernel_rfl) (of_decide_eq_true (by kernel_rfl)) k1 bel lt1) (trodAll_cons_mk (Below.trod laidOut (by kernel_rfl) (of_decide_eq_true (by kernel_rfl)) k2 bel lt2) (trodAll_cons_mk (shut_int Try.underlying3 w3) (trodAll_cons_mk (Below.trod laidOut (by kernel_rfl) (of_decide_eq_true (by kernel_rfl)) k4 bel lt4) (trodAll_cons_mk (shut_int Try.underlying3 w5) (trodAll_cons_mk (Below.trod laidOut (by kernel_rfl) (of_decide_eq_true (by kernel_rfl)) k6 bel lt6) trodAll_mk0))))))), rfl, bel.frame _, fun h => by cases h⟩

set_option maxRecDepth 100000 in
theorem lifted (os : Os) (started : os.Started) (H : Type) (enc : TypeId × Value → H) (F : Stop.Interp) :
    ReturnsInHanded {} Try.checked os 4 .any ((Rows.OpenSpec.upto Rows.codecCutSpec).pre6 enc Try.prog Try.f4 Rows.codecCutUptoRow.domain false) (((Rows.OpenSpec.upto Rows.codecCutSpec).at F).post enc Try.prog Try.f4 false true false false) := by
  refine returnsInHanded_of_cond (C := Try.checked) (s := Rows.OpenSpec.upto Rows.codecCutSpec) (k := Rows.uptoSmall) rfl own started (by kernel_rfl) Try.func4
    (OpenSpec.witness (enc := enc) (C := Try.checked) (s := Rows.OpenSpec.upto Rows.codecCutSpec) (k := Rows.uptoSmall) rfl false ⟨#[], #[.int .i64 0, .agg #[.string ByteArray.empty, .int .i64 0, .slice none 0 0, .string ByteArray.empty, .int .i64 0, .int .i64 0], .agg #[.string ByteArray.empty, .int .i64 0, .int .i64 0, .slice none 0 0, .int .i64 0], .int .i64 0, .agg #[.int .i64 0, .int .i64 0, .int .i64 0, .slice none 0 0, .slice none 0 0, .slice none 0 0], .int .i64 0, .slice none 0 0], []⟩ 8 (by kernel_rfl) (by kernel_rfl) (by kernel_rfl)
      (x := ([.lit (.int .i64 0), .agg [.lit (.string []), .lit (.int .i64 0), .nil, .lit (.string []), .lit (.int .i64 0), .lit (.int .i64 0)], .agg [.lit (.string []), .lit (.int .i64 0), .lit (.int .i64 0), .nil, .lit (.int .i64 0)], .lit (.int .i64 0), .agg [.lit (.int .i64 0), .lit (.int .i64 0), .lit (.int .i64 0), .nil, .nil, .nil], .lit (.int .i64 0), .nil], [], [])) (by kernel_rfl) rfl (by kernel_rfl)) ?_
  intro W base args ds gs before hval hW _ hk _
  exact contract H enc W base args ds gs before hval hW hk

theorem proved : Rows.CodecCutUptoSaid :=
  OpenClaim.holds_of_cond 4 Try.f4 rfl rfl rfl rfl rfl rfl rfl ⟨rfl, rfl, rfl, rfl, rfl⟩ rfl rfl rfl rfl rfl (by kernel_rfl) Try.func4 (by kernel_rfl)
    (of_decide_eq_true (by kernel_rfl)) (by unfold Func.isWrapper; first | (rw [if_pos (by decide +kernel)]; kernel_rfl) | (rw [if_neg (by decide +kernel)]; exact ⟨rfl, rfl⟩))
    (fun os started H enc _ F => lifted os started H enc F)
#print axioms proved
end Go.Proofs.Ytfhicemfhkhjaaa.codecCut
