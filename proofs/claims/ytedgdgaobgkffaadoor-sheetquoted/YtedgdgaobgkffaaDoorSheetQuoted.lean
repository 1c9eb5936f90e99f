/-
  SheetQuoted: the row, and its tied card.
-/
import Derived.Test.YtedgdgaobgkffaaDoorRows
import Derived.WalkKit
import Derived.ProofKit
import Derived.OpenShut
import Derived.RowKit
import Derived.ShutString
import Derived.ChangeOld
import Derived.Below
import Derived.Lay
import Derived.LaidLaws
import Derived.SizedLaws
import Derived.Test.YtedgdgaobgkffaaDoorTie
import Derived.Test.YtedgdgaobgkffaaDoorCards
import Derived.Test.YtedgdgaobgkffaaDoorLawSQu
import Derived.Test.YtedgdgaobgkffaaDoorSnt
namespace Go.Proofs.YtedgdgaobgkffaaDoor.sheetQuoted
open Go.ChangeShapes Go.WideShapes Go.ChangeAt Go.RowKit
open Go.ChangeMaps (open_string shut_string)
set_option linter.unusedVariables false

theorem own : ownKnob Tryd.prog.godebug = none := by kernel_rfl
theorem laidOut : laidOutB Tryd.prog = true := by kernel_rfl

theorem walk (a0 : ByteArray) (a1 : Int) (w : World) (w0 : a0.size ≤ maxLen) (s0 : a0.size ≤ 140737488355328) (w1 : (Lit.int .i64 a1).wf = true) (hL : laidMet Tryd.prog Rows.sheetQuotedRow.laid w) :
    Calls Tryd.prog 3 #[.string a0, .int .i64 a1] w fun e w' => e = .returned (.bool true) ∧ Below w.heap.size w w' := by
  obtain ⟨b20, e20⟩ := sent_of (text := tSh 20) hL (g := gSh 20) (by kernel_rfl) (by kernel_rfl)
  have t1 := hL.tail
  obtain ⟨b1, e1⟩ := sent_of (text := tSh 1) t1 (g := gSh 1) (by kernel_rfl) (by kernel_rfl)
  have t2 := t1.tail
  obtain ⟨b2, e2⟩ := sent_of (text := tSh 2) t2 (g := gSh 2) (by kernel_rfl) (by kernel_rfl)
  have t3 := t2.tail
  obtain ⟨b3, e3⟩ := sent_of (text := tSh 3) t3 (g := gSh 3) (by kernel_rfl) (by kernel_rfl)
  have t4 := t3.tail
  obtain ⟨b4, e4⟩ := sent_of (text := tSh 4) t4 (g := gSh 4) (by kernel_rfl) (by kernel_rfl)
  have t5 := t4.tail
  obtain ⟨b5, e5⟩ := sent_of (text := tSh 5) t5 (g := gSh 5) (by kernel_rfl) (by kernel_rfl)
  have t6 := t5.tail
  obtain ⟨b6, e6⟩ := sent_of (text := tSh 6) t6 (g := gSh 6) (by kernel_rfl) (by kernel_rfl)
  have t7 := t6.tail
  obtain ⟨b7, e7⟩ := sent_of (text := tSh 7) t7 (g := gSh 7) (by kernel_rfl) (by kernel_rfl)
  have t8 := t7.tail
  obtain ⟨b8, e8⟩ := sent_of (text := tSh 8) t8 (g := gSh 8) (by kernel_rfl) (by kernel_rfl)
  have t9 := t8.tail
  obtain ⟨b9, e9⟩ := sent_of (text := tSh 9) t9 (g := gSh 9) (by kernel_rfl) (by kernel_rfl)
  have hS : ∀ c, Cod c → SE w (gSh c) ((fun c : Nat => match c with | 1 => b1 | 2 => b2 | 3 => b3 | 4 => b4 | 5 => b5 | 6 => b6 | 7 => b7 | 8 => b8 | 9 => b9 | _ => b20) c) (tSh c) := by
    intro c hc
    rcases cod_cases hc with rfl | rfl | rfl | rfl | rfl | rfl | rfl | rfl | rfl | rfl
    · exact e1
    · exact e2
    · exact e3
    · exact e4
    · exact e5
    · exact e6
    · exact e7
    · exact e8
    · exact e9
    · exact e20
  exact quoted_law _ a0 a1 w (he_of hS) (apt_of hS) s0 (by have := bounds_i64 w1; exact ⟨this.1, by omega⟩)

set_option maxRecDepth 100000 in
theorem lifted (os : Os) (started : os.Started) (H : Type) (enc : TypeId × Value → H) :
    ReturnsInHanded {} Tryd.checked os 3 .any (fun w args => (Rows.sheetQuotedSpec.pre enc Tryd.prog Tryd.f3 [] false w args ∧ laidMetH Tryd.prog Rows.sheetQuotedRow.laid w) ∧ sizedMet enc Tryd.prog Tryd.f3 (OpenSpec.ofChange Rows.sheetQuotedSpec) false w args)
      (Rows.sheetQuotedSpec.post enc Tryd.prog Tryd.f3 false true false false) := by
  refine returnsInHanded_of_change_and (C := Tryd.checked) (X := fun w _ => laidMetH Tryd.prog Rows.sheetQuotedRow.laid w) (fun _ _ _ hh h => h.of_heap hh) own started (by kernel_rfl) Tryd.func3
    (ChangeSpec.witness_shaped (enc := enc) (C := Tryd.checked) (os := os) (X := fun w _ => laidMetH Tryd.prog Rows.sheetQuotedRow.laid w) false (World.laidAll Tryd.prog os Rows.sheetQuotedRow.laid) #[.string ByteArray.empty, .int .i64 0] 8 (World.laidAll_os _ _ _)
      (World.shaped_of_ZipB (by kernel_rfl) (by kernel_rfl)) (by kernel_rfl) (by kernel_rfl) (by kernel_rfl)
      (by rw [MakeChecks.laidMetH_plain _ _ _ (by kernel_rfl)]; exact laidMet_laidAll _ (by kernel_rfl) (by kernel_rfl))) ?_
  intro W base args ds gs before hval0 hW _ hsz0 hL0 _
  have hL := hL0
  rw [MakeChecks.laidMetH_plain _ _ _ (by kernel_rfl)] at hL
  clear hL0
  have hval : ∀ (j : Nat) t v, Tryd.f3.params[j]? = some t → args[j]? = some v → Value.okWide Tryd.prog W .any base t v := hval0
  have hW' := hW
  obtain ⟨p, q, hA0, hV, rfl, hfz, hnd⟩ := hW
  have hA : DataW.TrodAll enc Tryd.prog W 0 (fun _ => true) true Tryd.f3.params.toList args.toList ds p := hA0
  rw [Tryd.params3] at hA hval
  obtain ⟨v0, vs0, d0, ds0, p0, q0, hargs, rfl, rfl, h0, r0⟩ := trodAll_cons hA
  obtain ⟨v1, vs1, d1, ds1, p1, q1, rfl, rfl, rfl, h1, r1⟩ := trodAll_cons r0
  obtain ⟨rfl, rfl, rfl⟩ := trodAll_nil r1
  obtain rfl : args = #[v0, v1] := by cases args; simp_all
  obtain ⟨rfl, rfl⟩ := trodVars_none hV
  obtain ⟨a0, rfl, rfl, rfl, w0⟩ := open_string Tryd.underlying9 (hval 0 9 v0 rfl rfl) h0
  obtain ⟨a1, rfl, rfl, rfl, w1⟩ := open_int Tryd.underlying3 (hval 1 3 v1 rfl rfl) h1
  have s0 : a0.size ≤ 140737488355328 := by
    have h := sized_string hsz0 (j := 0) rfl rfl
    rw [Array.length_toList] at h
    exact Nat.le_trans h (by decide)
  clear hA0 hval0
  refine (walk a0 a1 W w0 s0 w1 hL).mono fun e W' ⟨he, bel⟩ => ?_
  subst he
  exact ⟨_, rfl, _, _, _, [], _, [], hW', trodAll_mk1 (shut_bool Tryd.underlying4 _), (trodAll_cons_mk (shut_string Tryd.underlying9 w0) (trodAll_cons_mk (shut_int Tryd.underlying3 w1) trodAll_mk0)), rfl, bel.frame _, fun h => by cases h⟩

theorem over : Rows.sheetQuotedRow.holds Tryd.pinned (OpenSpec.ofChange Rows.sheetQuotedSpec) :=
  OpenClaim.holds_of_wide 3 Tryd.f3 rfl rfl rfl rfl rfl rfl rfl ⟨rfl, rfl, rfl, rfl, rfl⟩ rfl rfl rfl rfl rfl (by kernel_rfl) Tryd.func3 (by kernel_rfl)
    (of_decide_eq_true (by kernel_rfl)) (by unfold Func.isWrapper; first | (rw [if_pos (by decide +kernel)]; kernel_rfl) | (rw [if_neg (by decide +kernel)]; exact ⟨rfl, rfl⟩))
    (fun os started H enc _ => lifted os started H enc)

theorem card : Rows.SheetQuotedCardSaid :=
  Claim7.holds_tied_plain_at .later [] [.sentinel, .sentinel, .sentinel, .sentinel, .sentinel, .sentinel, .sentinel, .sentinel, .sentinel, .sentinel] true (true, "2903e882f2efcb4a85be01012602042fbfaaa5e7e632478b1de6c58e47498600") true over (fun _ h => by cases h) (by kernel_rfl) (fun _ h => by cases h) sheetQuoted_row_tie rfl ⟨rfl, rfl⟩ (by kernel_rfl) rfl
    (fun f fn hf hfn => by
      obtain rfl : f = 3 := Option.some.inj ((show Tryd.prog.funcNamed Rows.sheetQuotedRow.func = some 3 by kernel_rfl).symm.trans hf) |>.symm
      obtain rfl : fn = Tryd.f3 := (Option.some.inj (Tryd.func3.symm.trans hfn)).symm
      exact ⟨by kernel_rfl, fun j t ht => by
        rw [Tryd.params3] at ht
        have hm : t ∈ ([9, 3] : List TypeId) := by simpa using Array.mem_of_getElem? ht
        have hall : (([9, 3] : List TypeId).all fun u => !Tryd.prog.wantsStandIn u) = true := by kernel_rfl
        exact (show Tryd.prog.wantsStandIn t = false by simpa using List.all_eq_true.1 hall t hm)⟩)
    (by kernel_rfl)
#print axioms card
end Go.Proofs.YtedgdgaobgkffaaDoor.sheetQuoted
