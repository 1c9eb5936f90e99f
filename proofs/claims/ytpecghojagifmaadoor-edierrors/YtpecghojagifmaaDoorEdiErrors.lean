/-
  EdiErrors: the row, and its tied card.
-/
import Derived.Test.YtpecghojagifmaaDoorRows
import Derived.WalkKit
import Derived.ProofKit
import Derived.OpenShut
import Derived.RowKit
import Derived.ShutString
import Derived.ChangeOld
import Derived.Below
import Derived.Lay
import Derived.LaidLaws
import Derived.Test.YtpecghojagifmaaDoorTie
import Derived.Test.YtpecghojagifmaaDoorCards
import Derived.Test.YtpecghojagifmaaDoorLawErrs
namespace Go.Proofs.YtpecghojagifmaaDoor.ediErrors
open Go.ChangeShapes Go.WideShapes Go.ChangeAt Go.RowKit
open Go.ChangeMaps (open_string shut_string)
set_option linter.unusedVariables false

theorem own : ownKnob Tryd.prog.godebug = none := by kernel_rfl
theorem laidOut : laidOutB Tryd.prog = true := by kernel_rfl

theorem walk  (w : World)  (hL : laidMet Tryd.prog Rows.ediErrorsRow.laid w) :
    Calls Tryd.prog 3 #[] w fun e w' => e = .returned (.bool true) ∧ Below w.heap.size w w' := by
  have h3 := hL.tail.tail.tail
  obtain ⟨a1, e1⟩ := sent_of (text := tS 1) h3 (g := gS 1) (by kernel_rfl) (by kernel_rfl)
  have t1 := h3.tail
  obtain ⟨a2, e2⟩ := sent_of (text := tS 2) t1 (g := gS 2) (by kernel_rfl) (by kernel_rfl)
  have t2 := t1.tail
  obtain ⟨a3, e3⟩ := sent_of (text := tS 3) t2 (g := gS 3) (by kernel_rfl) (by kernel_rfl)
  have t3 := t2.tail
  obtain ⟨a4, e4⟩ := sent_of (text := tS 4) t3 (g := gS 4) (by kernel_rfl) (by kernel_rfl)
  have t4 := t3.tail
  obtain ⟨a5, e5⟩ := sent_of (text := tS 5) t4 (g := gS 5) (by kernel_rfl) (by kernel_rfl)
  have t5 := t4.tail
  obtain ⟨a6, e6⟩ := sent_of (text := tS 6) t5 (g := gS 6) (by kernel_rfl) (by kernel_rfl)
  have t6 := t5.tail
  obtain ⟨a7, e7⟩ := sent_of (text := tS 7) t6 (g := gS 7) (by kernel_rfl) (by kernel_rfl)
  have t7 := t6.tail
  obtain ⟨a8, e8⟩ := sent_of (text := tS 8) t7 (g := gS 8) (by kernel_rfl) (by kernel_rfl)
  have t8 := t7.tail
  obtain ⟨a9, e9⟩ := sent_of (text := tS 9) t8 (g := gS 9) (by kernel_rfl) (by kernel_rfl)
  have t9 := t8.tail
  obtain ⟨a10, e10⟩ := sent_of (text := tS 10) t9 (g := gS 10) (by kernel_rfl) (by kernel_rfl)
  have t10 := t9.tail
  obtain ⟨a11, e11⟩ := sent_of (text := tS 11) t10 (g := gS 11) (by kernel_rfl) (by kernel_rfl)
  have t11 := t10.tail
  refine errs_any w (fun c => match c with | 1 => a1 | 2 => a2 | 3 => a3 | 4 => a4 | 5 => a5 | 6 => a6 | 7 => a7 | 8 => a8 | 9 => a9 | 10 => a10 | _ => a11) ?_
  intro c h1 h2
  have hv : c = 1 ∨ c = 2 ∨ c = 3 ∨ c = 4 ∨ c = 5 ∨ c = 6 ∨ c = 7 ∨ c = 8 ∨ c = 9 ∨ c = 10 ∨ c = 11 := by omega
  rcases hv with rfl | rfl | rfl | rfl | rfl | rfl | rfl | rfl | rfl | rfl | rfl
  · exact e1
  · exact e2
  · exact e3
  · exact e4
  · exact e5
  · exact e6
  · exact e7
  · exact e8
  · exact e9
  · exact e10
  · exact e11

set_option maxRecDepth 100000 in
theorem lifted (os : Os) (started : os.Started) (H : Type) (enc : TypeId × Value → H) :
    ReturnsInHanded {} Tryd.checked os 3 .any (fun w args => (Rows.ediErrorsSpec.pre enc Tryd.prog Tryd.f3 [] false w args ∧ laidMetH Tryd.prog Rows.ediErrorsRow.laid w) ∧ sizedMet enc Tryd.prog Tryd.f3 (OpenSpec.ofChange Rows.ediErrorsSpec) false w args)
      (Rows.ediErrorsSpec.post enc Tryd.prog Tryd.f3 false true false false) := by
  refine returnsInHanded_of_change_and (C := Tryd.checked) (X := fun w _ => laidMetH Tryd.prog Rows.ediErrorsRow.laid w) (fun _ _ _ hh h => h.of_heap hh) own started (by kernel_rfl) Tryd.func3
    (ChangeSpec.witness_shaped (enc := enc) (C := Tryd.checked) (os := os) (X := fun w _ => laidMetH Tryd.prog Rows.ediErrorsRow.laid w) false (World.laidAll Tryd.prog os Rows.ediErrorsRow.laid) #[] 8 (World.laidAll_os _ _ _)
      (World.shaped_of_ZipB (by kernel_rfl) (by kernel_rfl)) (by kernel_rfl) (by kernel_rfl) (by kernel_rfl)
      (by rw [MakeChecks.laidMetH_plain _ _ _ (by kernel_rfl)]; exact laidMet_laidAll _ (by kernel_rfl) (by kernel_rfl))) ?_
  intro W base args ds gs before hval0 hW _ _ hL0 _
  have hL := hL0
  rw [MakeChecks.laidMetH_plain _ _ _ (by kernel_rfl)] at hL
  clear hL0
  have hval : ∀ (j : Nat) t v, Tryd.f3.params[j]? = some t → args[j]? = some v → Value.okWide Tryd.prog W .any base t v := hval0
  have hW' := hW
  obtain ⟨p, q, hA0, hV, rfl, hfz, hnd⟩ := hW
  have hA : DataW.TrodAll enc Tryd.prog W 0 (fun _ => true) true Tryd.f3.params.toList args.toList ds p := hA0
  rw [Tryd.params3] at hA hval
  obtain ⟨hargs, rfl, rfl⟩ := trodAll_nil hA
  obtain rfl : args = #[] := by cases args; simp_all
  obtain ⟨rfl, rfl⟩ := trodVars_none hV
  clear hA0 hval0
  refine (walk  W  hL).mono fun e W' ⟨he, bel⟩ => ?_
  subst he
  exact ⟨_, rfl, _, _, _, [], _, [], hW', trodAll_mk1 (shut_bool Tryd.underlying4 _), trodAll_mk0, rfl, bel.frame _, fun h => by cases h⟩

theorem over : Rows.ediErrorsRow.holds Tryd.pinned (OpenSpec.ofChange Rows.ediErrorsSpec) :=
  OpenClaim.holds_of_wide 3 Tryd.f3 rfl rfl rfl rfl rfl rfl rfl ⟨rfl, rfl, rfl, rfl, rfl⟩ rfl rfl rfl rfl rfl (by kernel_rfl) Tryd.func3 (by kernel_rfl)
    (of_decide_eq_true (by kernel_rfl)) (by unfold Func.isWrapper; first | (rw [if_pos (by decide +kernel)]; kernel_rfl) | (rw [if_neg (by decide +kernel)]; exact ⟨rfl, rfl⟩))
    (fun os started H enc _ => lifted os started H enc)

theorem card : Rows.EdiErrorsCardSaid :=
  Claim7.holds_tied_plain_at .later [] [.data, .data, .data, .sentinel, .sentinel, .sentinel, .sentinel, .sentinel, .sentinel, .sentinel, .sentinel, .sentinel, .sentinel, .sentinel] true (true, "3884843c4baca0da2090341270303d149deff9ed1325050081c7eabfe59794a9") true over (fun _ h => by cases h) (by kernel_rfl) (fun _ h => by cases h) ediErrors_row_tie rfl ⟨rfl, rfl⟩ (by kernel_rfl) rfl
    (fun f fn hf hfn => by
      obtain rfl : f = 3 := Option.some.inj ((show Tryd.prog.funcNamed Rows.ediErrorsRow.func = some 3 by kernel_rfl).symm.trans hf) |>.symm
      obtain rfl : fn = Tryd.f3 := (Option.some.inj (Tryd.func3.symm.trans hfn)).symm
      exact ⟨by kernel_rfl, fun j t ht => by
        rw [Tryd.params3] at ht
        have hm : t ∈ ([] : List TypeId) := by simpa using Array.mem_of_getElem? ht
        have hall : (([] : List TypeId).all fun u => !Tryd.prog.wantsStandIn u) = true := by kernel_rfl
        exact (show Tryd.prog.wantsStandIn t = false by simpa using List.all_eq_true.1 hall t hm)⟩)
    (by kernel_rfl)
#print axioms card
end Go.Proofs.YtpecghojagifmaaDoor.ediErrors
