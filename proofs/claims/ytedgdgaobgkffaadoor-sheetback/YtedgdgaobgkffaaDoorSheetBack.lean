/-
  SheetBack: the row, and its tied card.
-/
import Derived.Test.YtedgdgaobgkffaaDoorRows
import Derived.WalkKit
import Derived.ProofKit
import Derived.OpenShut
import Derived.RowKit
import Derived.ShutString
import Derived.ChangeOld
import Derived.Below
import Derived.Lay
import Derived.LaidLaws
import Derived.SizedLaws
import Derived.LaidHandle
import Derived.Test.YtedgdgaobgkffaaDoorTie
import Derived.Test.YtedgdgaobgkffaaDoorCards
import Derived.Test.YtedgdgaobgkffaaDoorLawSBk
import Derived.Test.YtedgdgaobgkffaaDoorSnt
import Derived.Test.YtedgdgaobgkffaaDoorRowsIn
namespace Go.Proofs.YtedgdgaobgkffaaDoor.sheetBack
open Go.ChangeShapes Go.WideShapes Go.ChangeAt Go.RowKit
open Go.ChangeMaps (open_string shut_string)
set_option linter.unusedVariables false

theorem own : ownKnob Tryd.prog.godebug = none := by kernel_rfl
theorem laidOut : laidOutB Tryd.prog = true := by kernel_rfl

abbrev plainL : List (String × DataW Unit) := [("unicode/utf8.acceptRanges", Rows.laid_unicode_utf8_acceptRanges), ("larder/sheet.ErrLong", Rows.laid_larder_sheet_ErrLong), ("larder/sheet.ErrOpen", Rows.laid_larder_sheet_ErrOpen), ("larder/sheet.ErrQuote", Rows.laid_larder_sheet_ErrQuote), ("larder/sheet.ErrLine", Rows.laid_larder_sheet_ErrLine), ("larder/sheet.ErrByte", Rows.laid_larder_sheet_ErrByte), ("larder/sheet.ErrCell", Rows.laid_larder_sheet_ErrCell), ("larder/sheet.ErrCells", Rows.laid_larder_sheet_ErrCells), ("larder/sheet.ErrRows", Rows.laid_larder_sheet_ErrRows), ("larder/sheet.ErrRagged", Rows.laid_larder_sheet_ErrRagged), ("larder/sheet.ErrDone", Rows.laid_larder_sheet_ErrDone), ("unicode/utf8.first", Rows.laid_unicode_utf8_first)]
theorem et : Tryd.prog.globalNamed "errors.errorType" = some 5 := by kernel_rfl
theorem rt : (Tryd.prog.cutTypes.find? (·.1 == "internal/reflectlite.rtype")).map (·.2) = some 86 := by kernel_rfl
theorem oneRow : ((List.range 201).filter fun t => Tryd.prog.rowNamed t [101, 114, 114, 111, 114]) = [24] := by kernel_rfl
theorem tsize : Tryd.prog.types.size = 201 := by kernel_rfl
theorem handle {W : World} (h : laidMetH Tryd.prog Rows.sheetBackRow.laid W) : laidMet Tryd.prog plainL W ∧ ErT W := by
  have h' : laidMet Tryd.prog plainL W ∧ handlesMet Tryd.prog [("errors.errorType", Rows.laid_errors_errorType)] W := h
  obtain ⟨name, u, ty, e1, e2, e3, e4, e5⟩ := h'.2 _ (List.mem_singleton.2 rfl)
  have en : name = [101, 114, 114, 111, 114] := (Option.some.inj e1).symm
  subst en
  obtain rfl := Option.some.inj (rt.symm.trans e2)
  have hm : ty ∈ (List.range 201).filter fun t => Tryd.prog.rowNamed t [101, 114, 114, 111, 114] := List.mem_filter.2 ⟨List.mem_range.2 (by rw [← tsize]; exact e3), e4⟩
  rw [oneRow] at hm
  obtain rfl := List.mem_singleton.1 hm
  have hh : typeHandle Tryd.prog 24 = .pointer (some ⟨27, 24, none⟩) := by kernel_rfl
  rw [hh] at e5
  exact ⟨h'.1, by have h9 := World.var?_cell et e5 0; unfold ErT; simpa using h9⟩
theorem met (os : Os) (args : Array Value) : laidMetH Tryd.prog Rows.sheetBackRow.laid ((World.layVars Tryd.prog ({ World.holding Tryd.prog os ⟨#[], #[], []⟩ with heap := (World.holding Tryd.prog os ⟨#[], #[], []⟩).heap.modify 5 fun | .cells _ t frozen => .cells #[.iface 86 (.agg #[.pointer (some ⟨27, 24, none⟩)])] t frozen | o => o } : World) plainL).forCall (fun _ _ => 0) ⟨#[], args, []⟩).memory := by
  refine laidMetH_of_parts ?_ (by kernel_rfl)
  have e0 : (Rows.sheetBackRow.laid.filter fun x => x.2.handleName?.isNone) = plainL := rfl
  rw [e0]
  have e1 : (plainL.filter fun x => (plainL.map (·.1)).contains x.1) = plainL := List.filter_eq_self.2 fun x hx => List.contains_iff_mem.2 (List.mem_map.2 ⟨x, hx, rfl⟩)
  have e2 : (plainL.filter fun x => !(plainL.map (·.1)).contains x.1) = [] := List.filter_eq_nil_iff.2 fun x hx => by rw [List.contains_iff_mem.2 (List.mem_map.2 ⟨x, hx, rfl⟩)]; simp
  have h : laidMet Tryd.prog plainL (World.layVars Tryd.prog ({ World.holding Tryd.prog os ⟨#[], #[], []⟩ with heap := (World.holding Tryd.prog os ⟨#[], #[], []⟩).heap.modify 5 fun | .cells _ t frozen => .cells #[.iface 86 (.agg #[.pointer (some ⟨27, 24, none⟩)])] t frozen | o => o } : World) plainL) := laidMet_layVars (w0 := ({ World.holding Tryd.prog os ⟨#[], #[], []⟩ with heap := (World.holding Tryd.prog os ⟨#[], #[], []⟩).heap.modify 5 fun | .cells _ t frozen => .cells #[.iface 86 (.agg #[.pointer (some ⟨27, 24, none⟩)])] t frozen | o => o } : World)) (plainL.map (·.1)) [] (by rw [e1]) (by rw [e1]; kernel_rfl) (by rw [e1]; kernel_rfl) (by rw [e2]; exact LaidIn.none)
  exact h.of_heap (by simp [World.memory, World.forCall, Input.heap])

theorem walk (v0 : Value) (R0 : List (List (List UInt8))) (w : World) (w0 : Rw w v0 R0) (hL : laidMet Tryd.prog plainL w) (hT : ErT w) :
    Calls Tryd.prog 5 #[v0] w fun e w' => e = .returned (.bool true) ∧ Below w.heap.size w w' := by
  have u0 := hL.tail
  obtain ⟨b20, e20⟩ := sent_of (text := tSh 20) u0 (g := gSh 20) (by kernel_rfl) (by kernel_rfl)
  have t1 := u0.tail
  obtain ⟨b1, e1⟩ := sent_of (text := tSh 1) t1 (g := gSh 1) (by kernel_rfl) (by kernel_rfl)
  have t2 := t1.tail
  obtain ⟨b2, e2⟩ := sent_of (text := tSh 2) t2 (g := gSh 2) (by kernel_rfl) (by kernel_rfl)
  have t3 := t2.tail
  obtain ⟨b3, e3⟩ := sent_of (text := tSh 3) t3 (g := gSh 3) (by kernel_rfl) (by kernel_rfl)
  have t4 := t3.tail
  obtain ⟨b4, e4⟩ := sent_of (text := tSh 4) t4 (g := gSh 4) (by kernel_rfl) (by kernel_rfl)
  have t5 := t4.tail
  obtain ⟨b5, e5⟩ := sent_of (text := tSh 5) t5 (g := gSh 5) (by kernel_rfl) (by kernel_rfl)
  have t6 := t5.tail
  obtain ⟨b6, e6⟩ := sent_of (text := tSh 6) t6 (g := gSh 6) (by kernel_rfl) (by kernel_rfl)
  have t7 := t6.tail
  obtain ⟨b7, e7⟩ := sent_of (text := tSh 7) t7 (g := gSh 7) (by kernel_rfl) (by kernel_rfl)
  have t8 := t7.tail
  obtain ⟨b8, e8⟩ := sent_of (text := tSh 8) t8 (g := gSh 8) (by kernel_rfl) (by kernel_rfl)
  have t9 := t8.tail
  obtain ⟨b9, e9⟩ := sent_of (text := tSh 9) t9 (g := gSh 9) (by kernel_rfl) (by kernel_rfl)
  have hS : ∀ c, Cod c → SE w (gSh c) ((fun c : Nat => match c with | 1 => b1 | 2 => b2 | 3 => b3 | 4 => b4 | 5 => b5 | 6 => b6 | 7 => b7 | 8 => b8 | 9 => b9 | _ => b20) c) (tSh c) := by
    intro c hc
    rcases cod_cases hc with rfl | rfl | rfl | rfl | rfl | rfl | rfl | rfl | rfl | rfl
    · exact e1
    · exact e2
    · exact e3
    · exact e4
    · exact e5
    · exact e6
    · exact e7
    · exact e8
    · exact e9
    · exact e20
  exact back_law _ _ R0 w (he_of hS) hT w0

set_option maxRecDepth 100000 in
theorem lifted (os : Os) (started : os.Started) (H : Type) (enc : TypeId × Value → H) :
    ReturnsInHanded {} Tryd.checked os 5 .any (fun w args => (Rows.sheetBackSpec.pre enc Tryd.prog Tryd.f5 [] false w args ∧ laidMetH Tryd.prog Rows.sheetBackRow.laid w) ∧ sizedMet enc Tryd.prog Tryd.f5 (OpenSpec.ofChange Rows.sheetBackSpec) false w args)
      (Rows.sheetBackSpec.post enc Tryd.prog Tryd.f5 false true false false) := by
  refine returnsInHanded_of_change_and (C := Tryd.checked) (X := fun w _ => laidMetH Tryd.prog Rows.sheetBackRow.laid w) (fun _ _ _ hh h => h.of_heap hh) own started (by kernel_rfl) Tryd.func5
    (ChangeSpec.witness_shaped (enc := enc) (C := Tryd.checked) (os := os) (X := fun w _ => laidMetH Tryd.prog Rows.sheetBackRow.laid w) false (World.layVars Tryd.prog ({ World.holding Tryd.prog os ⟨#[], #[], []⟩ with heap := (World.holding Tryd.prog os ⟨#[], #[], []⟩).heap.modify 5 fun | .cells _ t frozen => .cells #[.iface 86 (.agg #[.pointer (some ⟨27, 24, none⟩)])] t frozen | o => o } : World) plainL) #[.slice none 0 0] 8 (World.layVars_os _ _ _)
      (World.shaped_of_ZipB (by kernel_rfl) (by kernel_rfl)) (by kernel_rfl) (by kernel_rfl) (by kernel_rfl)
      (met os _)) ?_
  intro W base args ds gs before hval0 hW _ hsz0 hL0 _
  obtain ⟨hL, hT⟩ := handle hL0
  clear hL0
  have hval : ∀ (j : Nat) t v, Tryd.f5.params[j]? = some t → args[j]? = some v → Value.okWide Tryd.prog W .any base t v := hval0
  have hW' := hW
  obtain ⟨p, q, hA0, hV, rfl, hfz, hnd⟩ := hW
  have hA : DataW.TrodAll enc Tryd.prog W 0 (fun _ => true) true Tryd.f5.params.toList args.toList ds p := hA0
  rw [Tryd.params5] at hA hval
  obtain ⟨v0, vs0, d0, ds0, p0, q0, hargs, rfl, rfl, h0, r0⟩ := trodAll_cons hA
  obtain ⟨rfl, rfl, rfl⟩ := trodAll_nil r0
  obtain rfl : args = #[v0] := by cases args; simp_all
  obtain ⟨rfl, rfl⟩ := trodVars_none hV
  have k0 := h0
  have lt0 : ∀ x ∈ p0, x.block < W.heap.size := by obtain ⟨m, hm⟩ := k0; exact DataW.trod_lt m _ _ _ hm
  obtain ⟨c0, l0, m0, rfl⟩ := okWide_slice Tryd.underlying22 (hval 0 22 v0 rfl rfl)
  obtain ⟨R0, w0⟩ := rows_open ⟨_, _, _, rfl⟩ h0
  clear hA0 hval0
  refine (walk _ R0 W w0 hL hT).mono fun e W' ⟨he, bel⟩ => ?_
  subst he
  exact ⟨_, rfl, _, _, _, [], _, [], hW', trodAll_mk1 (shut_bool Tryd.underlying4 _), (trodAll_cons_mk (Below.trod laidOut (by kernel_rfl) (of_decide_eq_true (by kernel_rfl)) k0 bel lt0) trodAll_mk0), rfl, bel.frame _, fun h => by cases h⟩

theorem over : Rows.sheetBackRow.holds Tryd.pinned (OpenSpec.ofChange Rows.sheetBackSpec) :=
  OpenClaim.holds_of_wide 5 Tryd.f5 rfl rfl rfl rfl rfl rfl rfl ⟨rfl, rfl, rfl, rfl, rfl⟩ rfl rfl rfl rfl rfl (by kernel_rfl) Tryd.func5 (by kernel_rfl)
    (of_decide_eq_true (by kernel_rfl)) (by unfold Func.isWrapper; first | (rw [if_pos (by decide +kernel)]; kernel_rfl) | (rw [if_neg (by decide +kernel)]; exact ⟨rfl, rfl⟩))
    (fun os started H enc _ => lifted os started H enc)

theorem card : Rows.SheetBackCardSaid :=
  Claim7.holds_tied_plain_at .later [] [.data, .handle, .sentinel, .sentinel, .sentinel, .sentinel, .sentinel, .sentinel, .sentinel, .sentinel, .sentinel, .sentinel, .pinned] true (true, "2903e882f2efcb4a85be01012602042fbfaaa5e7e632478b1de6c58e47498600") true over (fun _ h => by cases h) (by kernel_rfl) (fun _ h => by cases h) sheetBack_row_tie rfl ⟨rfl, rfl⟩ (by kernel_rfl) rfl
    (fun f fn hf hfn => by
      obtain rfl : f = 5 := Option.some.inj ((show Tryd.prog.funcNamed Rows.sheetBackRow.func = some 5 by kernel_rfl).symm.trans hf) |>.symm
      obtain rfl : fn = Tryd.f5 := (Option.some.inj (Tryd.func5.symm.trans hfn)).symm
      exact ⟨by kernel_rfl, fun j t ht => by
        rw [Tryd.params5] at ht
        have hm : t ∈ ([22] : List TypeId) := by simpa using Array.mem_of_getElem? ht
        have hall : (([22] : List TypeId).all fun u => !Tryd.prog.wantsStandIn u) = true := by kernel_rfl
        exact (show Tryd.prog.wantsStandIn t = false by simpa using List.all_eq_true.1 hall t hm)⟩)
    (by kernel_rfl)
#print axioms card
end Go.Proofs.YtedgdgaobgkffaaDoor.sheetBack
