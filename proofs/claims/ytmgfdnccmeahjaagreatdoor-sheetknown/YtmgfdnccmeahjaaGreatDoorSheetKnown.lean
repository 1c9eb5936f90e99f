/-
  SheetKnown: SheetKnown: the row, and its tied card.
-/
import Derived.Test.YtmgfdnccmeahjaaGreatDoorRows
import Derived.WalkKit
import Derived.ProofKit
import Derived.OpenShut
import Derived.RowKit
import Derived.ShutString
import Derived.ChangeOld
import Derived.Below
import Derived.Lay
import Derived.LaidLaws
import Derived.SizedLaws
import Derived.LaidHandle
import Derived.Test.YtmgfdnccmeahjaaGreatDoorSheetKnownJ
import Derived.Test.YtmgfdnccmeahjaaGreatDoorTie
import Derived.Test.YtmgfdnccmeahjaaGreatDoorCards
import Derived.Test.YtmgfdnccmeahjaaGreatDoorYLawSKn
import Derived.Test.YtmgfdnccmeahjaaGreatDoorYH
import Derived.Test.YtmgfdnccmeahjaaGreatDoorYBld
namespace Go.Proofs.YtmgfdnccmeahjaaGreatDoor.sheetKnown
open Go.ChangeShapes Go.WideShapes Go.ChangeAt Go.RowKit
open Go.ChangeMaps (open_string shut_string)
set_option linter.unusedVariables false

theorem own : ownKnob Tryz.prog.godebug = none := by kernel_rfl
theorem laidOut : laidOutB Tryz.prog = true := by kernel_rfl

abbrev plainL : List (String × DataW Unit) := [("math/bits.deBruijn32tab", Rows.laid_math_bits_deBruijn32tab), ("math/bits.deBruijn64tab", Rows.laid_math_bits_deBruijn64tab), ("internal/strconv.uint64pow10", Rows.laid_internal_strconv_uint64pow10), ("unicode/utf8.acceptRanges", Rows.laid_unicode_utf8_acceptRanges), ("strconv.ErrRange", Rows.laid_strconv_ErrRange), ("strconv.ErrSyntax", Rows.laid_strconv_ErrSyntax), ("larder/cal.ahead", Rows.laid_larder_cal_ahead), ("larder/sheet.ErrLong", Rows.laid_larder_sheet_ErrLong), ("larder/sheet.ErrOpen", Rows.laid_larder_sheet_ErrOpen), ("larder/sheet.ErrQuote", Rows.laid_larder_sheet_ErrQuote), ("larder/sheet.ErrLine", Rows.laid_larder_sheet_ErrLine), ("larder/sheet.ErrByte", Rows.laid_larder_sheet_ErrByte), ("larder/sheet.ErrCell", Rows.laid_larder_sheet_ErrCell), ("larder/sheet.ErrCells", Rows.laid_larder_sheet_ErrCells), ("larder/sheet.ErrRows", Rows.laid_larder_sheet_ErrRows), ("larder/sheet.ErrRagged", Rows.laid_larder_sheet_ErrRagged), ("larder/sheet.ErrDone", Rows.laid_larder_sheet_ErrDone), ("larder/sheet.ErrColumns", Rows.laid_larder_sheet_ErrColumns), ("larder/sheet.ErrMissing", Rows.laid_larder_sheet_ErrMissing), ("larder/sheet.ErrTwice", Rows.laid_larder_sheet_ErrTwice), ("larder/sheet.ErrEmpty", Rows.laid_larder_sheet_ErrEmpty), ("larder/sheet.ErrNumber", Rows.laid_larder_sheet_ErrNumber), ("larder/sheet.ErrCents", Rows.laid_larder_sheet_ErrCents), ("larder/sheet.ErrDate", Rows.laid_larder_sheet_ErrDate), ("larder/sheet.ErrCode", Rows.laid_larder_sheet_ErrCode), ("larder/sheet.ErrYes", Rows.laid_larder_sheet_ErrYes), ("larder/sheet.ErrValue", Rows.laid_larder_sheet_ErrValue), ("unicode/utf8.first", Rows.laid_unicode_utf8_first)]
theorem et : Tryz.prog.globalNamed "errors.errorType" = some 7 := by kernel_rfl
theorem rt : (Tryz.prog.cutTypes.find? (·.1 == "internal/reflectlite.rtype")).map (·.2) = some 158 := by kernel_rfl
theorem oneRow : ((List.range 352).filter fun t => Tryz.prog.rowNamed t [101, 114, 114, 111, 114]) = [27] := by kernel_rfl
theorem tsize : Tryz.prog.types.size = 352 := by kernel_rfl
theorem handle {W : World} (h : laidMetH Tryz.prog Rows.sheetKnownRow.laid W) : laidMet Tryz.prog plainL W ∧ ErT W := by
  have h' : laidMet Tryz.prog plainL W ∧ handlesMet Tryz.prog [("errors.errorType", Rows.laid_errors_errorType)] W := h
  obtain ⟨name, u, ty, e1, e2, e3, e4, e5⟩ := h'.2 _ (List.mem_singleton.2 rfl)
  have en : name = [101, 114, 114, 111, 114] := (Option.some.inj e1).symm
  subst en
  obtain rfl := Option.some.inj (rt.symm.trans e2)
  have hm : ty ∈ (List.range 352).filter fun t => Tryz.prog.rowNamed t [101, 114, 114, 111, 114] := List.mem_filter.2 ⟨List.mem_range.2 (by rw [← tsize]; exact e3), e4⟩
  rw [oneRow] at hm
  obtain rfl := List.mem_singleton.1 hm
  have hh : typeHandle Tryz.prog 27 = .pointer (some ⟨35, 27, none⟩) := by kernel_rfl
  rw [hh] at e5
  exact ⟨h'.1, by have h9 := World.var?_cell et e5 0; unfold ErT; simpa using h9⟩
theorem met (os : Os) (args : Array Value) : laidMetH Tryz.prog Rows.sheetKnownRow.laid ((World.layVars Tryz.prog ({ World.holding Tryz.prog os ⟨#[], #[], []⟩ with heap := (World.holding Tryz.prog os ⟨#[], #[], []⟩).heap.modify 7 fun | .cells _ t frozen => .cells #[.iface 158 (.agg #[.pointer (some ⟨35, 27, none⟩)])] t frozen | o => o } : World) plainL).forCall (fun _ _ => 0) ⟨#[], args, []⟩).memory := by
  refine laidMetH_of_parts ?_ (by kernel_rfl)
  have e0 : (Rows.sheetKnownRow.laid.filter fun x => x.2.handleName?.isNone) = plainL := rfl
  rw [e0]
  have e1 : (plainL.filter fun x => (plainL.map (·.1)).contains x.1) = plainL := List.filter_eq_self.2 fun x hx => List.contains_iff_mem.2 (List.mem_map.2 ⟨x, hx, rfl⟩)
  have e2 : (plainL.filter fun x => !(plainL.map (·.1)).contains x.1) = [] := List.filter_eq_nil_iff.2 fun x hx => by rw [List.contains_iff_mem.2 (List.mem_map.2 ⟨x, hx, rfl⟩)]; simp
  have h : laidMet Tryz.prog plainL (World.layVars Tryz.prog ({ World.holding Tryz.prog os ⟨#[], #[], []⟩ with heap := (World.holding Tryz.prog os ⟨#[], #[], []⟩).heap.modify 7 fun | .cells _ t frozen => .cells #[.iface 158 (.agg #[.pointer (some ⟨35, 27, none⟩)])] t frozen | o => o } : World) plainL) := laidMet_layVars (w0 := ({ World.holding Tryz.prog os ⟨#[], #[], []⟩ with heap := (World.holding Tryz.prog os ⟨#[], #[], []⟩).heap.modify 7 fun | .cells _ t frozen => .cells #[.iface 158 (.agg #[.pointer (some ⟨35, 27, none⟩)])] t frozen | o => o } : World)) (plainL.map (·.1)) [] (by rw [e1]) (by rw [e1]; kernel_rfl) (by rw [e1]; kernel_rfl) (by rw [e2]; exact LaidIn.none)
  exact h.of_heap (by simp [World.memory, World.forCall, Input.heap])

theorem walk  (w : World)  (hL : laidMet Tryz.prog plainL w) (hT : ErT w) (hU : TabU w) :
    Calls Tryz.prog 5 #[] w fun e w' => e = .returned (.bool true) ∧ Below w.heap.size w w' := by
  have u0 := hL.tail.tail.tail.tail.tail.tail.tail
  obtain ⟨b20, e20⟩ := sent_of (text := tV 20) u0 (g := gV 20) (by kernel_rfl) (by kernel_rfl)
  have t1 := u0.tail
  obtain ⟨b1, e1⟩ := sent_of (text := tV 1) t1 (g := gV 1) (by kernel_rfl) (by kernel_rfl)
  have t2 := t1.tail
  obtain ⟨b2, e2⟩ := sent_of (text := tV 2) t2 (g := gV 2) (by kernel_rfl) (by kernel_rfl)
  have t3 := t2.tail
  obtain ⟨b3, e3⟩ := sent_of (text := tV 3) t3 (g := gV 3) (by kernel_rfl) (by kernel_rfl)
  have t4 := t3.tail
  obtain ⟨b4, e4⟩ := sent_of (text := tV 4) t4 (g := gV 4) (by kernel_rfl) (by kernel_rfl)
  have t5 := t4.tail
  obtain ⟨b5, e5⟩ := sent_of (text := tV 5) t5 (g := gV 5) (by kernel_rfl) (by kernel_rfl)
  have t6 := t5.tail
  obtain ⟨b6, e6⟩ := sent_of (text := tV 6) t6 (g := gV 6) (by kernel_rfl) (by kernel_rfl)
  have t7 := t6.tail
  obtain ⟨b7, e7⟩ := sent_of (text := tV 7) t7 (g := gV 7) (by kernel_rfl) (by kernel_rfl)
  have t8 := t7.tail
  obtain ⟨b8, e8⟩ := sent_of (text := tV 8) t8 (g := gV 8) (by kernel_rfl) (by kernel_rfl)
  have t9 := t8.tail
  obtain ⟨b9, e9⟩ := sent_of (text := tV 9) t9 (g := gV 9) (by kernel_rfl) (by kernel_rfl)
  have t10 := t9.tail
  obtain ⟨b10, e10⟩ := sent_of (text := tV 10) t10 (g := gV 10) (by kernel_rfl) (by kernel_rfl)
  have t11 := t10.tail
  obtain ⟨b11, e11⟩ := sent_of (text := tV 11) t11 (g := gV 11) (by kernel_rfl) (by kernel_rfl)
  have t12 := t11.tail
  obtain ⟨b12, e12⟩ := sent_of (text := tV 12) t12 (g := gV 12) (by kernel_rfl) (by kernel_rfl)
  have t13 := t12.tail
  obtain ⟨b13, e13⟩ := sent_of (text := tV 13) t13 (g := gV 13) (by kernel_rfl) (by kernel_rfl)
  have t14 := t13.tail
  obtain ⟨b14, e14⟩ := sent_of (text := tV 14) t14 (g := gV 14) (by kernel_rfl) (by kernel_rfl)
  have t15 := t14.tail
  obtain ⟨b15, e15⟩ := sent_of (text := tV 15) t15 (g := gV 15) (by kernel_rfl) (by kernel_rfl)
  have t16 := t15.tail
  obtain ⟨b16, e16⟩ := sent_of (text := tV 16) t16 (g := gV 16) (by kernel_rfl) (by kernel_rfl)
  have t17 := t16.tail
  obtain ⟨b17, e17⟩ := sent_of (text := tV 17) t17 (g := gV 17) (by kernel_rfl) (by kernel_rfl)
  have t18 := t17.tail
  obtain ⟨b18, e18⟩ := sent_of (text := tV 18) t18 (g := gV 18) (by kernel_rfl) (by kernel_rfl)
  have t19 := t18.tail
  obtain ⟨b19, e19⟩ := sent_of (text := tV 19) t19 (g := gV 19) (by kernel_rfl) (by kernel_rfl)
  have hS : Sn (fun c : Nat => match c with | 1 => b1 | 2 => b2 | 3 => b3 | 4 => b4 | 5 => b5 | 6 => b6 | 7 => b7 | 8 => b8 | 9 => b9 | 10 => b10 | 11 => b11 | 12 => b12 | 13 => b13 | 14 => b14 | 15 => b15 | 16 => b16 | 17 => b17 | 18 => b18 | 19 => b19 | _ => b20) w := by
    intro c h1 h2
    match c, h1, h2 with
    | 1, _, _ => exact e1
    | 2, _, _ => exact e2
    | 3, _, _ => exact e3
    | 4, _, _ => exact e4
    | 5, _, _ => exact e5
    | 6, _, _ => exact e6
    | 7, _, _ => exact e7
    | 8, _, _ => exact e8
    | 9, _, _ => exact e9
    | 10, _, _ => exact e10
    | 11, _, _ => exact e11
    | 12, _, _ => exact e12
    | 13, _, _ => exact e13
    | 14, _, _ => exact e14
    | 15, _, _ => exact e15
    | 16, _, _ => exact e16
    | 17, _, _ => exact e17
    | 18, _, _ => exact e18
    | 19, _, _ => exact e19
    | 20, _, _ => exact e20
    | n + 21, _, h => exact absurd h (by omega)
  obtain ⟨b21, e21⟩ := sent_of (text := _) hL.tail.tail.tail.tail (g := gRng) (by kernel_rfl) (by kernel_rfl)
  obtain ⟨b22, e22⟩ := sent_of (text := _) hL.tail.tail.tail.tail.tail (g := gSyn) (by kernel_rfl) (by kernel_rfl)
  have hw : RdW _ w := ⟨hS, hasAh_of (by kernel_rfl) hL.tail.tail.tail.tail.tail.tail, ⟨_, e22.1, .inr ⟨_, _, rfl⟩⟩, ⟨_, e21.1, .inr ⟨_, _, rfl⟩⟩⟩
  exact known_law _ w hw hT

set_option maxRecDepth 100000 in
theorem lifted (os : Os) (started : os.Started) (H : Type) (enc : TypeId × Value → H) :
    ReturnsInHanded {} Tryz.checked os 5 .any (fun w args => (Rows.sheetKnownSpec.pre enc Tryz.prog Tryz.f5 [] false w args ∧ laidMetH Tryz.prog Rows.sheetKnownRow.laid w) ∧ sizedMet enc Tryz.prog Tryz.f5 (OpenSpec.ofChange Rows.sheetKnownSpec) false w args)
      (Rows.sheetKnownSpec.post enc Tryz.prog Tryz.f5 false true false false) := by
  refine handed_shaped (C := Tryz.checked) (X := fun w _ => laidMetH Tryz.prog Rows.sheetKnownRow.laid w) (fun _ _ _ hh h => h.of_heap hh) own started (by kernel_rfl) Tryz.func5
    (ChangeSpec.witness_shaped (enc := enc) (C := Tryz.checked) (os := os) (X := fun w _ => laidMetH Tryz.prog Rows.sheetKnownRow.laid w) false (World.layVars Tryz.prog ({ World.holding Tryz.prog os ⟨#[], #[], []⟩ with heap := (World.holding Tryz.prog os ⟨#[], #[], []⟩).heap.modify 7 fun | .cells _ t frozen => .cells #[.iface 158 (.agg #[.pointer (some ⟨35, 27, none⟩)])] t frozen | o => o } : World) plainL) #[] 8 (World.layVars_os _ _ _)
      (World.shaped_of_ZipB (by kernel_rfl) (by kernel_rfl)) (by kernel_rfl) (by kernel_rfl) (by kernel_rfl)
      (met os _)) ?_
  intro W base args ds gs before hsh hval0 hW _ hsz0 hL0 _
  obtain ⟨hL, hT⟩ := handle hL0
  clear hL0
  have hval : ∀ (j : Nat) t v, Tryz.f5.params[j]? = some t → args[j]? = some v → Value.okWide Tryz.prog W .any base t v := hval0
  have hW' := hW
  obtain ⟨p, q, hA0, hV, rfl, hfz, hnd⟩ := hW
  have hA : DataW.TrodAll enc Tryz.prog W 0 (fun _ => true) true Tryz.f5.params.toList args.toList ds p := hA0
  rw [Tryz.params5] at hA hval
  obtain ⟨hargs, rfl, rfl⟩ := trodAll_nil hA
  obtain rfl : args = #[] := by cases args; simp_all
  obtain ⟨rfl, rfl⟩ := trodVars_none hV
  clear hA0 hval0
  refine (walk  W  hL hT (tab_of hsh)).mono fun e W' ⟨he, bel⟩ => ?_
  subst he
  exact ⟨_, rfl, _, _, _, [], _, [], hW', trodAll_mk1 (shut_bool Tryz.underlying4 _), trodAll_mk0, rfl, bel.frame _, fun h => by cases h⟩

theorem over : Rows.sheetKnownRow.holds Tryz.pinned (OpenSpec.ofChange Rows.sheetKnownSpec) :=
  OpenClaim.holds_of_wide 5 Tryz.f5 rfl rfl rfl rfl rfl rfl rfl ⟨rfl, rfl, rfl, rfl, rfl⟩ rfl rfl rfl rfl rfl (by kernel_rfl) Tryz.func5 closed
    (of_decide_eq_true (by kernel_rfl)) (by unfold Func.isWrapper; first | (rw [if_pos (by decide +kernel)]; kernel_rfl) | (rw [if_neg (by decide +kernel)]; exact ⟨rfl, rfl⟩))
    (fun os started H enc _ => lifted os started H enc)

theorem card : Rows.SheetKnownCardSaid :=
  Claim7.holds_tied_plain_at .later [] [.data, .data, .data, .data, .handle, .sentinel, .sentinel, .data, .sentinel, .sentinel, .sentinel, .sentinel, .sentinel, .sentinel, .sentinel, .sentinel, .sentinel, .sentinel, .sentinel, .sentinel, .sentinel, .sentinel, .sentinel, .sentinel, .sentinel, .sentinel, .sentinel, .sentinel, .pinned] true (true, "943a6182f9653535a827dda702a8363aabca82e45260c2014ffe418c804b4e9f") true over (fun _ h => by cases h) (by kernel_rfl) (fun _ h => by cases h) sheetKnown_row_tie rfl ⟨rfl, rfl⟩ (by kernel_rfl) rfl
    (fun f fn hf hfn => by
      obtain rfl : f = 5 := Option.some.inj ((show Tryz.prog.funcNamed Rows.sheetKnownRow.func = some 5 by kernel_rfl).symm.trans hf) |>.symm
      obtain rfl : fn = Tryz.f5 := (Option.some.inj (Tryz.func5.symm.trans hfn)).symm
      exact ⟨by kernel_rfl, fun j t ht => by
        rw [Tryz.params5] at ht
        have hm : t ∈ ([] : List TypeId) := by simpa using Array.mem_of_getElem? ht
        have hall : (([] : List TypeId).all fun u => !Tryz.prog.wantsStandIn u) = true := by kernel_rfl
        exact (show Tryz.prog.wantsStandIn t = false by simpa using List.all_eq_true.1 hall t hm)⟩)
    (by kernel_rfl)
#print axioms card
end Go.Proofs.YtmgfdnccmeahjaaGreatDoor.sheetKnown
