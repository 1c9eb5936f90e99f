/-
  SheetFirst: the row, and its tied card.
-/
import Derived.Test.YtpgpeafmlijfkaaGreatDoorRows
import Derived.WalkKit
import Derived.ProofKit
import Derived.OpenShut
import Derived.RowKit
import Derived.ShutString
import Derived.ChangeOld
import Derived.Below
import Derived.Lay
import Derived.LaidLaws
import Derived.SizedLaws
import Derived.LaidHandle
import Derived.Test.YtpgpeafmlijfkaaGreatDoorTie
import Derived.Test.YtpgpeafmlijfkaaGreatDoorCards
import Derived.Test.YtpgpeafmlijfkaaGreatDoorFer
import Derived.Test.YtpgpeafmlijfkaaGreatDoorSnt
import Derived.Test.YtpgpeafmlijfkaaGreatDoorBld
namespace Go.Proofs.YtpgpeafmlijfkaaGreatDoor.sheetFirst
open Go.ChangeShapes Go.WideShapes Go.ChangeAt Go.RowKit
open Go.ChangeMaps (open_string shut_string)
set_option linter.unusedVariables false

theorem own : ownKnob Tryz.prog.godebug = none := by kernel_rfl
theorem laidOut : laidOutB Tryz.prog = true := by kernel_rfl

abbrev plainL : List (String × DataW Unit) := [("unicode/utf8.acceptRanges", Rows.laid_unicode_utf8_acceptRanges), ("larder/sheet.ErrLong", Rows.laid_larder_sheet_ErrLong), ("larder/sheet.ErrOpen", Rows.laid_larder_sheet_ErrOpen), ("larder/sheet.ErrQuote", Rows.laid_larder_sheet_ErrQuote), ("larder/sheet.ErrLine", Rows.laid_larder_sheet_ErrLine), ("larder/sheet.ErrByte", Rows.laid_larder_sheet_ErrByte), ("larder/sheet.ErrCell", Rows.laid_larder_sheet_ErrCell), ("larder/sheet.ErrCells", Rows.laid_larder_sheet_ErrCells), ("larder/sheet.ErrRows", Rows.laid_larder_sheet_ErrRows), ("larder/sheet.ErrRagged", Rows.laid_larder_sheet_ErrRagged), ("larder/sheet.ErrDone", Rows.laid_larder_sheet_ErrDone), ("unicode/utf8.first", Rows.laid_unicode_utf8_first)]
theorem et : Tryz.prog.globalNamed "errors.errorType" = some 5 := by kernel_rfl
theorem rt : (Tryz.prog.cutTypes.find? (·.1 == "internal/reflectlite.rtype")).map (·.2) = some 140 := by kernel_rfl
theorem oneRow : ((List.range 237).filter fun t => Tryz.prog.rowNamed t [101, 114, 114, 111, 114]) = [41] := by kernel_rfl
theorem tsize : Tryz.prog.types.size = 237 := by kernel_rfl
theorem handle {W : World} (h : laidMetH Tryz.prog Rows.sheetFirstRow.laid W) : laidMet Tryz.prog plainL W ∧ ErT W := by
  have h' : laidMet Tryz.prog plainL W ∧ handlesMet Tryz.prog [("errors.errorType", Rows.laid_errors_errorType)] W := h
  obtain ⟨name, u, ty, e1, e2, e3, e4, e5⟩ := h'.2 _ (List.mem_singleton.2 rfl)
  have en : name = [101, 114, 114, 111, 114] := (Option.some.inj e1).symm
  subst en
  obtain rfl := Option.some.inj (rt.symm.trans e2)
  have hm : ty ∈ (List.range 237).filter fun t => Tryz.prog.rowNamed t [101, 114, 114, 111, 114] := List.mem_filter.2 ⟨List.mem_range.2 (by rw [← tsize]; exact e3), e4⟩
  rw [oneRow] at hm
  obtain rfl := List.mem_singleton.1 hm
  have hh : typeHandle Tryz.prog 41 = .pointer (some ⟨27, 41, none⟩) := by kernel_rfl
  rw [hh] at e5
  exact ⟨h'.1, by have h9 := World.var?_cell et e5 0; unfold ErT; simpa using h9⟩
theorem met (os : Os) (args : Array Value) : laidMetH Tryz.prog Rows.sheetFirstRow.laid ((World.layVars Tryz.prog ({ World.holding Tryz.prog os ⟨#[], #[], []⟩ with heap := (World.holding Tryz.prog os ⟨#[], #[], []⟩).heap.modify 5 fun | .cells _ t frozen => .cells #[.iface 140 (.agg #[.pointer (some ⟨27, 41, none⟩)])] t frozen | o => o } : World) plainL).forCall (fun _ _ => 0) ⟨#[], args, []⟩).memory := by
  refine laidMetH_of_parts ?_ (by kernel_rfl)
  have e0 : (Rows.sheetFirstRow.laid.filter fun x => x.2.handleName?.isNone) = plainL := rfl
  rw [e0]
  have e1 : (plainL.filter fun x => (plainL.map (·.1)).contains x.1) = plainL := List.filter_eq_self.2 fun x hx => List.contains_iff_mem.2 (List.mem_map.2 ⟨x, hx, rfl⟩)
  have e2 : (plainL.filter fun x => !(plainL.map (·.1)).contains x.1) = [] := List.filter_eq_nil_iff.2 fun x hx => by rw [List.contains_iff_mem.2 (List.mem_map.2 ⟨x, hx, rfl⟩)]; simp
  have h : laidMet Tryz.prog plainL (World.layVars Tryz.prog ({ World.holding Tryz.prog os ⟨#[], #[], []⟩ with heap := (World.holding Tryz.prog os ⟨#[], #[], []⟩).heap.modify 5 fun | .cells _ t frozen => .cells #[.iface 140 (.agg #[.pointer (some ⟨27, 41, none⟩)])] t frozen | o => o } : World) plainL) := laidMet_layVars (w0 := ({ World.holding Tryz.prog os ⟨#[], #[], []⟩ with heap := (World.holding Tryz.prog os ⟨#[], #[], []⟩).heap.modify 5 fun | .cells _ t frozen => .cells #[.iface 140 (.agg #[.pointer (some ⟨27, 41, none⟩)])] t frozen | o => o } : World)) (plainL.map (·.1)) [] (by rw [e1]) (by rw [e1]; kernel_rfl) (by rw [e1]; kernel_rfl) (by rw [e2]; exact LaidIn.none)
  exact h.of_heap (by simp [World.memory, World.forCall, Input.heap])

theorem walk (a0 : ByteArray) (a1 : ByteArray) (w : World) (w0 : a0.size ≤ maxLen) (s0 : a0.size ≤ 140737488355328) (w1 : a1.size ≤ maxLen) (s1 : a1.size ≤ 140737488355328) (hL : laidMet Tryz.prog plainL w) (hT : ErT w) (hU : TabU w) :
    Calls Tryz.prog 4 #[.string a0, .string a1] w fun e w' => e = .returned (.bool true) ∧ Below w.heap.size w w' := by
  have u0 := hL.tail
  obtain ⟨b20, e20⟩ := sent_of (text := tSh 20) u0 (g := gSh 20) (by kernel_rfl) (by kernel_rfl)
  have t1 := u0.tail
  obtain ⟨b1, e1⟩ := sent_of (text := tSh 1) t1 (g := gSh 1) (by kernel_rfl) (by kernel_rfl)
  have t2 := t1.tail
  obtain ⟨b2, e2⟩ := sent_of (text := tSh 2) t2 (g := gSh 2) (by kernel_rfl) (by kernel_rfl)
  have t3 := t2.tail
  obtain ⟨b3, e3⟩ := sent_of (text := tSh 3) t3 (g := gSh 3) (by kernel_rfl) (by kernel_rfl)
  have t4 := t3.tail
  obtain ⟨b4, e4⟩ := sent_of (text := tSh 4) t4 (g := gSh 4) (by kernel_rfl) (by kernel_rfl)
  have t5 := t4.tail
  obtain ⟨b5, e5⟩ := sent_of (text := tSh 5) t5 (g := gSh 5) (by kernel_rfl) (by kernel_rfl)
  have t6 := t5.tail
  obtain ⟨b6, e6⟩ := sent_of (text := tSh 6) t6 (g := gSh 6) (by kernel_rfl) (by kernel_rfl)
  have t7 := t6.tail
  obtain ⟨b7, e7⟩ := sent_of (text := tSh 7) t7 (g := gSh 7) (by kernel_rfl) (by kernel_rfl)
  have t8 := t7.tail
  obtain ⟨b8, e8⟩ := sent_of (text := tSh 8) t8 (g := gSh 8) (by kernel_rfl) (by kernel_rfl)
  have t9 := t8.tail
  obtain ⟨b9, e9⟩ := sent_of (text := tSh 9) t9 (g := gSh 9) (by kernel_rfl) (by kernel_rfl)
  have hS : Sm (fun c : Nat => match c with | 1 => b1 | 2 => b2 | 3 => b3 | 4 => b4 | 5 => b5 | 6 => b6 | 7 => b7 | 8 => b8 | 9 => b9 | _ => b20) w := by
    intro c hc
    rcases cod_cases hc with rfl | rfl | rfl | rfl | rfl | rfl | rfl | rfl | rfl | rfl
    · exact e1
    · exact e2
    · exact e3
    · exact e4
    · exact e5
    · exact e6
    · exact e7
    · exact e8
    · exact e9
    · exact e20
  exact first_law _ a0 a1 w hS hT (errC_any _ w hS hU) s0 s1

set_option maxRecDepth 100000 in
theorem lifted (os : Os) (started : os.Started) (H : Type) (enc : TypeId × Value → H) :
    ReturnsInHanded {} Tryz.checked os 4 .any (fun w args => (Rows.sheetFirstSpec.pre enc Tryz.prog Tryz.f4 [] false w args ∧ laidMetH Tryz.prog Rows.sheetFirstRow.laid w) ∧ sizedMet enc Tryz.prog Tryz.f4 (OpenSpec.ofChange Rows.sheetFirstSpec) false w args)
      (Rows.sheetFirstSpec.post enc Tryz.prog Tryz.f4 false true false false) := by
  refine handed_shaped (C := Tryz.checked) (X := fun w _ => laidMetH Tryz.prog Rows.sheetFirstRow.laid w) (fun _ _ _ hh h => h.of_heap hh) own started (by kernel_rfl) Tryz.func4
    (ChangeSpec.witness_shaped (enc := enc) (C := Tryz.checked) (os := os) (X := fun w _ => laidMetH Tryz.prog Rows.sheetFirstRow.laid w) false (World.layVars Tryz.prog ({ World.holding Tryz.prog os ⟨#[], #[], []⟩ with heap := (World.holding Tryz.prog os ⟨#[], #[], []⟩).heap.modify 5 fun | .cells _ t frozen => .cells #[.iface 140 (.agg #[.pointer (some ⟨27, 41, none⟩)])] t frozen | o => o } : World) plainL) #[.string ByteArray.empty, .string ByteArray.empty] 8 (World.layVars_os _ _ _)
      (World.shaped_of_ZipB (by kernel_rfl) (by kernel_rfl)) (by kernel_rfl) (by kernel_rfl) (by kernel_rfl)
      (met os _)) ?_
  intro W base args ds gs before hsh hval0 hW _ hsz0 hL0 _
  obtain ⟨hL, hT⟩ := handle hL0
  clear hL0
  have hval : ∀ (j : Nat) t v, Tryz.f4.params[j]? = some t → args[j]? = some v → Value.okWide Tryz.prog W .any base t v := hval0
  have hW' := hW
  obtain ⟨p, q, hA0, hV, rfl, hfz, hnd⟩ := hW
  have hA : DataW.TrodAll enc Tryz.prog W 0 (fun _ => true) true Tryz.f4.params.toList args.toList ds p := hA0
  rw [Tryz.params4] at hA hval
  obtain ⟨v0, vs0, d0, ds0, p0, q0, hargs, rfl, rfl, h0, r0⟩ := trodAll_cons hA
  obtain ⟨v1, vs1, d1, ds1, p1, q1, rfl, rfl, rfl, h1, r1⟩ := trodAll_cons r0
  obtain ⟨rfl, rfl, rfl⟩ := trodAll_nil r1
  obtain rfl : args = #[v0, v1] := by cases args; simp_all
  obtain ⟨rfl, rfl⟩ := trodVars_none hV
  obtain ⟨a0, rfl, rfl, rfl, w0⟩ := open_string Tryz.underlying9 (hval 0 9 v0 rfl rfl) h0
  obtain ⟨a1, rfl, rfl, rfl, w1⟩ := open_string Tryz.underlying9 (hval 1 9 v1 rfl rfl) h1
  have s0 : a0.size ≤ 140737488355328 := by
    have h := sized_string hsz0 (j := 0) rfl rfl
    rw [Array.length_toList] at h
    exact Nat.le_trans h (by decide)
  have s1 : a1.size ≤ 140737488355328 := by
    have h := sized_string hsz0 (j := 1) rfl rfl
    rw [Array.length_toList] at h
    exact Nat.le_trans h (by decide)
  clear hA0 hval0
  refine (walk a0 a1 W w0 s0 w1 s1 hL hT (tab_of hsh)).mono fun e W' ⟨he, bel⟩ => ?_
  subst he
  exact ⟨_, rfl, _, _, _, [], _, [], hW', trodAll_mk1 (shut_bool Tryz.underlying4 _), (trodAll_cons_mk (shut_string Tryz.underlying9 w0) (trodAll_cons_mk (shut_string Tryz.underlying9 w1) trodAll_mk0)), rfl, bel.frame _, fun h => by cases h⟩

theorem over : Rows.sheetFirstRow.holds Tryz.pinned (OpenSpec.ofChange Rows.sheetFirstSpec) :=
  OpenClaim.holds_of_wide 4 Tryz.f4 rfl rfl rfl rfl rfl rfl rfl ⟨rfl, rfl, rfl, rfl, rfl⟩ rfl rfl rfl rfl rfl (by kernel_rfl) Tryz.func4 (by kernel_rfl)
    (of_decide_eq_true (by kernel_rfl)) (by unfold Func.isWrapper; first | (rw [if_pos (by decide +kernel)]; kernel_rfl) | (rw [if_neg (by decide +kernel)]; exact ⟨rfl, rfl⟩))
    (fun os started H enc _ => lifted os started H enc)

theorem card : Rows.SheetFirstCardSaid :=
  Claim7.holds_tied_plain_at .later [] [.data, .handle, .sentinel, .sentinel, .sentinel, .sentinel, .sentinel, .sentinel, .sentinel, .sentinel, .sentinel, .sentinel, .pinned] true (true, "565ad4bcc3b44bb4043f1b9af4371aac519297a88aba6a982a60c673aa40bf5a") true over (fun _ h => by cases h) (by kernel_rfl) (fun _ h => by cases h) sheetFirst_row_tie rfl ⟨rfl, rfl⟩ (by kernel_rfl) rfl
    (fun f fn hf hfn => by
      obtain rfl : f = 4 := Option.some.inj ((show Tryz.prog.funcNamed Rows.sheetFirstRow.func = some 4 by kernel_rfl).symm.trans hf) |>.symm
      obtain rfl : fn = Tryz.f4 := (Option.some.inj (Tryz.func4.symm.trans hfn)).symm
      exact ⟨by kernel_rfl, fun j t ht => by
        rw [Tryz.params4] at ht
        have hm : t ∈ ([9, 9] : List TypeId) := by simpa using Array.mem_of_getElem? ht
        have hall : (([9, 9] : List TypeId).all fun u => !Tryz.prog.wantsStandIn u) = true := by kernel_rfl
        exact (show Tryz.prog.wantsStandIn t = false by simpa using List.all_eq_true.1 hall t hm)⟩)
    (by kernel_rfl)
#print axioms card
end Go.Proofs.YtpgpeafmlijfkaaGreatDoor.sheetFirst
