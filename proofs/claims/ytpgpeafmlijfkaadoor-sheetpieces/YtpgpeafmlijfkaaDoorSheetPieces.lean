/-
  SheetPieces: the row, and its tied card.
-/
import Derived.Test.YtpgpeafmlijfkaaDoorRows
import Derived.WalkKit
import Derived.ProofKit
import Derived.OpenShut
import Derived.RowKit
import Derived.ShutString
import Derived.ChangeOld
import Derived.Below
import Derived.Lay
import Derived.LaidLaws
import Derived.SizedLaws
import Derived.LaidHandle
import Derived.Test.YtpgpeafmlijfkaaDoorTie
import Derived.Test.YtpgpeafmlijfkaaDoorCards
import Derived.Test.YtpgpeafmlijfkaaDoorLawSPi
import Derived.Test.YtpgpeafmlijfkaaDoorSnt
import Derived.Test.YtpgpeafmlijfkaaDoorBld
namespace Go.Proofs.YtpgpeafmlijfkaaDoor.sheetPieces
open Go.ChangeShapes Go.WideShapes Go.ChangeAt Go.RowKit
open Go.ChangeMaps (open_string shut_string)
set_option linter.unusedVariables false

theorem own : ownKnob Tryd.prog.godebug = none := by kernel_rfl
theorem laidOut : laidOutB Tryd.prog = true := by kernel_rfl

abbrev plainL : List (String × DataW Unit) := [("larder/sheet.ErrLong", Rows.laid_larder_sheet_ErrLong), ("larder/sheet.ErrOpen", Rows.laid_larder_sheet_ErrOpen), ("larder/sheet.ErrQuote", Rows.laid_larder_sheet_ErrQuote), ("larder/sheet.ErrLine", Rows.laid_larder_sheet_ErrLine), ("larder/sheet.ErrByte", Rows.laid_larder_sheet_ErrByte), ("larder/sheet.ErrCell", Rows.laid_larder_sheet_ErrCell), ("larder/sheet.ErrCells", Rows.laid_larder_sheet_ErrCells), ("larder/sheet.ErrRows", Rows.laid_larder_sheet_ErrRows), ("larder/sheet.ErrRagged", Rows.laid_larder_sheet_ErrRagged), ("larder/sheet.ErrDone", Rows.laid_larder_sheet_ErrDone), ("larder/sheet.ErrColumns", Rows.laid_larder_sheet_ErrColumns), ("larder/sheet.ErrMissing", Rows.laid_larder_sheet_ErrMissing), ("larder/sheet.ErrTwice", Rows.laid_larder_sheet_ErrTwice), ("larder/sheet.ErrEmpty", Rows.laid_larder_sheet_ErrEmpty), ("larder/sheet.ErrNumber", Rows.laid_larder_sheet_ErrNumber), ("larder/sheet.ErrCents", Rows.laid_larder_sheet_ErrCents), ("larder/sheet.ErrDate", Rows.laid_larder_sheet_ErrDate), ("larder/sheet.ErrCode", Rows.laid_larder_sheet_ErrCode), ("larder/sheet.ErrYes", Rows.laid_larder_sheet_ErrYes), ("larder/sheet.ErrValue", Rows.laid_larder_sheet_ErrValue)]
theorem handle {W : World} (h : laidMetH Tryd.prog Rows.sheetPiecesRow.laid W) : laidMet Tryd.prog plainL W := h
theorem met (os : Os) (args : Array Value) : laidMetH Tryd.prog Rows.sheetPiecesRow.laid ((World.layVars Tryd.prog (World.holding Tryd.prog os ⟨#[], #[], []⟩ : World) plainL).forCall (fun _ _ => 0) ⟨#[], args, []⟩).memory := by
  refine laidMetH_of_parts ?_ (by kernel_rfl)
  have e0 : (Rows.sheetPiecesRow.laid.filter fun x => x.2.handleName?.isNone) = plainL := rfl
  rw [e0]
  have e1 : (plainL.filter fun x => (plainL.map (·.1)).contains x.1) = plainL := List.filter_eq_self.2 fun x hx => List.contains_iff_mem.2 (List.mem_map.2 ⟨x, hx, rfl⟩)
  have e2 : (plainL.filter fun x => !(plainL.map (·.1)).contains x.1) = [] := List.filter_eq_nil_iff.2 fun x hx => by rw [List.contains_iff_mem.2 (List.mem_map.2 ⟨x, hx, rfl⟩)]; simp
  have h : laidMet Tryd.prog plainL (World.layVars Tryd.prog (World.holding Tryd.prog os ⟨#[], #[], []⟩ : World) plainL) := laidMet_layVars (w0 := (World.holding Tryd.prog os ⟨#[], #[], []⟩ : World)) (plainL.map (·.1)) [] (by rw [e1]) (by rw [e1]; kernel_rfl) (by rw [e1]; kernel_rfl) (by rw [e2]; exact LaidIn.none)
  exact h.of_heap (by simp [World.memory, World.forCall, Input.heap])

theorem walk (a0 : ByteArray) (v1 : Value) (K1 : List Int) (w : World) (w0 : a0.size ≤ maxLen) (s0 : a0.size ≤ 140737488355328) (w1 : RI w v1 K1 ∧ ∀ z ∈ K1, -9223372036854775808 ≤ z ∧ z ≤ 9223372036854775807) (s1 : K1.length * 8 ≤ reachBytes) (hL : laidMet Tryd.prog plainL w) (hU : TabU w) :
    Calls Tryd.prog 4 #[.string a0, v1] w fun e w' => e = .returned (.bool true) ∧ Below w.heap.size w w' := by
  have t1 := hL.tail
  obtain ⟨b1, e1⟩ := sent_of (text := tV 1) t1 (g := gV 1) (by kernel_rfl) (by kernel_rfl)
  have t2 := hL.tail.tail
  obtain ⟨b2, e2⟩ := sent_of (text := tV 2) t2 (g := gV 2) (by kernel_rfl) (by kernel_rfl)
  have t3 := hL.tail.tail.tail
  obtain ⟨b3, e3⟩ := sent_of (text := tV 3) t3 (g := gV 3) (by kernel_rfl) (by kernel_rfl)
  have t4 := hL.tail.tail.tail.tail
  obtain ⟨b4, e4⟩ := sent_of (text := tV 4) t4 (g := gV 4) (by kernel_rfl) (by kernel_rfl)
  have t5 := hL.tail.tail.tail.tail.tail
  obtain ⟨b5, e5⟩ := sent_of (text := tV 5) t5 (g := gV 5) (by kernel_rfl) (by kernel_rfl)
  have t6 := hL.tail.tail.tail.tail.tail.tail
  obtain ⟨b6, e6⟩ := sent_of (text := tV 6) t6 (g := gV 6) (by kernel_rfl) (by kernel_rfl)
  have t7 := hL.tail.tail.tail.tail.tail.tail.tail
  obtain ⟨b7, e7⟩ := sent_of (text := tV 7) t7 (g := gV 7) (by kernel_rfl) (by kernel_rfl)
  have t8 := hL.tail.tail.tail.tail.tail.tail.tail.tail
  obtain ⟨b8, e8⟩ := sent_of (text := tV 8) t8 (g := gV 8) (by kernel_rfl) (by kernel_rfl)
  have t9 := hL.tail.tail.tail.tail.tail.tail.tail.tail.tail
  obtain ⟨b9, e9⟩ := sent_of (text := tV 9) t9 (g := gV 9) (by kernel_rfl) (by kernel_rfl)
  have t10 := hL.tail.tail.tail.tail.tail.tail.tail.tail.tail.tail
  obtain ⟨b10, e10⟩ := sent_of (text := tV 10) t10 (g := gV 10) (by kernel_rfl) (by kernel_rfl)
  have t11 := hL.tail.tail.tail.tail.tail.tail.tail.tail.tail.tail.tail
  obtain ⟨b11, e11⟩ := sent_of (text := tV 11) t11 (g := gV 11) (by kernel_rfl) (by kernel_rfl)
  have t12 := hL.tail.tail.tail.tail.tail.tail.tail.tail.tail.tail.tail.tail
  obtain ⟨b12, e12⟩ := sent_of (text := tV 12) t12 (g := gV 12) (by kernel_rfl) (by kernel_rfl)
  have t13 := hL.tail.tail.tail.tail.tail.tail.tail.tail.tail.tail.tail.tail.tail
  obtain ⟨b13, e13⟩ := sent_of (text := tV 13) t13 (g := gV 13) (by kernel_rfl) (by kernel_rfl)
  have t14 := hL.tail.tail.tail.tail.tail.tail.tail.tail.tail.tail.tail.tail.tail.tail
  obtain ⟨b14, e14⟩ := sent_of (text := tV 14) t14 (g := gV 14) (by kernel_rfl) (by kernel_rfl)
  have t15 := hL.tail.tail.tail.tail.tail.tail.tail.tail.tail.tail.tail.tail.tail.tail.tail
  obtain ⟨b15, e15⟩ := sent_of (text := tV 15) t15 (g := gV 15) (by kernel_rfl) (by kernel_rfl)
  have t16 := hL.tail.tail.tail.tail.tail.tail.tail.tail.tail.tail.tail.tail.tail.tail.tail.tail
  obtain ⟨b16, e16⟩ := sent_of (text := tV 16) t16 (g := gV 16) (by kernel_rfl) (by kernel_rfl)
  have t17 := hL.tail.tail.tail.tail.tail.tail.tail.tail.tail.tail.tail.tail.tail.tail.tail.tail.tail
  obtain ⟨b17, e17⟩ := sent_of (text := tV 17) t17 (g := gV 17) (by kernel_rfl) (by kernel_rfl)
  have t18 := hL.tail.tail.tail.tail.tail.tail.tail.tail.tail.tail.tail.tail.tail.tail.tail.tail.tail.tail
  obtain ⟨b18, e18⟩ := sent_of (text := tV 18) t18 (g := gV 18) (by kernel_rfl) (by kernel_rfl)
  have t19 := hL.tail.tail.tail.tail.tail.tail.tail.tail.tail.tail.tail.tail.tail.tail.tail.tail.tail.tail.tail
  obtain ⟨b19, e19⟩ := sent_of (text := tV 19) t19 (g := gV 19) (by kernel_rfl) (by kernel_rfl)
  have t20 := hL
  obtain ⟨b20, e20⟩ := sent_of (text := tV 20) t20 (g := gV 20) (by kernel_rfl) (by kernel_rfl)
  have hS : Sn (fun c : Nat => match c with | 1 => b1 | 2 => b2 | 3 => b3 | 4 => b4 | 5 => b5 | 6 => b6 | 7 => b7 | 8 => b8 | 9 => b9 | 10 => b10 | 11 => b11 | 12 => b12 | 13 => b13 | 14 => b14 | 15 => b15 | 16 => b16 | 17 => b17 | 18 => b18 | 19 => b19 | _ => b20) w := by
    intro c h1 h2
    match c, h1, h2 with
    | 1, _, _ => exact e1
    | 2, _, _ => exact e2
    | 3, _, _ => exact e3
    | 4, _, _ => exact e4
    | 5, _, _ => exact e5
    | 6, _, _ => exact e6
    | 7, _, _ => exact e7
    | 8, _, _ => exact e8
    | 9, _, _ => exact e9
    | 10, _, _ => exact e10
    | 11, _, _ => exact e11
    | 12, _, _ => exact e12
    | 13, _, _ => exact e13
    | 14, _, _ => exact e14
    | 15, _, _ => exact e15
    | 16, _, _ => exact e16
    | 17, _, _ => exact e17
    | 18, _, _ => exact e18
    | 19, _, _ => exact e19
    | 20, _, _ => exact e20
    | n + 21, _, h => exact absurd h (by omega)
  exact pieces_law _ a0 _ K1 w hS (errN_any _ w hS hU) s0 w1.1 w1.2 s1

set_option maxRecDepth 100000 in
theorem lifted (os : Os) (started : os.Started) (H : Type) (enc : TypeId × Value → H) :
    ReturnsInHanded {} Tryd.checked os 4 .any (fun w args => (Rows.sheetPiecesSpec.pre enc Tryd.prog Tryd.f4 [] false w args ∧ laidMetH Tryd.prog Rows.sheetPiecesRow.laid w) ∧ sizedMet enc Tryd.prog Tryd.f4 (OpenSpec.ofChange Rows.sheetPiecesSpec) false w args)
      (Rows.sheetPiecesSpec.post enc Tryd.prog Tryd.f4 false true false false) := by
  refine handed_shaped (C := Tryd.checked) (X := fun w _ => laidMetH Tryd.prog Rows.sheetPiecesRow.laid w) (fun _ _ _ hh h => h.of_heap hh) own started (by kernel_rfl) Tryd.func4
    (ChangeSpec.witness_shaped (enc := enc) (C := Tryd.checked) (os := os) (X := fun w _ => laidMetH Tryd.prog Rows.sheetPiecesRow.laid w) false (World.layVars Tryd.prog (World.holding Tryd.prog os ⟨#[], #[], []⟩ : World) plainL) #[.string ByteArray.empty, .slice none 0 0] 8 (World.layVars_os _ _ _)
      (World.shaped_of_ZipB (by kernel_rfl) (by kernel_rfl)) (by kernel_rfl) (by kernel_rfl) (by kernel_rfl)
      (met os _)) ?_
  intro W base args ds gs before hsh hval0 hW _ hsz0 hL0 _
  have hL := handle hL0
  clear hL0
  have hval : ∀ (j : Nat) t v, Tryd.f4.params[j]? = some t → args[j]? = some v → Value.okWide Tryd.prog W .any base t v := hval0
  have hW' := hW
  obtain ⟨p, q, hA0, hV, rfl, hfz, hnd⟩ := hW
  have hA : DataW.TrodAll enc Tryd.prog W 0 (fun _ => true) true Tryd.f4.params.toList args.toList ds p := hA0
  rw [Tryd.params4] at hA hval
  obtain ⟨v0, vs0, d0, ds0, p0, q0, hargs, rfl, rfl, h0, r0⟩ := trodAll_cons hA
  obtain ⟨v1, vs1, d1, ds1, p1, q1, rfl, rfl, rfl, h1, r1⟩ := trodAll_cons r0
  obtain ⟨rfl, rfl, rfl⟩ := trodAll_nil r1
  obtain rfl : args = #[v0, v1] := by cases args; simp_all
  obtain ⟨rfl, rfl⟩ := trodVars_none hV
  obtain ⟨a0, rfl, rfl, rfl, w0⟩ := open_string Tryd.underlying9 (hval 0 9 v0 rfl rfl) h0
  have k1 := h1
  have lt1 : ∀ x ∈ p1, x.block < W.heap.size := by obtain ⟨m, hm⟩ := k1; exact DataW.trod_lt m _ _ _ hm
  obtain ⟨c1, l1, m1, rfl⟩ := okWide_slice Tryd.underlying37 (hval 1 37 v1 rfl rfl)
  obtain ⟨K1, w1, z1⟩ := ints_open ⟨_, _, _, rfl⟩ h1
  have s1 := ints_sized hsz0 (j := 1) rfl rfl z1
  have s0 : a0.size ≤ 140737488355328 := by
    have h := sized_string hsz0 (j := 0) rfl rfl
    rw [Array.length_toList] at h
    exact Nat.le_trans h (by decide)
  clear hA0 hval0
  refine (walk a0 _ K1 W w0 s0 w1 s1 hL (tab_of hsh)).mono fun e W' ⟨he, bel⟩ => ?_
  subst he
  exact ⟨_, rfl, _, _, _, [], _, [], hW', trodAll_mk1 (shut_bool Tryd.underlying4 _), (trodAll_cons_mk (shut_string Tryd.underlying9 w0) (trodAll_cons_mk (Below.trod laidOut (by kernel_rfl) (of_decide_eq_true (by kernel_rfl)) k1 bel lt1) trodAll_mk0)), rfl, bel.frame _, fun h => by cases h⟩

theorem over : Rows.sheetPiecesRow.holds Tryd.pinned (OpenSpec.ofChange Rows.sheetPiecesSpec) :=
  OpenClaim.holds_of_wide 4 Tryd.f4 rfl rfl rfl rfl rfl rfl rfl ⟨rfl, rfl, rfl, rfl, rfl⟩ rfl rfl rfl rfl rfl (by kernel_rfl) Tryd.func4 (by kernel_rfl)
    (of_decide_eq_true (by kernel_rfl)) (by unfold Func.isWrapper; first | (rw [if_pos (by decide +kernel)]; kernel_rfl) | (rw [if_neg (by decide +kernel)]; exact ⟨rfl, rfl⟩))
    (fun os started H enc _ => lifted os started H enc)

theorem card : Rows.SheetPiecesCardSaid :=
  Claim7.holds_tied_plain_at .later [] [.sentinel, .sentinel, .sentinel, .sentinel, .sentinel, .sentinel, .sentinel, .sentinel, .sentinel, .sentinel, .sentinel, .sentinel, .sentinel, .sentinel, .sentinel, .sentinel, .sentinel, .sentinel, .sentinel, .sentinel] true (true, "0b213de09eea83d59f5c48953304db07202d785a1ec795908c3c5c02cfbaaf90") true over (fun _ h => by cases h) (by kernel_rfl) (fun _ h => by cases h) sheetPieces_row_tie rfl ⟨rfl, rfl⟩ (by kernel_rfl) rfl
    (fun f fn hf hfn => by
      obtain rfl : f = 4 := Option.some.inj ((show Tryd.prog.funcNamed Rows.sheetPiecesRow.func = some 4 by kernel_rfl).symm.trans hf) |>.symm
      obtain rfl : fn = Tryd.f4 := (Option.some.inj (Tryd.func4.symm.trans hfn)).symm
      exact ⟨by kernel_rfl, fun j t ht => by
        rw [Tryd.params4] at ht
        have hm : t ∈ ([9, 37] : List TypeId) := by simpa using Array.mem_of_getElem? ht
        have hall : (([9, 37] : List TypeId).all fun u => !Tryd.prog.wantsStandIn u) = true := by kernel_rfl
        exact (show Tryd.prog.wantsStandIn t = false by simpa using List.all_eq_true.1 hall t hm)⟩)
    (by kernel_rfl)
#print axioms card
end Go.Proofs.YtpgpeafmlijfkaaDoor.sheetPieces
