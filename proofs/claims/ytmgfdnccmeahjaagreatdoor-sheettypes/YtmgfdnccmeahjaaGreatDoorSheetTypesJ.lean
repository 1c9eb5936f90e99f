/-
  SheetTypes: what the row's closed cells are, fact by fact (one would want more memory than there is).
-/
import Derived.Test.YtmgfdnccmeahjaaGreatDoorRows
import Derived.WalkKit
import Derived.ProofKit
import Derived.OpenShut
import Derived.RowKit
import Derived.JoinedOf
namespace Go.Proofs.YtmgfdnccmeahjaaGreatDoor.sheetTypes
open Go.ChangeShapes Go.WideShapes Go.ChangeAt Go.RowKit

theorem j1 : (Rows.sheetTypesRow.wf (OpenSpec.ofChange Rows.sheetTypesSpec) && laidOutB Tryz.prog && mapsRowed Tryz.prog && Tryz.f8.params.all (Tryz.prog.readableRec ·) && namedTie Tryz.prog Rows.sheetTypesRow.named Rows.sheetTypesSpec.vars && (Rows.sheetTypesRow.stops == []) && (Tryz.prog.stops == []) && (Rows.sheetTypesRow.knobs == []) && (Tryz.prog.stopKnobs == [])) = true := by kernel_rfl
theorem j2 : (Rows.sheetTypesRow.inPlace == Tryz.prog.inPlace 8) = true := by kernel_rfl
theorem j3 : (Rows.sheetTypesRow.unfollowed == Tryz.prog.unfollowed 8) = true := by kernel_rfl
theorem j4 : (Rows.sheetTypesRow.recurses == Tryz.prog.recurses 8) = true := by kernel_rfl
theorem j5 : (Rows.sheetTypesRow.named == Tryz.prog.varsNamed 8) = true := by kernel_rfl
theorem j6 : ((Rows.sheetTypesRow.maps == (Tryz.f8.params.toList ++ Rows.sheetTypesSpec.plain.varTypes Tryz.prog).any (Tryz.prog.mapsRec ·)) && (Rows.sheetTypesRow.ifaces == (Tryz.f8.params.toList ++ Rows.sheetTypesSpec.plain.varTypes Tryz.prog).any (Tryz.prog.ifacesRec ·)) && (Rows.sheetTypesRow.mapsOut == Tryz.prog.mapsAmong Tryz.f8.resultTypes.toList) && (Rows.sheetTypesRow.loops == (Tryz.f8.params.toList ++ Rows.sheetTypesSpec.plain.varTypes Tryz.prog).any (Tryz.prog.loopsFrom ·)) && (Rows.sheetTypesRow.wideKeys == (Tryz.f8.params.toList ++ Rows.sheetTypesSpec.plain.varTypes Tryz.prog ++ Tryz.f8.resultTypes.toList).any (Tryz.prog.wideKeysFrom ·))) = true := by kernel_rfl
theorem j7 : (Rows.sheetTypesSpec.vars.all (Tryz.prog.varReadable ·) && Tryz.f8.resultTypes.all (fun t => Tryz.prog.readableRec t && decide (t < Tryz.prog.types.size)) && (Rows.sheetTypesRow.ifacesOut == Tryz.f8.resultTypes.toList.any (Tryz.prog.ifacesRec ·)) && (Rows.sheetTypesRow.loopsOut == Tryz.f8.resultTypes.toList.any (Tryz.prog.loopsFrom ·)) && (Rows.sheetTypesRow.plainKeys == Tryz.prog.plainKeys) && Rows.sheetTypesRow.shortTexts.isNone && Tryz.prog.stopsHeard && Tryz.prog.mayEnter && (Rows.sheetTypesRow.lifted == Tryz.prog.liftsFinal) && (Tryz.prog.make == some Rows.sheetTypesRow.make)) = true := by kernel_rfl
theorem j8 : ((Rows.sheetTypesRow.kinds == (if Rows.sheetTypesRow.domain.isEmpty then [] else Tryz.f8.params.toList.map fun t => match Tryz.prog.underlying t with | some (.int k) => some k | _ => none)) && (Rows.sheetTypesRow.pinned == Rows.sheetTypesRow.pinnedBy) && (Rows.sheetTypesRow.veiled == (Tryz.f8.params.toList ++ Rows.sheetTypesSpec.plain.varTypes Tryz.prog ++ Tryz.f8.resultTypes.toList).any (Tryz.prog.veiledRec ·)) && Rows.sheetTypesRow.veiledFits Tryz.prog Tryz.f8.params.toList (Tryz.f8.params.toList ++ Rows.sheetTypesSpec.plain.varTypes Tryz.prog ++ Tryz.f8.resultTypes.toList)) = true := by kernel_rfl
set_option maxRecDepth 100000 in
theorem closed : joinedFacts Tryz.prog 8 Tryz.f8 Rows.sheetTypesSpec Rows.sheetTypesRow = true := by
  have h1 := j1
  have h6 := j6
  have h7 := j7
  have h8 := j8
  simp only [Bool.and_eq_true] at h1 h6 h7 h8
  obtain ⟨⟨⟨⟨⟨⟨⟨⟨a1, a2⟩, a3⟩, a4⟩, a5⟩, a6⟩, a7⟩, a8⟩, a9⟩ := h1
  obtain ⟨⟨⟨⟨b1, b2⟩, b3⟩, b4⟩, b5⟩ := h6
  obtain ⟨⟨⟨⟨⟨⟨⟨⟨⟨c1, c2⟩, c3⟩, c4⟩, c5⟩, c6⟩, c7⟩, c8⟩, c9⟩, c10⟩ := h7
  obtain ⟨⟨⟨d1, d2⟩, d3⟩, d4⟩ := h8
  unfold joinedFacts
  simp only [Bool.and_eq_true]
  exact ⟨⟨⟨⟨⟨⟨⟨⟨⟨⟨⟨⟨⟨⟨⟨⟨⟨⟨⟨⟨⟨⟨⟨⟨⟨⟨⟨⟨⟨⟨⟨a1, a2⟩, a3⟩, a4⟩, a5⟩, a6⟩, a7⟩, a8⟩, a9⟩, j2⟩, j3⟩, j4⟩, j5⟩, b1⟩, b2⟩, b3⟩, b4⟩, b5⟩, c1⟩, c2⟩, c3⟩, c4⟩, c5⟩, c6⟩, c7⟩, c8⟩, c9⟩, c10⟩, d1⟩, d2⟩, d3⟩, d4⟩
end Go.Proofs.YtmgfdnccmeahjaaGreatDoor.sheetTypes
