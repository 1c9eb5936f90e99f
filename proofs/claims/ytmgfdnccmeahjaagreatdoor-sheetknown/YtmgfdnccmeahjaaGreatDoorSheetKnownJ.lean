/-
  SheetKnown: what the row's closed cells are, fact by fact (one would want more memory than there is).
-/
import Derived.Test.YtmgfdnccmeahjaaGreatDoorRows
import Derived.WalkKit
import Derived.ProofKit
import Derived.OpenShut
import Derived.RowKit
import Derived.JoinedOf
namespace Go.Proofs.YtmgfdnccmeahjaaGreatDoor.sheetKnown
open Go.ChangeShapes Go.WideShapes Go.ChangeAt Go.RowKit

theorem j1 : (Rows.sheetKnownRow.wf (OpenSpec.ofChange Rows.sheetKnownSpec) && laidOutB Tryz.prog && mapsRowed Tryz.prog && Tryz.f5.params.all (Tryz.prog.readableRec ·) && namedTie Tryz.prog Rows.sheetKnownRow.named Rows.sheetKnownSpec.vars && (Rows.sheetKnownRow.stops == []) && (Tryz.prog.stops == []) && (Rows.sheetKnownRow.knobs == []) && (Tryz.prog.stopKnobs == [])) = true := by kernel_rfl
theorem j2 : (Rows.sheetKnownRow.inPlace == Tryz.prog.inPlace 5) = true := by kernel_rfl
theorem j3 : (Rows.sheetKnownRow.unfollowed == Tryz.prog.unfollowed 5) = true := by kernel_rfl
theorem j4 : (Rows.sheetKnownRow.recurses == Tryz.prog.recurses 5) = true := by kernel_rfl
theorem j5 : (Rows.sheetKnownRow.named == Tryz.prog.varsNamed 5) = true := by kernel_rfl
theorem j6 : ((Rows.sheetKnownRow.maps == (Tryz.f5.params.toList ++ Rows.sheetKnownSpec.plain.varTypes Tryz.prog).any (Tryz.prog.mapsRec ·)) && (Rows.sheetKnownRow.ifaces == (Tryz.f5.params.toList ++ Rows.sheetKnownSpec.plain.varTypes Tryz.prog).any (Tryz.prog.ifacesRec ·)) && (Rows.sheetKnownRow.mapsOut == Tryz.prog.mapsAmong Tryz.f5.resultTypes.toList) && (Rows.sheetKnownRow.loops == (Tryz.f5.params.toList ++ Rows.sheetKnownSpec.plain.varTypes Tryz.prog).any (Tryz.prog.loopsFrom ·)) && (Rows.sheetKnownRow.wideKeys == (Tryz.f5.params.toList ++ Rows.sheetKnownSpec.plain.varTypes Tryz.prog ++ Tryz.f5.resultTypes.toList).any (Tryz.prog.wideKeysFrom ·))) = true := by kernel_rfl
theorem j7 : (Rows.sheetKnownSpec.vars.all (Tryz.prog.varReadable ·) && Tryz.f5.resultTypes.all (fun t => Tryz.prog.readableRec t && decide (t < Tryz.prog.types.size)) && (Rows.sheetKnownRow.ifacesOut == Tryz.f5.resultTypes.toList.any (Tryz.prog.ifacesRec ·)) && (Rows.sheetKnownRow.loopsOut == Tryz.f5.resultTypes.toList.any (Tryz.prog.loopsFrom ·)) && (Rows.sheetKnownRow.plainKeys == Tryz.prog.plainKeys) && Rows.sheetKnownRow.shortTexts.isNone && Tryz.prog.stopsHeard && Tryz.prog.mayEnter && (Rows.sheetKnownRow.lifted == Tryz.prog.liftsFinal) && (Tryz.prog.make == some Rows.sheetKnownRow.make)) = true := by kernel_rfl
theorem j8 : ((Rows.sheetKnownRow.kinds == (if Rows.sheetKnownRow.domain.isEmpty then [] else Tryz.f5.params.toList.map fun t => match Tryz.prog.underlying t with | some (.int k) => some k | _ => none)) && (Rows.sheetKnownRow.pinned == Rows.sheetKnownRow.pinnedBy) && (Rows.sheetKnownRow.veiled == (Tryz.f5.params.toList ++ Rows.sheetKnownSpec.plain.varTypes Tryz.prog ++ Tryz.f5.resultTypes.toList).any (Tryz.prog.veiledRec ·)) && Rows.sheetKnownRow.veiledFits Tryz.prog Tryz.f5.params.toList (Tryz.f5.params.toList ++ Rows.sheetKnownSpec.plain.varTypes Tryz.prog ++ Tryz.f5.resultTypes.toList)) = true := by kernel_rfl
set_option maxRecDepth 100000 in
theorem closed : joinedFacts Tryz.prog 5 Tryz.f5 Rows.sheetKnownSpec Rows.sheetKnownRow = true := by
  have h1 := j1
  have h6 := j6
  have h7 := j7
  have h8 := j8
  simp only [Bool.and_eq_true] at h1 h6 h7 h8
  obtain ⟨⟨⟨⟨⟨⟨⟨⟨a1, a2⟩, a3⟩, a4⟩, a5⟩, a6⟩, a7⟩, a8⟩, a9⟩ := h1
  obtain ⟨⟨⟨⟨b1, b2⟩, b3⟩, b4⟩, b5⟩ := h6
  obtain ⟨⟨⟨⟨⟨⟨⟨⟨⟨c1, c2⟩, c3⟩, c4⟩, c5⟩, c6⟩, c7⟩, c8⟩, c9⟩, c10⟩ := h7
  obtain ⟨⟨⟨d1, d2⟩, d3⟩, d4⟩ := h8
  unfold joinedFacts
  simp only [Bool.and_eq_true]
  exact ⟨⟨⟨⟨⟨⟨⟨⟨⟨⟨⟨⟨⟨⟨⟨⟨⟨⟨⟨⟨⟨⟨⟨⟨⟨⟨⟨⟨⟨⟨⟨a1, a2⟩, a3⟩, a4⟩, a5⟩, a6⟩, a7⟩, a8⟩, a9⟩, j2⟩, j3⟩, j4⟩, j5⟩, b1⟩, b2⟩, b3⟩, b4⟩, b5⟩, c1⟩, c2⟩, c3⟩, c4⟩, c5⟩, c6⟩, c7⟩, c8⟩, c9⟩, c10⟩, d1⟩, d2⟩, d3⟩, d4⟩
end Go.Proofs.YtmgfdnccmeahjaaGreatDoor.sheetKnown
