/-
  Which numbers are instants.
-/
import Derived.Test.YtjpglgemnaknhaaGreatDoorCday
namespace Go.Proofs.YtjpglgemnaknhaaGreatDoor
open Go.RowKit
set_option maxRecDepth 100000

theorem bax {a b : ByteArray} (h : a.data.toList = b.data.toList) : a = b := by
  cases a with
  | mk x =>
    cases b with
    | mk y => exact congrArg _ (Array.toList_inj.1 h)
abbrev InstS (t : Int) : Prop := 0 ≤ t ∧ t ≤ 315569519999
theorem isInstantS_any (t : Int) (w : World) :
    Calls Tryz.prog 19 #[.int .i64 t] w fun e w' => e = .returned (.bool (decide (0 ≤ t ∧ t ≤ 315569519999))) ∧ w' = w := by
  by_cases h0 : 0 ≤ t <;> by_cases h1 : t ≤ 315569519999
  all_goals
    go_enter Tryz.func19, Tryz.ntmps19
    go_wp2
    all_goals go_ret
    all_goals exact ⟨ret_bool (by simp [h0, h1]), rfl⟩

end Go.Proofs.YtjpglgemnaknhaaGreatDoor
