/-
  Bounds of a week's year and number.
-/
import Derived.Test.YtjpglgemnaknhaaGreatDoorCweek
namespace Go.Proofs.YtjpglgemnaknhaaGreatDoor
set_option maxRecDepth 100000

theorem week_bounds (y m d : Int) (h : VD y m d) : -1 ≤ wkY y (nb y m d) ∧ wkY y (nb y m d) ≤ 10000 ∧ 1 ≤ wkW y (nb y m d) ∧ wkW y (nb y m d) ≤ 53 := by
  have hny := nb_year y m d h
  have his := wkY_is y (nb y m d) hny.1 hny.2
  have hin := wk_in (wkY y (nb y m d)) (nb y m d) his.1 his.2
  have hw := wkN_is (wkY y (nb y m d))
  have hnum := wk_num (wkY y (nb y m d)) (nb y m d)
  have hy := h.1
  have hy9 := h.2.1
  refine ⟨?_, ?_, ?_, ?_⟩
  · unfold wkY; repeat' split
    all_goals omega
  · unfold wkY; repeat' split
    all_goals omega
  · unfold wkW; omega
  · unfold wkW; omega

end Go.Proofs.YtjpglgemnaknhaaGreatDoor
