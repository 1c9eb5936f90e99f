/-
  The document's own weeks.
-/
import Derived.Test.YtjpglgemnaknhaaGreatDoorRof
import Derived.Test.YtjpglgemnaknhaaGreatDoorCfw
import Derived.Test.YtjpglgemnaknhaaGreatDoorWkb
namespace Go.Proofs.YtjpglgemnaknhaaGreatDoor
open Go.RowKit
set_option maxRecDepth 100000

theorem ys_m1 : ys (-1) = -365 := by decide

/-- the year of the Thursday -/
theorem thu_year (y m d : Int) (h : VD y m d) (n : Int) (hn : nb y m d = n) :
    (thu n < 0 ∧ wkY y n = -1) ∨ (0 ≤ thu n ∧ wkY y n = (if thu n ≤ 3652424 then dY (thu n) else 10000)) := by
  subst hn
  have hny := nb_year y m d h
  have hnr := nb_range y m d h
  have hw := wd_lt (nb y m d)
  have ht : thu (nb y m d) = nb y m d - wd (nb y m d) + 3 := rfl
  have e0 := ys_zero
  have e1 := ys_m1
  have e2 := ys_10000
  have e3 : ys 10001 = 3652791 := by decide
  by_cases h0 : thu (nb y m d) < 0
  · exact .inl ⟨h0, (wkY_eq y (-1) _ hny.1 hny.2 (by omega) (by show _ < ys 0; omega)).symm⟩
  · refine .inr ⟨by omega, ?_⟩
    by_cases h1 : thu (nb y m d) ≤ 3652424
    · rw [if_pos h1]
      obtain ⟨a, b⟩ := dt_is (thu (nb y m d)) ⟨by omega, h1⟩
      have c := nb_year _ _ _ a
      rw [b] at c
      exact (wkY_eq y _ _ hny.1 hny.2 c.1 c.2).symm
    · rw [if_neg h1]
      exact (wkY_eq y 10000 _ hny.1 hny.2 (by omega) (by show _ < ys 10001; omega)).symm

end Go.Proofs.YtjpglgemnaknhaaGreatDoor
