/-
  Amounts, the document's own; and GtinAmounts' own walk.
-/
import Derived.Test.YtcenlpfanikdnaaDoorAmount
namespace Go.Proofs.YtcenlpfanikdnaaDoor
open Go.RowKit
set_option maxRecDepth 100000
attribute [local go_sem ↓] Go.wp_at_zero Go.wp_at_succ

theorem rk_amount {k : Int} (h0 : 0 ≤ k) (h1 : k ≤ 12) : (∃ p d c y, ∃ least most : Nat, rkOf k = rk p d least most c y true ∧ (k = 6 ∧ least = 6 ∧ most = 6 ∨ k = 7 ∧ least = 1 ∧ most = 15)) ∨ (∃ p d c y, ∃ least most : Nat, rkOf k = rk p d least most c y false ∧ k ≠ 6 ∧ k ≠ 7) := by
  have hk : k = 0 ∨ k = 1 ∨ k = 2 ∨ k = 3 ∨ k = 4 ∨ k = 5 ∨ k = 6 ∨ k = 7 ∨ k = 8 ∨ k = 9 ∨ k = 10 ∨ k = 11 ∨ k = 12 := by omega
  rcases hk with rfl | rfl | rfl | rfl | rfl | rfl | rfl | rfl | rfl | rfl | rfl | rfl | rfl
  all_goals first
    | exact .inl ⟨_, _, _, _, _, _, rfl, by decide⟩
    | exact .inr ⟨_, _, _, _, _, _, rfl, by decide, by decide⟩

theorem alloc_cells {w1 : World} {b o : Nat} {u : Value} (h : w1.cell? ⟨b, o, none⟩ = some u) : ∀ ob, (w1.alloc ob).cell? ⟨b, o, none⟩ = some u := fun _ => cell_old' h ((Below.refl _ _).alloc (Nat.le_refl _) _)

end Go.Proofs.YtcenlpfanikdnaaDoor
