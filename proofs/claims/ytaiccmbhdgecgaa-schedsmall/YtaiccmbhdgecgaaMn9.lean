/-
  Two mixes of the same steps: the one with more ahead of it is greater (pure); its counts as the law asks.
-/
import Derived.Test.YtaiccmbhdgecgaaMn8
import Derived.Test.YtaiccmbhdgecgaaLq3
namespace Go.Proofs.Ytaiccmbhdgecgaa
open Go.RowKit
set_option maxRecDepth 100000

theorem mx_below : ∀ (L : List Nat) (N : List Nat) (n m : Nat) (M : List Nat), Mx N n L → Mx N m M → n < m → bl (iN L) (iN M) = true
  | [], N, n, m, [], a, b, h => by have := a.2; have := b.2; omega
  | [], N, n, m, k :: M, a, b, h => by
    have h1 := a.1
    have h2 := getD_le N k b.1
    have h3 := b.2.1
    omega
  | p :: L, N, n, m, [], a, b, h => by
    have h1 := b.1
    have h2 := getD_le N p a.1
    have h3 := a.2.1
    omega
  | p :: L, N, n, m, k :: M, a, b, h => by
    obtain ⟨a1, a2, a3, a4, a5⟩ := a
    obtain ⟨b1, b2, b3, b4, b5⟩ := b
    show (if (p : Int) = (k : Int) then bl (iN L) (iN M) else decide ((p : Int) < (k : Int))) = true
    have hpk : p ≤ k := by
      rcases Nat.lt_or_ge k p with hc | hc
      · have := bS_mono N (show k + 1 ≤ p from hc)
        omega
      · exact hc
    by_cases e : p = k
    · subst e
      rw [if_pos rfl]
      exact mx_below L (less N p) (n - bS N p) (m - bS N p) M a4 b4 (by omega)
    · rw [if_neg (by omega)]
      exact decide_eq_true (by omega)
/-- how often a number stands in the first so many -/
def cnt (L : List Nat) (h i : Nat) : Nat := (L.take i).count h
theorem cnt_step (L : List Nat) (h i : Nat) (hi : i < L.length) : cnt L h (i + 1) = cnt L h i + (if L[i] = h then 1 else 0) := by
  unfold cnt
  rw [List.take_add_one, List.getElem?_eq_getElem hi, Option.toList_some, List.count_append, List.count_singleton]
  by_cases e : L[i] = h
  · rw [if_pos e]
    simp [e]
  · rw [if_neg e]
    simp [e]
theorem cnt_le (L : List Nat) (h i : Nat) : cnt L h i ≤ L.length := Nat.le_trans List.count_le_length (by rw [List.length_take]; omega)
theorem cnt_all (L : List Nat) (h : Nat) : cnt L h L.length = L.count h := by unfold cnt; rw [List.take_length]
end Go.Proofs.Ytaiccmbhdgecgaa
