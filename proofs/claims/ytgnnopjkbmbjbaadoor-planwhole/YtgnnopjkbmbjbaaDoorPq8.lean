/-
  Lists of one's own: their block, one cell of an element written over, what stands ahead.
-/
import Derived.Test.YtgnnopjkbmbjbaaDoorPq0
namespace Go.Proofs.YtgnnopjkbmbjbaaDoor
open Go.RowKit
set_option maxRecDepth 100000
section
variable {α : Type} {enc : α → List Value} {k : Nat} {t : TypeId} {w w' : World} {base : Nat} {v : Value} {L : List α}
theorem OL.block (h : OL enc k t w base v L) (hl : 0 < L.length) : ∃ g cap cur, v = .slice (some ⟨g, 0, none⟩) L.length cap ∧ L.length ≤ cap ∧ base ≤ g ∧ g < w.heap.size ∧ w.heap[g]? = some (.cells cur t (0, 0)) := by
  rcases h.2 with ⟨_, h0⟩ | ⟨g, cap, cur, hv, hb, hg, h1, _⟩
  · omega
  · exact ⟨g, cap, cur, hv, h1, hb, (Array.getElem?_eq_some_iff.1 hg).1, hg⟩
theorem RL.pre {A B : List α} {ao : Option Addr} {n c : Nat} (h : RL enc k w (.slice ao n c) (A ++ B)) : RL enc k w (.slice ao A.length c) A := by
  obtain ⟨ao', c', hv, hc, hn, hr⟩ := h
  cases hv
  refine ⟨_, _, rfl, by simp at hc; omega, hn, fun i hi => ?_⟩
  obtain ⟨g, off, ha, hq⟩ := hr i (by simp; omega)
  refine ⟨g, off, ha, fun j u hj => hq j u ?_⟩
  rw [List.getElem_append_left hi]
  exact hj
/-- one cell of one element written over -/
theorem OL.setc (hk : ∀ x, (enc x).length = k) (h : OL enc k t w base v L) {g n cap : Nat} (hv : v = .slice (some ⟨g, 0, none⟩) n cap) (i : Nat) (hi : i < L.length) (j : Nat) (hj : j < k) (x : α) (u : Value) (hx : enc x = (enc L[i]).set j u) :
    OL enc k t (w.setCell ⟨g, i * k + j, none⟩ u) base v (L.set i x) := by
  subst hv
  refine ⟨by rw [fm_len hk, List.length_set], ?_⟩
  rcases h.2 with ⟨h0, _⟩ | ⟨g', cap', cur, hv, hb, hg, h1, h2, h3, h4⟩
  · cases h0
  cases hv
  right
  refine ⟨g, cap, _, by rw [List.length_set], hb, Lib.heap_setCell_same hg _, by rw [List.length_set]; exact h1, h2, by simpa using h3, ?_⟩
  rw [List.length_set]
  apply List.ext_getElem?
  intro q
  have hq0 := congrArg (·[q]?) h4
  simp only [List.getElem?_take] at hq0
  have hle : i * k + k ≤ L.length * k := by rw [← Nat.succ_mul]; exact Nat.mul_le_mul_right k hi
  have hle2 : L.length * k ≤ cur.size := by rw [h3]; exact Nat.mul_le_mul_right k h1
  rw [fl_set hk L i hi x q, List.getElem?_take, Array.getElem?_toList, Array.getElem?_setIfInBounds, hx]
  by_cases c1 : i * k ≤ q ∧ q < i * k + k
  · rw [if_pos c1, if_pos (by omega), List.getElem?_set]
    have e1 := fl_at hk L i hi (q - i * k) (by omega)
    rw [show i * k + (q - i * k) = q by omega] at e1
    rw [if_pos (by omega), Array.getElem?_toList] at hq0
    by_cases c2 : i * k + j = q
    · rw [if_pos c2, if_pos (by omega), if_pos (by omega), if_pos (by rw [hk]; exact hj)]
    · rw [if_neg c2, if_neg (by omega), ← e1, ← hq0]
  · rw [if_neg c1, if_neg (show ¬ i * k + j = q by omega), ← hq0, Array.getElem?_toList]
/-- another block's cell written over -/
theorem OL.setOther (h : OL enc k t w base v L) {g o : Nat} (u : Value) (hne : ∀ b, v.ownBlock = some b → b ≠ g) : OL enc k t (w.setCell ⟨g, o, none⟩ u) base v L :=
  h.keep (row := some g) (gb_set w g o u) (fun b hb e => hne b hb (by cases e; rfl))
end
end Go.Proofs.YtgnnopjkbmbjbaaDoor
