/-
  What is lent and kept; same; areBelow, isCount, slices.Min.
-/
import Derived.Test.YtmacjokbcgfpkaaSa
namespace Go.Proofs.Ytmacjokbcgfpkaa
open Go.RowKit
set_option maxRecDepth 100000

def mks : List Int := [7700, 7701, 7702, 7703, 7704, 7705, 7706, 7707, 7708]
theorem mks_len : mks.length = 9 := rfl
theorem mks_at (k : Nat) (h : k < mks.length) : mks[k]'h = 7700 + (k : Int) := by
  have : ∀ k : Fin 9, (mks[k.1]'k.2) = 7700 + (k.1 : Int) := by decide
  exact this ⟨k, h⟩
/-- v is lent: it reads as R, and the marks lie behind it -/
def LentI (w : World) (v : Value) (R : List Int) : Prop :=
  ∃ b cap, v = .slice (some ⟨b, 0, none⟩) R.length cap ∧ R.length + 9 ≤ cap ∧ cap ≤ maxLen ∧ ∀ j (hj : j < (R ++ mks).length), w.cell? ⟨b, j, none⟩ = some (.int .i64 ((R ++ mks)[j]))
theorem LentI.reads {w : World} {v : Value} {R : List Int} (h : LentI w v R) : RI w v R := by
  obtain ⟨b, cap, rfl, h1, _, hc⟩ := h
  refine ⟨_, cap, rfl, by omega, fun e => (by cases e), fun j hj => ⟨b, 0, rfl, ?_⟩⟩
  have := hc j (by simp; omega)
  rw [List.getElem_append_left hj] at this
  rw [Nat.zero_add]
  exact this
theorem LentI.below {w w' : World} {v : Value} {R : List Int} (h : LentI w v R) (hb : Below w.heap.size w w') : LentI w' v R := by
  obtain ⟨b, cap, hv, h1, h2, hc⟩ := h
  exact ⟨b, cap, hv, h1, h2, fun j hj => below_cells hb _ _ (hc j hj)⟩
theorem mark_cell {w : World} {b : Nat} {R : List Int} (hc : ∀ j (hj : j < (R ++ mks).length), w.cell? ⟨b, j, none⟩ = some (.int .i64 ((R ++ mks)[j]))) (k : Nat) (h : k < 9) :
    w.cell? ⟨b, R.length + k, none⟩ = some (.int .i64 (7700 + (k : Int))) := by
  have hk : R.length + k < (R ++ mks).length := by rw [List.length_append, mks_len]; omega
  have e : ((R ++ mks)[R.length + k]'hk) = 7700 + (k : Int) := by
    rw [List.getElem_append_right (by omega), mks_at]
    omega
  rw [hc (R.length + k) hk, e]

end Go.Proofs.Ytmacjokbcgfpkaa
