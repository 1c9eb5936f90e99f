/-
  Sheets, pure: places stay small; a byte of a text.
-/
import Derived.Test.YtpgpeafmlijfkaaDoorSp3
namespace Go.Proofs.YtpgpeafmlijfkaaDoor
set_option linter.unusedVariables false

theorem plc_le (L : List UInt8) : ∀ i, (plc L i).1 ≤ i + 1 ∧ (plc L i).2 ≤ i
  | 0 => ⟨Nat.le_refl _, Nat.le_refl _⟩
  | i + 1 => by
    have := plc_le L i
    rw [plc]
    unfold adv
    split <;> simp <;> omega
theorem bt_at (s : ByteArray) (i : Nat) (h : i < s.size) : bt s.data.toList i = s[i] := by
  unfold bt
  have hl : i < s.data.toList.length := by rw [Array.length_toList]; exact h
  rw [List.getD_eq_getElem?_getD, List.getElem?_eq_getElem hl, Array.getElem_toList]
  rfl
end Go.Proofs.YtpgpeafmlijfkaaDoor
