/-
  Sheets, the document's side: may, placed. Laid by mkdsm.py.
-/
import Derived.Test.YtedgdgaobgkffaaGreatDoorSq1
namespace Go.Proofs.YtedgdgaobgkffaaGreatDoor
open Go.RowKit
set_option maxRecDepth 100000
set_option linter.unusedVariables false
set_option linter.unusedSimpArgs false

set_option maxHeartbeats 1000000 in
theorem dmay_any (c : UInt8) (w : World) : Calls Tryz.prog 61 #[.int .u8 (c.toNat : Int)] w fun e w' => e = .returned (.bool (mayB c.toNat)) ∧ w' = w := by
  by_cases h9 : c.toNat = 9
  · skip
    have HV := hid (show mayB c.toNat = true by unfold mayB; simp; omega)
    have e9 : ((c.toNat : Int) == 9) = true := by rw [beq_iff_eq]; omega
    rw [HV.out]
    go_enter Tryz.func61, Tryz.ntmps61
    go_wp2
    go_ret
    exact ⟨rfl, rfl⟩
  · skip
    by_cases h10 : c.toNat = 10
    · skip
      have HV := hid (show mayB c.toNat = true by unfold mayB; simp; omega)
      have e9 : ((c.toNat : Int) == 9) = false := by rw [beq_eq_false_iff_ne]; omega
      have e10 : ((c.toNat : Int) == 10) = true := by rw [beq_iff_eq]; omega
      rw [HV.out]
      go_enter Tryz.func61, Tryz.ntmps61
      go_wp2
      go_ret
      exact ⟨rfl, rfl⟩
    · skip
      by_cases h13 : c.toNat = 13
      · skip
        have HV := hid (show mayB c.toNat = true by unfold mayB; simp; omega)
        have e9 : ((c.toNat : Int) == 9) = false := by rw [beq_eq_false_iff_ne]; omega
        have e10 : ((c.toNat : Int) == 10) = false := by rw [beq_eq_false_iff_ne]; omega
        have e13 : ((c.toNat : Int) == 13) = true := by rw [beq_iff_eq]; omega
        rw [HV.out]
        go_enter Tryz.func61, Tryz.ntmps61
        go_wp2
        go_ret
        exact ⟨rfl, rfl⟩
      · skip
        by_cases h32 : 32 ≤ c.toNat
        · have d32 : decide ((32 : Int) ≤ (c.toNat : Int)) = true := by simp; omega
          have i32 : (32 : Int) ≤ (c.toNat : Int) := by omega
          by_cases h127 : c.toNat = 127
          · have n127 : ((c.toNat : Int) != 127) = false := by simp; omega
            have HV := hid (show mayB c.toNat = false by unfold mayB; simp; omega)
            have e9 : ((c.toNat : Int) == 9) = false := by rw [beq_eq_false_iff_ne]; omega
            have e10 : ((c.toNat : Int) == 10) = false := by rw [beq_eq_false_iff_ne]; omega
            have e13 : ((c.toNat : Int) == 13) = false := by rw [beq_eq_false_iff_ne]; omega
            have e127 : ((c.toNat : Int) == 127) = true := by rw [beq_iff_eq]; omega
            rw [HV.out]
            go_enter Tryz.func61, Tryz.ntmps61
            go_wp2
            go_ret
            exact ⟨rfl, rfl⟩
          · have n127 : ((c.toNat : Int) != 127) = true := by simp; omega
            have HV := hid (show mayB c.toNat = true by unfold mayB; simp; omega)
            have e9 : ((c.toNat : Int) == 9) = false := by rw [beq_eq_false_iff_ne]; omega
            have e10 : ((c.toNat : Int) == 10) = false := by rw [beq_eq_false_iff_ne]; omega
            have e13 : ((c.toNat : Int) == 13) = false := by rw [beq_eq_false_iff_ne]; omega
            have e127 : ((c.toNat : Int) == 127) = false := by rw [beq_eq_false_iff_ne]; omega
            rw [HV.out]
            go_enter Tryz.func61, Tryz.ntmps61
            go_wp2
            go_ret
            exact ⟨rfl, rfl⟩
        · have d32 : decide ((32 : Int) ≤ (c.toNat : Int)) = false := by simp; omega
          have i32 : ¬ (32 : Int) ≤ (c.toNat : Int) := by omega
          have HV := hid (show mayB c.toNat = false by unfold mayB; simp; omega)
          have e9 : ((c.toNat : Int) == 9) = false := by rw [beq_eq_false_iff_ne]; omega
          have e10 : ((c.toNat : Int) == 10) = false := by rw [beq_eq_false_iff_ne]; omega
          have e13 : ((c.toNat : Int) == 13) = false := by rw [beq_eq_false_iff_ne]; omega
          rw [HV.out]
          go_enter Tryz.func61, Tryz.ntmps61
          go_wp2
          go_ret
          exact ⟨rfl, rfl⟩
/-- the document's Fault as a value -/
def fV (c l k i : Nat) : Value := .agg #[.int .i64 (c : Int), .int .i64 (l : Int), .int .i64 (k : Int), .int .i64 (i : Int), .int .i64 0]
theorem plc_le (L : List UInt8) : ∀ i, (plc L i).1 ≤ i + 1 ∧ (plc L i).2 ≤ i
  | 0 => ⟨Nat.le_refl _, Nat.le_refl _⟩
  | i + 1 => by
    have := plc_le L i
    rw [plc]
    unfold adv
    split <;> simp <;> omega
theorem bt_at (s : ByteArray) (i : Nat) (h : i < s.size) : bt s.data.toList i = s[i] := by
  unfold bt
  have hl : i < s.data.toList.length := by rw [Array.length_toList]; exact h
  rw [List.getD_eq_getElem?_getD, List.getElem?_eq_getElem hl, Array.getElem_toList]
  rfl
/-- the document's Fault in a block -/
def FB (w : World) (b : Nat) (v0 v1 v2 v3 v4 : Value) : Prop := w.heap[b]? = some (.cells #[v0, v1, v2, v3, v4] 30 (0, 0))
section
variable {w : World} {b : Nat} {v0 v1 v2 v3 v4 : Value}
theorem FB.put0 (h : FB w b v0 v1 v2 v3 v4) (u : Value) : FB (w.setCell ⟨b, 0, none⟩ u) b u v1 v2 v3 v4 := Lib.heap_setCell_same h _
theorem FB.put1 (h : FB w b v0 v1 v2 v3 v4) (u : Value) : FB (w.setCell ⟨b, 1, none⟩ u) b v0 u v2 v3 v4 := Lib.heap_setCell_same h _
theorem FB.put2 (h : FB w b v0 v1 v2 v3 v4) (u : Value) : FB (w.setCell ⟨b, 2, none⟩ u) b v0 v1 u v3 v4 := Lib.heap_setCell_same h _
theorem FB.put3 (h : FB w b v0 v1 v2 v3 v4) (u : Value) : FB (w.setCell ⟨b, 3, none⟩ u) b v0 v1 v2 u v4 := Lib.heap_setCell_same h _
theorem FB.put4 (h : FB w b v0 v1 v2 v3 v4) (u : Value) : FB (w.setCell ⟨b, 4, none⟩ u) b v0 v1 v2 v3 u := Lib.heap_setCell_same h _
theorem FB.facts (h : FB w b v0 v1 v2 v3 v4) : w.cell? ⟨b, 0, none⟩ = some v0 ∧ w.cell? ⟨b, 1, none⟩ = some v1 ∧ w.cell? ⟨b, 2, none⟩ = some v2 ∧ w.cell? ⟨b, 3, none⟩ = some v3 ∧ w.cell? ⟨b, 4, none⟩ = some v4 ∧ (∀ j, w.frozen? ⟨b, j, none⟩ = false) ∧ b < w.heap.size :=
  ⟨Lib.cell_of_heap h 0, Lib.cell_of_heap h 1, Lib.cell_of_heap h 2, Lib.cell_of_heap h 3, Lib.cell_of_heap h 4, fun j => Lib.frozen_of_heap h j, (Array.getElem?_eq_some_iff.1 h).1⟩
theorem FB.other (h : FB w b v0 v1 v2 v3 v4) {b2 : Nat} (hne : b ≠ b2) (j : Nat) (u : Value) : FB (w.setCell ⟨b2, j, none⟩ u) b v0 v1 v2 v3 v4 := (Below.heap_setCell _ _ _ _ (by show b ≠ b2; exact hne)).trans h
end
end Go.Proofs.YtedgdgaobgkffaaGreatDoor
