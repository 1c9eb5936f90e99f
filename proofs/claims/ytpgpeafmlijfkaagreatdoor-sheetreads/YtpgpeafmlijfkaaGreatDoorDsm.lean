/-
  Sheets, the document's side: may, placed. Laid by mkdsm.py.
-/
import Derived.Test.YtpgpeafmlijfkaaGreatDoorSq1
namespace Go.Proofs.YtpgpeafmlijfkaaGreatDoor
open Go.RowKit
set_option maxRecDepth 100000
set_option linter.unusedVariables false
set_option linter.unusedSimpArgs false

set_option maxHeartbeats 1000000 in
theorem dmay_any (c : UInt8) (w : World) : Calls Tryz.prog 90 #[.int .u8 (c.toNat : Int)] w fun e w' => e = .returned (.bool (mayB c.toNat)) ∧ w' = w := by
  by_cases h9 : c.toNat = 9
  · skip
    have HV := hid (show mayB c.toNat = true by unfold mayB; simp; omega)
    have e9 : ((c.toNat : Int) == 9) = true := by rw [beq_iff_eq]; omega
    rw [HV.out]
    go_enter Tryz.func90, Tryz.ntmps90
    go_wp2
    go_ret
    exact ⟨rfl, rfl⟩
  · skip
    by_cases h10 : c.toNat = 10
    · skip
      have HV := hid (show mayB c.toNat = true by unfold mayB; simp; omega)
      have e9 : ((c.toNat : Int) == 9) = false := by rw [beq_eq_false_iff_ne]; omega
      have e10 : ((c.toNat : Int) == 10) = true := by rw [beq_iff_eq]; omega
      rw [HV.out]
      go_enter Tryz.func90, Tryz.ntmps90
      go_wp2
      go_ret
      exact ⟨rfl, rfl⟩
    · skip
      by_cases h13 : c.toNat = 13
      · skip
        have HV := hid (show mayB c.toNat = true by unfold mayB; simp; omega)
        have e9 : ((c.toNat : Int) == 9) = false := by rw [beq_eq_false_iff_ne]; omega
        have e10 : ((c.toNat : Int) == 10) = false := by rw [beq_eq_false_iff_ne]; omega
        have e13 : ((c.toNat : Int) == 13) = true := by rw [beq_iff_eq]; omega
        rw [HV.out]
        go_enter Tryz.func90, Tryz.ntmps90
        go_wp2
        go_ret
        exact ⟨rfl, rfl⟩
      · skip
        by_cases h32 : 32 ≤ c.toNat
        · have d32 : decide ((32 : Int) ≤ (c.toNat : Int)) = true := by simp; omega
          have i32 : (32 : Int) ≤ (c.toNat : Int) := by omega
          by_cases h127 : c.toNat = 127
          · have n127 : ((c.toNat : Int) != 127) = false := by simp; omega
            have HV := hid (show mayB c.toNat = false by unfold mayB; simp; omega)
            have e9 : ((c.toNat : Int) == 9) = false := by rw [beq_eq_false_iff_ne]; omega
            have e10 : ((c.toNat : Int) == 10) = false := by rw [beq_eq_false_iff_ne]; omega
            have e13 : ((c.toNat : Int) == 13) = false := by rw [beq_eq_false_iff_ne]; omega
            have e127 : ((c.toNat : Int) == 127) = true := by rw [beq_iff_eq]; omega
            rw [HV.out]
            go_enter Tryz.func90, Tryz.ntmps90
            go_wp2
            go_ret
            exact ⟨rfl, rfl⟩
          · have n127 : ((c.toNat : Int) != 127) = true := by simp; omega
            have HV := hid (show mayB c.toNat = true by unfold mayB; simp; omega)
            have e9 : ((c.toNat : Int) == 9) = false := by rw [beq_eq_false_iff_ne]; omega
            have e10 : ((c.toNat : Int) == 10) = false := by rw [beq_eq_false_iff_ne]; omega
            have e13 : ((c.toNat : Int) == 13) = false := by rw [beq_eq_false_iff_ne]; omega
            have e127 : ((c.toNat : Int) == 127) = false := by rw [beq_eq_false_iff_ne]; omega
            rw [HV.out]
            go_enter Tryz.func90, Tryz.ntmps90
            go_wp2
            go_ret
            exact ⟨rfl, rfl⟩
        · have d32 : decide ((32 : Int) ≤ (c.toNat : Int)) = false := by simp; omega
          have i32 : ¬ (32 : Int) ≤ (c.toNat : Int) := by omega
          have HV := hid (show mayB c.toNat = false by unfold mayB; simp; omega)
          have e9 : ((c.toNat : Int) == 9) = false := by rw [beq_eq_false_iff_ne]; omega
          have e10 : ((c.toNat : Int) == 10) = false := by rw [beq_eq_false_iff_ne]; omega
          have e13 : ((c.toNat : Int) == 13) = false := by rw [beq_eq_false_iff_ne]; omega
          rw [HV.out]
          go_enter Tryz.func90, Tryz.ntmps90
          go_wp2
          go_ret
          exact ⟨rfl, rfl⟩
/-- the document's Fault as a value -/
def fV (c l k i : Nat) : Value := .agg #[.int .i64 (c : Int), .int .i64 (l : Int), .int .i64 (k : Int), .int .i64 (i : Int), .int .i64 0]
theorem plc_le (L : List UInt8) : ∀ i, (plc L i).1 ≤ i + 1 ∧ (plc L i).2 ≤ i
  | 0 => ⟨Nat.le_refl _, Nat.le_refl _⟩
  | i + 1 => by
    have := plc_le L i
    rw [plc]
    unfold adv
    split <;> simp <;> omega
theorem bt_at (s : ByteArray) (i : Nat) (h : i < s.size) : bt s.data.toList i = s[i] := by
  unfold bt
  have hl : i < s.data.toList.length := by rw [Array.length_toList]; exact h
  rw [List.getD_eq_getElem?_getD, List.getElem?_eq_getElem hl, Array.getElem_toList]
  rfl
/-- the document's Fault in a block -/
def FB (w : World) (b : Nat) (v0 v1 v2 v3 v4 : Value) : Prop := w.heap[b]? = some (.cells #[v0, v1, v2, v3, v4] 46 (0, 0))
section
variable {w : World} {b : Nat} {v0 v1 v2 v3 v4 : Value}
theorem FB.put0 (h : FB w b v0 v1 v2 v3 v4) (u : Value) : FB (w.setCell ⟨b, 0, none⟩ u) b u v1 v2 v3 v4 := Lib.heap_setCell_same h _
theorem FB.put1 (h : FB w b v0 v1 v2 v3 v4) (u : Value) : FB (w.setCell ⟨b, 1, none⟩ u) b v0 u v2 v3 v4 := Lib.heap_setCell_same h _
theorem FB.put2 (h : FB w b v0 v1 v2 v3 v4) (u : Value) : FB (w.setCell ⟨b, 2, none⟩ u) b v0 v1 u v3 v4 := Lib.heap_setCell_same h _
theorem FB.put3 (h : FB w b v0 v1 v2 v3 v4) (u : Value) : FB (w.setCell ⟨b, 3, none⟩ u) b v0 v1 v2 u v4 := Lib.heap_setCell_same h _
theorem FB.put4 (h : FB w b v0 v1 v2 v3 v4) (u : Value) : FB (w.setCell ⟨b, 4, none⟩ u) b v0 v1 v2 v3 u := Lib.heap_setCell_same h _
theorem FB.facts (h : FB w b v0 v1 v2 v3 v4) : w.cell? ⟨b, 0, none⟩ = some v0 ∧ w.cell? ⟨b, 1, none⟩ = some v1 ∧ w.cell? ⟨b, 2, none⟩ = some v2 ∧ w.cell? ⟨b, 3, none⟩ = some v3 ∧ w.cell? ⟨b, 4, none⟩ = some v4 ∧ (∀ j, w.frozen? ⟨b, j, none⟩ = false) ∧ b < w.heap.size :=
  ⟨Lib.cell_of_heap h 0, Lib.cell_of_heap h 1, Lib.cell_of_heap h 2, Lib.cell_of_heap h 3, Lib.cell_of_heap h 4, fun j => Lib.frozen_of_heap h j, (Array.getElem?_eq_some_iff.1 h).1⟩
theorem FB.other (h : FB w b v0 v1 v2 v3 v4) {b2 : Nat} (hne : b ≠ b2) (j : Nat) (u : Value) : FB (w.setCell ⟨b2, j, none⟩ u) b v0 v1 v2 v3 v4 := (Below.heap_setCell _ _ _ _ (by show b ≠ b2; exact hne)).trans h
end
set_option maxHeartbeats 4000000 in
theorem placed_any (s : ByteArray) (c i : Nat) (w : World) (hs : s.size ≤ 140737500000000) (hi : i ≤ s.size) :
    Calls Tryz.prog 54 #[.string s, .int .i64 (c : Int), .int .i64 (i : Int)] w fun e w' => e = .returned (fV c (plc s.data.toList i).1 (plc s.data.toList i).2 i) ∧ Below w.heap.size w w' := by
  go_enter Tryz.func54, Tryz.ntmps54
  go_wp2_with fail
  go_loopw [8] (fun j wr => ∃ m : Nat, m ≤ i ∧ j = .int .i64 (m : Int) ∧ Below w.heap.size w wr ∧ FB wr w.heap.size (.int .i64 0) (.int .i64 0) (.int .i64 0) (.int .i64 0) (.int .i64 0) ∧ FB wr (w.heap.size + 1) (.int .i64 (c : Int)) (.int .i64 ((plc s.data.toList m).1 : Int)) (.int .i64 ((plc s.data.toList m).2 : Int)) (.int .i64 (i : Int)) (.int .i64 0)) (fun j _ => i - (intOf j).toNat)
  case atStart =>
    have z1 : (w.alloc (.cells #[.int .i64 0, .int .i64 0, .int .i64 0, .int .i64 0, .int .i64 0] 46)).heap.size = w.heap.size + 1 := by simp
    refine ⟨0, Nat.zero_le _, rfl, ((Below.refl _ _).alloc (Nat.le_refl _) _).alloc (by omega) _, ?_, ?_⟩
    · exact (Lib.alloc_old _ _ _ (by omega)).trans (heap_alloc_new w _)
    · have h := heap_alloc_new (w.alloc (.cells #[.int .i64 0, .int .i64 0, .int .i64 0, .int .i64 0, .int .i64 0] 46)) (.cells #[.int .i64 (c : Int), .int .i64 1, .int .i64 0, .int .i64 (i : Int), .int .i64 0] 46)
      rw [z1] at h
      exact h
  case round =>
    obtain ⟨m, hm, rfl, hbl, h6, h7⟩ := hrel
    obtain ⟨a0, a1, a2, a3, a4, af, alt⟩ := h6.facts
    obtain ⟨b0, b1, b2, b3, b4, bf, blt⟩ := h7.facts
    have hp := plc_le s.data.toList m
    have f1 := bf 1
    have f2 := bf 2
    have q1 : (plc s.data.toList m).1 ≤ 200000000000000 := by omega
    have q2 : (plc s.data.toList m).2 ≤ 200000000000000 := by omega
    have hne : w.heap.size ≠ w.heap.size + 1 := by omega
    have H6 := hid h6
    have H7 := hid h7
    have HB := hid hbl
    by_cases hlt : m < i
    · have hI : (m : Int) < (i : Int) := by omega
      have hI2 : (m : Int) < (s.size : Int) := by omega
      have hms : m < s.size := by omega
      by_cases h10 : s[m].toNat = 10
      · have p10 : (s[m].toNat : Int) = 10 := by omega
        have e10 : ((s[m].toNat : Int) == 10) = true := by rw [beq_iff_eq]; exact p10
        have HP := hid (show plc s.data.toList (m + 1) = ((plc s.data.toList m).1 + 1, 0) by rw [plc_succ, bt_at s m hms]; unfold adv; rw [if_pos h10])
        clear h6 h7 hbl h10 af bf hp
        generalize plc s.data.toList m = P at *
        go_wp2
        go_roundw
        case rel =>
          refine ⟨m + 1, by omega, by go_num, ?_, ?_, ?_⟩
          · exact ((HB.out.setCell (p := ⟨w.heap.size + 1, 2, none⟩) (by show w.heap.size ≤ w.heap.size + 1; omega) _).setCell (p := ⟨w.heap.size + 1, 1, none⟩) (by show w.heap.size ≤ w.heap.size + 1; omega) _).setCell (p := ⟨w.heap.size + 1, 2, none⟩) (by show w.heap.size ≤ w.heap.size + 1; omega) _
          · exact ((H6.out.other hne _ _).other hne _ _).other hne _ _
          · rw [HP.out]
            exact ((H7.out.put2 _).put1 _).put2 _
        case measure => simp [intOf]; omega
      · have p10 : ¬ (s[m].toNat : Int) = 10 := by omega
        have e10 : ((s[m].toNat : Int) == 10) = false := by rw [beq_eq_false_iff_ne]; exact p10
        have HP := hid (show plc s.data.toList (m + 1) = ((plc s.data.toList m).1, (plc s.data.toList m).2 + 1) by rw [plc_succ, bt_at s m hms]; unfold adv; rw [if_neg h10])
        clear h6 h7 hbl h10 af bf hp
        generalize plc s.data.toList m = P at *
        go_wp2
        go_roundw
        case rel =>
          refine ⟨m + 1, by omega, by go_num, ?_, ?_, ?_⟩
          · exact HB.out.setCell (p := ⟨w.heap.size + 1, 2, none⟩) (by show w.heap.size ≤ w.heap.size + 1; omega) _
          · exact H6.out.other hne _ _
          · rw [HP.out]
            exact H7.out.put2 _
        case measure => simp [intOf]; omega
    · have hI : ¬ (m : Int) < (i : Int) := by omega
      have hmi : m = i := by omega
      subst hmi
      have g0 := af 0
      have g1 := af 1
      have g2 := af 2
      have g3 := af 3
      have g4 := af 4
      clear h6 h7 hbl af bf hp
      have hz := ((((H6.out.put0 (.int .i64 (c : Int))).put1 (.int .i64 ((plc s.data.toList m).1 : Int))).put2 (.int .i64 ((plc s.data.toList m).2 : Int))).put3 (.int .i64 (m : Int))).put4 (.int .i64 0)
      obtain ⟨d0, d1, d2, d3, d4, _, _⟩ := hz.facts
      clear hz
      go_wp2
      refine bodyPost_ret (by simp [results, Tryz.results54, go_sem, d0, d1, d2, d3, d4]; try rfl) rfl ?_
      refine ⟨rfl, ?_⟩
      exact ((((HB.out.setCell (p := ⟨w.heap.size, 0, none⟩) (Nat.le_refl _) _).setCell (p := ⟨w.heap.size, 1, none⟩) (Nat.le_refl _) _).setCell (p := ⟨w.heap.size, 2, none⟩) (Nat.le_refl _) _).setCell (p := ⟨w.heap.size, 3, none⟩) (Nat.le_refl _) _).setCell (p := ⟨w.heap.size, 4, none⟩) (Nat.le_refl _) _
end Go.Proofs.YtpgpeafmlijfkaaGreatDoor
