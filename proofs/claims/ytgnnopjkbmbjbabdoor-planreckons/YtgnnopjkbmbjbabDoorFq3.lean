/-
  plan: the document's Quarters.
-/
import Derived.Test.YtgnnopjkbmbjbabDoorFq2
namespace Go.Proofs.YtgnnopjkbmbjbabDoor
open Go.RowKit
set_option maxRecDepth 100000
set_option linter.unusedSimpArgs false

def qA (f : Nat → Nat × Nat) (k : Nat) : Array Value := #[if 0 < k then .float .f64 (f 0).1 else .float .f64 0, if 0 < k then .float .f64 (f 0).2 else .float .f64 0, if 1 < k then .float .f64 (f 1).1 else .float .f64 0, if 1 < k then .float .f64 (f 1).2 else .float .f64 0, if 2 < k then .float .f64 (f 2).1 else .float .f64 0, if 2 < k then .float .f64 (f 2).2 else .float .f64 0, if 3 < k then .float .f64 (f 3).1 else .float .f64 0, if 3 < k then .float .f64 (f 3).2 else .float .f64 0]
theorem qA_set (f : Nat → Nat × Nat) (k : Nat) (hk : k < 4) : ((qA f k).setIfInBounds (k * 2) (.float .f64 (f k).1)).setIfInBounds (k * 2 + 1) (.float .f64 (f k).2) = qA f (k + 1) := by
  rcases (show k = 0 ∨ k = 1 ∨ k = 2 ∨ k = 3 by omega) with rfl | rfl | rfl | rfl <;> rfl
theorem qA_size (f : Nat → Nat × Nat) (k : Nat) : (qA f k).size = 8 := rfl
theorem run_store_flt (P : Program) (w : World) (a : Addr) (m : Mode) (k : FloatKind) (n : Nat) : (store a (.float k n) m).run P w = stored P w a (.float k n) m := run_store P w a _ m rfl
attribute [local go_sem] run_store_flt
def pt8 (f : Nat → Nat × Nat) : Value := .agg #[.float .f64 (f 0).1, .float .f64 (f 0).2, .float .f64 (f 1).1, .float .f64 (f 1).2, .float .f64 (f 2).1, .float .f64 (f 2).2, .float .f64 (f 3).1, .float .f64 (f 3).2]
theorem row8 {w : World} {b : Nat} {cur : Array Value} {t : TypeId} (h : w.heap[b]? = some (.cells cur t (0, 0))) (j : Nat) (u : Value) (hu : cur[j]? = some u) : w.cell? ⟨b, j, none⟩ = some u := by rw [Lib.cell_of_heap h]; exact hu
set_option maxHeartbeats 8000000 in
theorem rquarters_yes (v : Value) (L : List Int) (w : World) (h : RL eI 1 w v L) (hl : (L.length : Int) ≤ 9223372036854775807) (hz : hE L = 0) : Calls Tryd.prog 10 #[v] w fun e w' => e = .returned (.tuple #[pt8 (qfE L), .int .i64 (hE L)]) ∧ Below w.heap.size w w' := by
  have H := hid h
  obtain ⟨ao, cp, rfl⟩ := h.len0
  have CK := hid (fun (wx : World) (hx : RL eI 1 wx (.slice ao L.length cp) L) => history_any _ L wx hx hl)
  clear h
  obtain ⟨W1, hW1⟩ : ∃ W, w.alloc (.cells #[.float .f64 0, .float .f64 0, .float .f64 0, .float .f64 0, .float .f64 0, .float .f64 0, .float .f64 0, .float .f64 0] 36) = W := ⟨_, rfl⟩
  obtain ⟨W2, hW2⟩ : ∃ W, W1.alloc (.cells #[.float .f64 0, .float .f64 0, .float .f64 0, .float .f64 0, .float .f64 0, .float .f64 0, .float .f64 0, .float .f64 0] 36) = W := ⟨_, rfl⟩
  have zz : W1.heap.size = w.heap.size + 1 := by rw [← hW1, World.size_alloc]
  have B1 : Below w.heap.size w W1 := by rw [← hW1]; exact alloc_below _ _
  have B2 : Below W1.heap.size W1 W2 := by rw [← hW2]; exact alloc_below _ _
  have r1 : W1.heap[w.heap.size]? = some (.cells (qA (qf L) 0) 36 (0, 0)) := by rw [← hW1]; exact heap_alloc_new w _
  have r2 : W2.heap[w.heap.size]? = some (.cells (qA (qf L) 0) 36 (0, 0)) := (B2.block _ (by omega)).trans r1
  have q2 : W2.heap[w.heap.size + 1]? = some (.cells (qA (qf L) 0) 36 (0, 0)) := by rw [← hW2, ← zz]; exact heap_alloc_new W1 _
  have RR := hid (And.intro r2 (And.intro q2 (bel_step B1 B2)))
  have HW := hid (And.intro hW1 hW2)
  clear hW1 hW2 zz B1 B2 r1 r2 q2
  go_enter Tryd.func10, Tryd.ntmps10
  go_wp2_with fail
  rw [HW.out.1, HW.out.2]
  refine Calls.mono (CK.out _ (H.out.below RR.out.2.2)) ?_
  rintro e w1 ⟨rfl, rfl⟩
  clear HW
  generalize hqb : w.heap.size + 1 = qb at *
  generalize hrb : w.heap.size = rb at *
  have HE := hid (And.intro hqb hrb)
  clear hqb hrb
  obtain ⟨z1, z2⟩ := hE_zero hz
  have EQ := hid (show qfE L = qf L from funext fun k => if_pos hz)
  have HL := hid z1
  have HX := hid z2
  have HZ := hid hz
  rw [hz]
  clear hz z1 z2
  go_wp2_with fail
  have FK := hid (fun k => show qf L k = (floatOfInt .f64 (qre L k L.length), floatOfInt .f64 (qim L k L.length)) from rfl)
  generalize qf L = f at *
  go_loopw [6] (fun i wr => ∃ k : Nat, k ≤ 4 ∧ i = .int .i64 (k : Int) ∧ (wr.heap[rb]? = some (.cells (qA f 0) 36 (0, 0)) ∧ wr.heap[qb]? = some (.cells (qA f k) 36 (0, 0))) ∧ Below rb w wr) (fun i _ => 4 - (intOf i).toNat)
  case atStart => exact ⟨0, by omega, rfl, ⟨RR.out.1, RR.out.2.1⟩, RR.out.2.2⟩
  case round =>
    obtain ⟨k, hk, rfl, ⟨hr, hq⟩, hb⟩ := hrel
    have HR := hid hr
    have HQ := hid hq
    have HB := hid hb
    by_cases hlt : k < 4
    · have hI : (k : Int) < 4 := by omega
      have QB := hid (q_bound HX.out k)
      have RL2 := hid (H.out.below (show Below w.heap.size w wr by rw [HE.out.2]; exact hb))
      clear hr hq hb
      obtain ⟨wo, rfl⟩ : ∃ wo, wo = wr := ⟨_, rfl⟩
      go_wp2_with fail
      go_loop [9, 7, 8] (fun i re im => ∃ T : Nat, T ≤ L.length ∧ i = .int .i64 (T : Int) ∧ re = .int .i64 (qre L k T) ∧ im = .int .i64 (qim L k T)) (fun i _ _ => L.length - (intOf i).toNat)
      case atStart => exact ⟨0, by omega, rfl, rfl, rfl⟩
      case round =>
        obtain ⟨T, hTl, rfl, rfl, rfl⟩ := hrel
        by_cases hltT : T < L.length
        · have hIk : (T : Int) < (L.length : Int) := by omega
          obtain ⟨g, off, c, e1, hc, c0⟩ := int_at RL2.out T hltT
          cases e1
          have ER := hid (show qre L k (T + 1) = qre L k T + trR (k * T % 4) * L[T]'hltT by simp [qre, List.getElem?_eq_getElem hltT])
          have EI := hid (show qim L k (T + 1) = qim L k T + trI (k * T % 4) * L[T]'hltT by simp [qim, List.getElem?_eq_getElem hltT])
          have b0 := QB.out T
          have hl2 := HL.out
          have bx := HX.out _ (List.getElem_mem hltT)
          obtain ⟨p, hp⟩ : ∃ p : Nat, k * T = p := ⟨_, rfl⟩
          have pI : (k : Int) * (T : Int) = (p : Int) := by rw [← hp]; exact (Int.natCast_mul k T).symm
          have pB : (p : Int) ≤ 16384 := by rw [← hp]; have := Nat.mul_le_mul (show k ≤ 4 by omega) (show T ≤ 4096 by omega); omega
          have pM : (p : Int).tmod 4 = ((p % 4 : Nat) : Int) := by rw [Int.tmod_eq_emod_of_nonneg (by omega)]; omega
          rw [hp] at ER EI
          clear hp
          generalize L[T]'hltT = x at *
          generalize qre L k T = re at *
          generalize qim L k T = im at *
          rcases (show p % 4 = 0 ∨ p % 4 = 1 ∨ p % 4 = 2 ∨ p % 4 = 3 by omega) with hj | hj | hj | hj
          all_goals
            rw [hj] at ER EI pM
            simp only [trR, trI] at ER EI
            clear hj
            go_wp2_with fail
            go_round
            case rel => exact ⟨T + 1, by omega, by go_num, by rw [ER.out]; first | rfl | (congr 1; omega), by rw [EI.out]; first | rfl | (congr 1; omega)⟩
            case measure => simp [intOf]; omega
        · obtain rfl : T = L.length := by omega
          have fk := FK.out k
          have HP := hid (qA_set f k hlt)
          rw [fk] at HP
          dsimp only at HP
          have c3 : wo.cell? ⟨qb, k * 2, none⟩ = some _ := cell_some HQ.out (by rw [qA_size]; omega)
          have i1 := Lib.heap_setCell_same (i := k * 2) HQ.out (.float .f64 (floatOfInt .f64 (qre L k L.length)))
          have i2 := Lib.heap_setCell_same (i := k * 2 + 1) i1 (.float .f64 (floatOfInt .f64 (qim L k L.length)))
          rw [HP.out] at i2
          have c4 := cell_some (j := k * 2 + 1) i1 (by simp [qA]; omega)
          have f0 := Lib.frozen_of_heap HQ.out
          have f1 := Lib.frozen_of_heap i1
          have n1 : ((wo.setCell ⟨qb, k * 2, none⟩ (.float .f64 (floatOfInt .f64 (qre L k L.length)))).setCell ⟨qb, k * 2 + 1, none⟩ (.float .f64 (floatOfInt .f64 (qim L k L.length)))).heap[rb]? = some (.cells (qA f 0) 36 (0, 0)) := (Below.heap_setCell _ _ _ _ (by show rb ≠ qb; have := HE.out; omega)).trans ((Below.heap_setCell _ _ _ _ (by show rb ≠ qb; have := HE.out; omega)).trans HR.out)
          have n2 : Below rb w ((wo.setCell ⟨qb, k * 2, none⟩ (.float .f64 (floatOfInt .f64 (qre L k L.length)))).setCell ⟨qb, k * 2 + 1, none⟩ (.float .f64 (floatOfInt .f64 (qim L k L.length)))) := Below.setCell (Below.setCell HB.out (p := ⟨qb, k * 2, none⟩) (by show rb ≤ qb; have := HE.out; omega) _) (p := ⟨qb, k * 2 + 1, none⟩) (by show rb ≤ qb; have := HE.out; omega) _
          have NN4 := hid (And.intro n1 (And.intro i2 n2))
          clear n1 n2 i1 i2 fk
          generalize qre L k L.length = re at *
          generalize qim L k L.length = im at *
          go_wp2_with fail
          go_roundw
          case rel => exact ⟨k + 1, by omega, by go_num, ⟨NN4.out.1, NN4.out.2.1⟩, NN4.out.2.2⟩
          case measure => simp [intOf]; omega
    · obtain rfl : k = 4 := by omega
      have p0 := row8 hq 0 (.float .f64 (f 0).1) rfl
      have p1 := row8 hq 1 (.float .f64 (f 0).2) rfl
      have p2 := row8 hq 2 (.float .f64 (f 1).1) rfl
      have p3 := row8 hq 3 (.float .f64 (f 1).2) rfl
      have p4 := row8 hq 4 (.float .f64 (f 2).1) rfl
      have p5 := row8 hq 5 (.float .f64 (f 2).2) rfl
      have p6 := row8 hq 6 (.float .f64 (f 3).1) rfl
      have p7 := row8 hq 7 (.float .f64 (f 3).2) rfl
      have i : wr.heap[rb]? = some (.cells #[.float .f64 0, .float .f64 0, .float .f64 0, .float .f64 0, .float .f64 0, .float .f64 0, .float .f64 0, .float .f64 0] 36 (0, 0)) := hr
      have i0 : (wr.setCell ⟨rb, 0, none⟩ (.float .f64 (f 0).1)).heap[rb]? = some (.cells #[.float .f64 (f 0).1, .float .f64 0, .float .f64 0, .float .f64 0, .float .f64 0, .float .f64 0, .float .f64 0, .float .f64 0] 36 (0, 0)) := Lib.heap_setCell_same (i := 0) i (.float .f64 (f 0).1)
      have i1 : ((wr.setCell ⟨rb, 0, none⟩ (.float .f64 (f 0).1)).setCell ⟨rb, 1, none⟩ (.float .f64 (f 0).2)).heap[rb]? = some (.cells #[.float .f64 (f 0).1, .float .f64 (f 0).2, .float .f64 0, .float .f64 0, .float .f64 0, .float .f64 0, .float .f64 0, .float .f64 0] 36 (0, 0)) := Lib.heap_setCell_same (i := 1) i0 (.float .f64 (f 0).2)
      have i2 : (((wr.setCell ⟨rb, 0, none⟩ (.float .f64 (f 0).1)).setCell ⟨rb, 1, none⟩ (.float .f64 (f 0).2)).setCell ⟨rb, 2, none⟩ (.float .f64 (f 1).1)).heap[rb]? = some (.cells #[.float .f64 (f 0).1, .float .f64 (f 0).2, .float .f64 (f 1).1, .float .f64 0, .float .f64 0, .float .f64 0, .float .f64 0, .float .f64 0] 36 (0, 0)) := Lib.heap_setCell_same (i := 2) i1 (.float .f64 (f 1).1)
      have i3 : ((((wr.setCell ⟨rb, 0, none⟩ (.float .f64 (f 0).1)).setCell ⟨rb, 1, none⟩ (.float .f64 (f 0).2)).setCell ⟨rb, 2, none⟩ (.float .f64 (f 1).1)).setCell ⟨rb, 3, none⟩ (.float .f64 (f 1).2)).heap[rb]? = some (.cells #[.float .f64 (f 0).1, .float .f64 (f 0).2, .float .f64 (f 1).1, .float .f64 (f 1).2, .float .f64 0, .float .f64 0, .float .f64 0, .float .f64 0] 36 (0, 0)) := Lib.heap_setCell_same (i := 3) i2 (.float .f64 (f 1).2)
      have i4 : (((((wr.setCell ⟨rb, 0, none⟩ (.float .f64 (f 0).1)).setCell ⟨rb, 1, none⟩ (.float .f64 (f 0).2)).setCell ⟨rb, 2, none⟩ (.float .f64 (f 1).1)).setCell ⟨rb, 3, none⟩ (.float .f64 (f 1).2)).setCell ⟨rb, 4, none⟩ (.float .f64 (f 2).1)).heap[rb]? = some (.cells #[.float .f64 (f 0).1, .float .f64 (f 0).2, .float .f64 (f 1).1, .float .f64 (f 1).2, .float .f64 (f 2).1, .float .f64 0, .float .f64 0, .float .f64 0] 36 (0, 0)) := Lib.heap_setCell_same (i := 4) i3 (.float .f64 (f 2).1)
      have i5 : ((((((wr.setCell ⟨rb, 0, none⟩ (.float .f64 (f 0).1)).setCell ⟨rb, 1, none⟩ (.float .f64 (f 0).2)).setCell ⟨rb, 2, none⟩ (.float .f64 (f 1).1)).setCell ⟨rb, 3, none⟩ (.float .f64 (f 1).2)).setCell ⟨rb, 4, none⟩ (.float .f64 (f 2).1)).setCell ⟨rb, 5, none⟩ (.float .f64 (f 2).2)).heap[rb]? = some (.cells #[.float .f64 (f 0).1, .float .f64 (f 0).2, .float .f64 (f 1).1, .float .f64 (f 1).2, .float .f64 (f 2).1, .float .f64 (f 2).2, .float .f64 0, .float .f64 0] 36 (0, 0)) := Lib.heap_setCell_same (i := 5) i4 (.float .f64 (f 2).2)
      have i6 : (((((((wr.setCell ⟨rb, 0, none⟩ (.float .f64 (f 0).1)).setCell ⟨rb, 1, none⟩ (.float .f64 (f 0).2)).setCell ⟨rb, 2, none⟩ (.float .f64 (f 1).1)).setCell ⟨rb, 3, none⟩ (.float .f64 (f 1).2)).setCell ⟨rb, 4, none⟩ (.float .f64 (f 2).1)).setCell ⟨rb, 5, none⟩ (.float .f64 (f 2).2)).setCell ⟨rb, 6, none⟩ (.float .f64 (f 3).1)).heap[rb]? = some (.cells #[.float .f64 (f 0).1, .float .f64 (f 0).2, .float .f64 (f 1).1, .float .f64 (f 1).2, .float .f64 (f 2).1, .float .f64 (f 2).2, .float .f64 (f 3).1, .float .f64 0] 36 (0, 0)) := Lib.heap_setCell_same (i := 6) i5 (.float .f64 (f 3).1)
      have i7 : ((((((((wr.setCell ⟨rb, 0, none⟩ (.float .f64 (f 0).1)).setCell ⟨rb, 1, none⟩ (.float .f64 (f 0).2)).setCell ⟨rb, 2, none⟩ (.float .f64 (f 1).1)).setCell ⟨rb, 3, none⟩ (.float .f64 (f 1).2)).setCell ⟨rb, 4, none⟩ (.float .f64 (f 2).1)).setCell ⟨rb, 5, none⟩ (.float .f64 (f 2).2)).setCell ⟨rb, 6, none⟩ (.float .f64 (f 3).1)).setCell ⟨rb, 7, none⟩ (.float .f64 (f 3).2)).heap[rb]? = some (.cells #[.float .f64 (f 0).1, .float .f64 (f 0).2, .float .f64 (f 1).1, .float .f64 (f 1).2, .float .f64 (f 2).1, .float .f64 (f 2).2, .float .f64 (f 3).1, .float .f64 (f 3).2] 36 (0, 0)) := Lib.heap_setCell_same (i := 7) i6 (.float .f64 (f 3).2)
      have j0 := Below.setCell hb (p := ⟨rb, 0, none⟩) (Nat.le_refl _) (.float .f64 (f 0).1)
      have j1 := Below.setCell j0 (p := ⟨rb, 1, none⟩) (Nat.le_refl _) (.float .f64 (f 0).2)
      have j2 := Below.setCell j1 (p := ⟨rb, 2, none⟩) (Nat.le_refl _) (.float .f64 (f 1).1)
      have j3 := Below.setCell j2 (p := ⟨rb, 3, none⟩) (Nat.le_refl _) (.float .f64 (f 1).2)
      have j4 := Below.setCell j3 (p := ⟨rb, 4, none⟩) (Nat.le_refl _) (.float .f64 (f 2).1)
      have j5 := Below.setCell j4 (p := ⟨rb, 5, none⟩) (Nat.le_refl _) (.float .f64 (f 2).2)
      have j6 := Below.setCell j5 (p := ⟨rb, 6, none⟩) (Nat.le_refl _) (.float .f64 (f 3).1)
      have j7 := Below.setCell j6 (p := ⟨rb, 7, none⟩) (Nat.le_refl _) (.float .f64 (f 3).2)
      have k0 := row8 i 0 (.float .f64 0) rfl
      have f0 := Lib.frozen_of_heap i
      have k1 := row8 i0 1 (.float .f64 0) rfl
      have f1 := Lib.frozen_of_heap i0
      have k2 := row8 i1 2 (.float .f64 0) rfl
      have f2 := Lib.frozen_of_heap i1
      have k3 := row8 i2 3 (.float .f64 0) rfl
      have f3 := Lib.frozen_of_heap i2
      have k4 := row8 i3 4 (.float .f64 0) rfl
      have f4 := Lib.frozen_of_heap i3
      have k5 := row8 i4 5 (.float .f64 0) rfl
      have f5 := Lib.frozen_of_heap i4
      have k6 := row8 i5 6 (.float .f64 0) rfl
      have f6 := Lib.frozen_of_heap i5
      have k7 := row8 i6 7 (.float .f64 0) rfl
      have f7 := Lib.frozen_of_heap i6
      have II := hid (And.intro i7 j7)
      clear hr hq hb i i0 i1 i2 i3 i4 i5 i6 i7 j0 j1 j2 j3 j4 j5 j6 j7
      go_wp2_with fail
      obtain ⟨W8, hW8⟩ : ∃ W, ((((((((wr.setCell ⟨rb, 0, none⟩ (.float .f64 (f 0).1)).setCell ⟨rb, 1, none⟩ (.float .f64 (f 0).2)).setCell ⟨rb, 2, none⟩ (.float .f64 (f 1).1)).setCell ⟨rb, 3, none⟩ (.float .f64 (f 1).2)).setCell ⟨rb, 4, none⟩ (.float .f64 (f 2).1)).setCell ⟨rb, 5, none⟩ (.float .f64 (f 2).2)).setCell ⟨rb, 6, none⟩ (.float .f64 (f 3).1)).setCell ⟨rb, 7, none⟩ (.float .f64 (f 3).2)) = W := ⟨_, rfl⟩
      rw [hW8]
      rw [hW8] at II
      have d0 := row8 II.out.1 0 (.float .f64 (f 0).1) rfl
      have d1 := row8 II.out.1 1 (.float .f64 (f 0).2) rfl
      have d2 := row8 II.out.1 2 (.float .f64 (f 1).1) rfl
      have d3 := row8 II.out.1 3 (.float .f64 (f 1).2) rfl
      have d4 := row8 II.out.1 4 (.float .f64 (f 2).1) rfl
      have d5 := row8 II.out.1 5 (.float .f64 (f 2).2) rfl
      have d6 := row8 II.out.1 6 (.float .f64 (f 3).1) rfl
      have d7 := row8 II.out.1 7 (.float .f64 (f 3).2) rfl
      have BF := hid II.out.2
      clear k0 k1 k2 k3 k4 k5 k6 k7 f0 f1 f2 f3 f4 f5 f6 f7 II hW8 p0 p1 p2 p3 p4 p5 p6 p7
      refine bodyPost_ret (by simp [results, Tryd.results10, go_sem, d0, d1, d2, d3, d4, d5, d6, d7]; try rfl) rfl ?_
      exact ⟨by rw [EQ.out, HZ.out]; rfl, by rw [HE.out.2]; exact BF.out⟩
end Go.Proofs.YtgnnopjkbmbjbabDoor
