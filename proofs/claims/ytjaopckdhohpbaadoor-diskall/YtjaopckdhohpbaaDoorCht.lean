/-
  Disk: are two choices one; what holds between two rounds of DiskAll.
-/
import Derived.Test.YtjaopckdhohpbaaDoorChs
import Derived.Test.YtjaopckdhohpbaaDoorAp0
import Derived.Test.YtjaopckdhohpbaaDoorDkh
namespace Go.Proofs.YtjaopckdhohpbaaDoor
open Go.RowKit Go.Shelf
set_option maxRecDepth 100000
set_option linter.unusedVariables false
set_option linter.unusedSimpArgs false

set_option maxHeartbeats 4000000 in
theorem intsD_any (a b : Value) (K L : List Int) (w : World) (ha : RI w a K) (hb : RI w b L) (hK : K.length ≤ 1000000) (hL : L.length ≤ 1000000) :
    Calls Tryd.prog 35 #[a, b] w fun e w' => e = .returned (.bool (decide (K = L))) ∧ Below w.heap.size w w' := by
  obtain ⟨ao, ac, rfl, hac, hA⟩ := ha
  obtain ⟨bo, bc, rfl, hbc, hB⟩ := hb
  have HA := hid hA
  have HB := hid hB
  clear hA hB
  by_cases hl : K.length = L.length
  · have hlb : ((K.length : Int) != (L.length : Int)) = false := by simp [hl]
    have hlI : (K.length : Int) = (L.length : Int) := by omega
    have HL := hid hl
    have HLI := hid hlI
    clear hl hlI
    go_enter Tryd.func35, Tryd.ntmps35
    go_wp2_with fail
    go_loopw [5] (fun i wr => ∃ j : Nat, j ≤ K.length ∧ i = .int .i64 (j : Int) ∧ K.take j = L.take j ∧ Below w.heap.size w wr) (fun i _ => K.length - (intOf i).toNat)
    case atStart => exact ⟨0, by omega, rfl, by simp, Below.refl _ _⟩
    case round =>
      obtain ⟨j, hj, rfl, hP, hbl⟩ := hrel
      have HP := hid hP
      have HBl := hid hbl
      clear hP hbl
      by_cases hlt : j < K.length
      · have hI : (j : Int) < (K.length : Int) := by omega
        have hI2 : (j : Int) < (L.length : Int) := by have := HL.out; omega
        obtain ⟨g, off, e1, c1⟩ := HA.out j hlt
        obtain ⟨g2, off2, e2, c2⟩ := HB.out j (by have := HL.out; omega)
        subst e1 e2
        have c1 : wr.drew.cell? ⟨g, off + j, none⟩ = some (.int .i64 K[j]) := below_cells HBl.out _ _ c1
        have c2 : wr.drew.cell? ⟨g2, off2 + j, none⟩ = some (.int .i64 (L[j]'(by have := HL.out; omega))) := below_cells HBl.out _ _ c2
        have hjL : j < L.length := by have := HL.out; omega
        by_cases he : K[j] = L[j]
        · have hN := hid (show K.take (j + 1) = L.take (j + 1) by rw [List.take_succ_eq_append_getElem hlt, List.take_succ_eq_append_getElem hjL, HP.out, he])
          rw [he] at c1
          generalize L[j] = z at *
          clear he
          go_wp2
          go_region
          all_goals
            go_wp2
            go_roundw
            case rel => exact ⟨j + 1, by omega, by go_num, hN.out, HBl.out.drew⟩
            case measure => simp [intOf]; omega
        · have hne : (K[j] != L[j]) = true := by simp [he]
          have HF := hid (show decide (K = L) = false from decide_eq_false fun h => he (by subst h; rfl))
          generalize K[j] = y at *
          generalize L[j] = z at *
          go_wp2
          go_region
          all_goals
            go_wp2
            go_ret
            exact ⟨by rw [HF.out]; rfl, HBl.out.drew⟩
      · have hI : ¬ (j : Int) < (K.length : Int) := by omega
        have HT := hid (show decide (K = L) = true from decide_eq_true (by
          have e := HP.out
          have e2 := HL.out
          rw [List.take_of_length_le (by omega), List.take_of_length_le (by omega)] at e
          exact e))
        go_wp2
        go_ret
        exact ⟨by rw [HT.out]; rfl, HBl.out⟩
  · have hlb : ((K.length : Int) != (L.length : Int)) = true := by simp; omega
    have hlI : ¬ (K.length : Int) = (L.length : Int) := by omega
    have HF := hid (show decide (K = L) = false from decide_eq_false fun h => hl (by rw [h]))
    clear hl
    go_enter Tryd.func35, Tryd.ntmps35
    go_wp2
    go_ret
    exact ⟨by rw [HF.out]; rfl, Below.refl _ _⟩
set_option maxHeartbeats 4000000 in
theorem crashes_any (a b : Value) (p q : List Int × Int × Int) (w : World) (ha : RI w a p.1) (hb : RI w b q.1) (hK : p.1.length ≤ 1000000) (hL : q.1.length ≤ 1000000) (hne : p ≠ q) :
    Calls Tryd.prog 11 #[.agg #[a, .int .i64 p.2.1, .int .i64 p.2.2], .agg #[b, .int .i64 q.2.1, .int .i64 q.2.2]] w fun e w' => e = .returned (.bool false) ∧ Below w.heap.size w w' := by
  obtain ⟨K, T, X⟩ := p
  obtain ⟨K2, T2, X2⟩ := q
  simp only [] at ha hb hK hL ⊢
  obtain ⟨W, hW⟩ : ∃ W, (w.alloc (.cells #[a, .int .i64 T, .int .i64 X] 33)).alloc (.cells #[b, .int .i64 T2, .int .i64 X2] 33) = W := ⟨_, rfl⟩
  have bW : Below w.heap.size w W := by rw [← hW]; exact ((Below.refl _ _).alloc (Nat.le_refl _) _).alloc (by simp) _
  have HI := hid (intsD_any a b K K2 W (ha.below bW) (hb.below bW) hK hL)
  have h1 : W.heap[w.heap.size]? = some (.cells #[a, .int .i64 T, .int .i64 X] 33 (0, 0)) := by
    rw [← hW, Lib.alloc_old _ _ _ (by simp)]
    exact heap_alloc_new w _
  have h2 : W.heap[w.heap.size + 1]? = some (.cells #[b, .int .i64 T2, .int .i64 X2] 33 (0, 0)) := by
    have := heap_alloc_new (w.alloc (.cells #[a, .int .i64 T, .int .i64 X] 33)) (.cells #[b, .int .i64 T2, .int .i64 X2] 33)
    rw [World.size_alloc] at this
    rw [← hW]
    exact this
  have c0 : W.cell? ⟨w.heap.size, 0, none⟩ = some a := Lib.cell_of_heap h1 0
  have c1 : W.cell? ⟨w.heap.size, 1, none⟩ = some (.int .i64 T) := Lib.cell_of_heap h1 1
  have c2 : W.cell? ⟨w.heap.size, 2, none⟩ = some (.int .i64 X) := Lib.cell_of_heap h1 2
  have d0 : W.cell? ⟨w.heap.size + 1, 0, none⟩ = some b := Lib.cell_of_heap h2 0
  have d1 : W.cell? ⟨w.heap.size + 1, 1, none⟩ = some (.int .i64 T2) := Lib.cell_of_heap h2 1
  have d2 : W.cell? ⟨w.heap.size + 1, 2, none⟩ = some (.int .i64 X2) := Lib.cell_of_heap h2 2
  obtain ⟨ao, ac, rfl, _⟩ := ha
  obtain ⟨bo, bc, rfl, _⟩ := hb
  have HBW := hid bW
  clear bW h1 h2
  by_cases hk : K = K2
  · rw [decide_eq_true hk] at HI
    by_cases ht : T = T2
    · have hx : ¬ X = X2 := fun h => hne (by rw [hk, ht, h])
      have htb : (T == T2) = true := by simp [ht]
      have hxb : (X == X2) = false := by simp [hx]
      clear hk hne ht
      go_enter Tryd.func11, Tryd.ntmps11
      go_wp2_with fail
      refine Calls.mono HI.out ?_
      rintro e w3 ⟨rfl, hb3⟩
      have c1 := below_cells hb3 _ _ c1
      have c2 := below_cells hb3 _ _ c2
      have d1 := below_cells hb3 _ _ d1
      have d2 := below_cells hb3 _ _ d2
      have HBW := hid (HBW.out.trans (hb3.mono HBW.out.size))
      clear hb3
      go_wp2
      go_ret
      exact ⟨rfl, HBW.out⟩
    · have htb : (T == T2) = false := by simp [ht]
      clear hk hne
      go_enter Tryd.func11, Tryd.ntmps11
      go_wp2_with fail
      refine Calls.mono HI.out ?_
      rintro e w3 ⟨rfl, hb3⟩
      have c1 := below_cells hb3 _ _ c1
      have c2 := below_cells hb3 _ _ c2
      have d1 := below_cells hb3 _ _ d1
      have d2 := below_cells hb3 _ _ d2
      have HBW := hid (HBW.out.trans (hb3.mono HBW.out.size))
      clear hb3
      go_wp2
      go_ret
      exact ⟨rfl, HBW.out⟩
  · rw [decide_eq_false hk] at HI
    clear hk hne
    go_enter Tryd.func11, Tryd.ntmps11
    go_wp2_with fail
    refine Calls.mono HI.out ?_
    rintro e w3 ⟨rfl, hb3⟩
    have HBW := hid (HBW.out.trans (hb3.mono HBW.out.size))
    clear hb3
    go_wp2
    go_ret
    exact ⟨rfl, HBW.out⟩
end Go.Proofs.YtjaopckdhohpbaaDoor
