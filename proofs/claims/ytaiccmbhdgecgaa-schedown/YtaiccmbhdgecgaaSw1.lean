/-
  Switches.
-/
import Derived.Test.YtaiccmbhdgecgaaNt1
import Derived.Deep.QuietTactic
import Derived.BigQuiet
namespace Go.Proofs.Ytaiccmbhdgecgaa
open Go.RowKit
set_option maxRecDepth 100000

/-- a row of ints in block g -/
def RowI (w : World) (g : Nat) (L : List Int) : Prop := w.heap[g]? = some (.cells (ic L).toArray 3 (0, 0))
theorem RowI.cell {w : World} {g : Nat} {L : List Int} (h : RowI w g L) (j : Nat) (hj : j < L.length) : w.cell? ⟨g, j, none⟩ = some (.int .i64 (L.getD j 0)) := by
  rw [cell_of_row w g j _ _ _ h, List.getD_eq_getElem?_getD, List.getElem?_eq_getElem hj]
  simp [ic, hj]
theorem RowI.frozen {w : World} {g : Nat} {L : List Int} (h : RowI w g L) (j : Nat) : w.frozen? ⟨g, j, none⟩ = false := by
  unfold RowI at h
  simp [World.frozen?, h]
theorem RowI.put {w : World} {g : Nat} {L : List Int} (h : RowI w g L) (j : Nat) (x : Int) : RowI (w.setCell ⟨g, j, none⟩ (.int .i64 x)) g (L.set j x) := by
  have := heap_setCell_same w g j _ _ (.int .i64 x) h
  unfold RowI
  rw [this, ← ic_set]
  simp
theorem RowI.lt {w : World} {g : Nat} {L : List Int} (h : RowI w g L) : g < w.heap.size := (Array.getElem?_eq_some_iff.1 h).1
theorem RowI.later {w w' : World} {g : Nat} {L : List Int} (h : RowI w g L) (hb : Below w.heap.size w w') : RowI w' g L := (hb.block g h.lt).trans h
theorem RowI.reads {w : World} {g : Nat} {L : List Int} (h : RowI w g L) : RI w (.slice (some ⟨g, 0, none⟩) L.length L.length) L := RI.block h (Nat.le_refl _)
/-- how often each stands in the first j -/
def cR (R : List Nat) : Nat → List Int
  | 0 => List.replicate 16 0
  | j + 1 => (cR R j).set (R.getD j 0) ((cR R j).getD (R.getD j 0) 0 + 1)
theorem cR_len (R : List Nat) : ∀ j, (cR R j).length = 16
  | 0 => by simp [cR]
  | j + 1 => by unfold cR; rw [List.length_set]; exact cR_len R j
theorem getD_set0 (L : List Int) (i j : Nat) (x : Int) : (L.set i x).getD j 0 = if i = j ∧ i < L.length then x else L.getD j 0 := by
  rw [List.getD_eq_getElem?_getD, List.getElem?_set]
  by_cases c : i = j
  · subst c
    by_cases c2 : i < L.length
    · rw [if_pos rfl, if_pos c2, if_pos ⟨rfl, c2⟩]; rfl
    · rw [if_pos rfl, if_neg c2, if_neg (fun h => c2 h.2), List.getD_eq_getElem?_getD, List.getElem?_eq_none (by omega)]
  · rw [if_neg c, if_neg (fun h => c h.1), ← List.getD_eq_getElem?_getD]
theorem cR_le (R : List Nat) : ∀ j i : Nat, 0 ≤ (cR R j).getD i 0 ∧ (cR R j).getD i 0 ≤ (j : Int)
  | 0, i => by
    unfold cR
    rw [List.getD_eq_getElem?_getD, List.getElem?_replicate]
    split <;> simp
  | j + 1, i => by
    have h1 := cR_le R j i
    have h2 := cR_le R j (R.getD j 0)
    unfold cR
    rw [getD_set0]
    split <;> omega
def asd (L : List Int) (l : Int) (h : Nat) : Bool := decide (0 ≤ l) && !decide (l = (h : Int)) && decide (0 < L.getD l.toNat 0)
/-- Switches behind the first j: how many, the last, what is left -/
def sSt (R : List Nat) : Nat → Nat × Int × List Int
  | 0 => (0, -1, cR R R.length)
  | j + 1 => (if asd (sSt R j).2.2 (sSt R j).2.1 (R.getD j 0) then (sSt R j).1 + 1 else (sSt R j).1, ((R.getD j 0 : Nat) : Int), (sSt R j).2.2.set (R.getD j 0) ((sSt R j).2.2.getD (R.getD j 0) 0 - 1))
theorem sSt_len (R : List Nat) : ∀ j, (sSt R j).2.2.length = 16
  | 0 => cR_len R R.length
  | j + 1 => by unfold sSt; simp only [List.length_set]; exact sSt_len R j
theorem sSt_le (R : List Nat) : ∀ j i : Nat, -(j : Int) ≤ (sSt R j).2.2.getD i 0 ∧ (sSt R j).2.2.getD i 0 ≤ (R.length : Int)
  | 0, i => by
    have := cR_le R R.length i
    show -((0 : Nat) : Int) ≤ (cR R R.length).getD i 0 ∧ _
    exact ⟨by omega, this.2⟩
  | j + 1, i => by
    have h1 := sSt_le R j i
    have h2 := sSt_le R j (R.getD j 0)
    unfold sSt
    simp only
    rw [getD_set0]
    split <;> omega
theorem sSt_n (R : List Nat) : ∀ j, (sSt R j).1 ≤ j
  | 0 => Nat.le_refl _
  | j + 1 => by
    have := sSt_n R j
    unfold sSt
    simp only
    split <;> omega
theorem sSt_l (R : List Nat) (hR : ∀ i, R.getD i 0 < 16) : ∀ j, (sSt R j).2.1 = -1 ∨ ∃ l : Nat, l < 16 ∧ (sSt R j).2.1 = (l : Int)
  | 0 => .inl rfl
  | j + 1 => .inr ⟨R.getD j 0, hR j, rfl⟩
set_option maxHeartbeats 400000 in
theorem aside_any (g h : Nat) (l : Int) (L : List Int) (w : World) (hg : RowI w g L) (hL : L.length = 16) (hl : l = -1 ∨ ∃ k : Nat, k < 16 ∧ l = (k : Int)) :
    Calls Try.prog 41 #[.slice (some ⟨g, 0, none⟩) 16 16, .int .i64 l, .int .i64 (h : Int)] w fun e w' => e = .returned (.bool (asd L l h)) ∧ w' = w := by
  go_enter Try.func41, Try.ntmps41
  rcases hl with rfl | ⟨k, hk, rfl⟩
  · go_wp2
    go_ret
    exact ⟨rfl, rfl⟩
  · have c0 := hg.cell k (by omega)
    have h1 : ¬ (k : Int) < 0 := by omega
    have hkI : (k : Int) < 16 := by omega
    by_cases he : k = h
    · subst he
      have HF := hid (show asd L (k : Int) k = false by simp [asd])
      have hb : ((k : Int) == (k : Int)) = true := by simp
      go_wp2
      go_ret
      rw [HF.out]
      exact ⟨rfl, rfl⟩
    · have hb : ((k : Int) == (h : Int)) = false := by simp; omega
      have hbn : ((k : Int) != (h : Int)) = true := by simp; omega
      have HF := hid (show asd L (k : Int) h = decide (0 < L.getD k 0) by simp [asd]; omega)
      generalize L.getD k 0 = x at *
      by_cases hx : 0 < x
      · go_wp2
        go_ret
        rw [HF.out, decide_eq_true hx]
        first
          | exact ⟨rfl, rfl⟩
          | exact ⟨by show Ending.returned (Value.bool ((k : Int) != (h : Int))) = _; rw [hbn], rfl⟩
      · go_wp2
        go_ret
        rw [HF.out, decide_eq_false (by omega)]
        exact ⟨rfl, rfl⟩
attribute [local go_sem ↓] mki_op
set_option maxHeartbeats 2000000 in
theorem switches_any (v : Value) (R : List Nat) (w : World) (hr : RI w v (iN R)) (hR : ∀ i, R.getD i 0 < 16) (hl : R.length ≤ 65536) :
    Calls Try.prog 18 #[v] w fun e w' => e = .returned (.tuple #[.int .i64 ((sSt R R.length).1 : Int), .int .i64 0]) ∧ Below w.heap.size w w' := by
  have HAb := hid (areBelow_any v (iN R) 16 w hr (by rw [iN_len]; omega))
  rw [(inB_iff (iN R) 16).2 (fun i hi => by
    have h2 : i < R.length := by rw [← iN_len R]; exact hi
    rw [iN_at R i hi h2]
    have := hR i
    rw [gN R i h2] at this
    omega)] at HAb
  obtain ⟨ao, cap, rfl, hc, hn0, hcell⟩ := hr
  rw [iN_len] at hc HAb
  have HC := hid hcell
  have hm : ∀ w : World, (mkI (.int .i64 16) (.int .i64 16)).run Try.prog w = .ok (.slice (some ⟨w.heap.size, 0, none⟩) 16 16) (w.alloc (.cells (ic (List.replicate 16 0)).toArray 3)) := run_mkI 16 (by omega)
  obtain ⟨Z, hZ⟩ : ∃ Z, (ic (List.replicate 16 0)).toArray = Z := ⟨_, rfl⟩
  rw [hZ] at hm
  have HZ := hid hZ
  clear hcell hn0 hZ
  rw [iN_len]
  have hl3 : (R.length : Int) ≤ 65536 := by omega
  go_enter Try.func18, Try.ntmps18
  go_wp2_with fail
  refine Calls.mono HAb.out ?_
  rintro e w1 ⟨rfl, rfl⟩
  clear HAb
  go_wp2_with fail
  obtain ⟨W, hW⟩ : ∃ W, w1.alloc (.cells Z 3) = W := ⟨_, rfl⟩
  rw [hW]
  have HB := hid (show Below w1.heap.size w1 W by rw [← hW]; exact (Below.refl _ _).alloc (Nat.le_refl _) _)
  have HRo := hid (show RowI W w1.heap.size (cR R 0) by rw [← hW, ← HZ.out]; exact heap_alloc_new w1 _)
  clear hW hm
  generalize hgg : w1.heap.size = g at *
  go_loopw [6, 20] (fun _ vi wx => ∃ j : Nat, j ≤ R.length ∧ vi = .int .i64 (j : Int) ∧ RowI wx g (cR R j) ∧ Below g w1 wx) (fun _ vi _ => R.length - (intOf vi).toNat)
  case atStart => exact ⟨0, Nat.zero_le _, rfl, HRo.out, HB.out⟩
  case round =>
    obtain ⟨j, hj, rfl, hro, hB⟩ := hrel
    have HRo := hid hro
    have HB := hid hB
    clear hro hB
    by_cases h : j < R.length
    · have hI : (j : Int) < (R.length : Int) := by omega
      obtain ⟨g', off, hao, c0⟩ := HC.out j (by rw [iN_len]; exact h)
      subst hao
      rw [iN_at R j _ h] at c0
      have c0 := below_cells (hgg ▸ HB.out) _ _ c0
      have hx := hR j
      have HS := hid (show cR R (j + 1) = (cR R j).set R[j] ((cR R j).getD R[j] 0 + 1) by rw [← gN R j h]; rfl)
      rw [gN R j h] at hx
      have hy := cR_le R j R[j]
      have k0 := HRo.out.cell R[j] (by rw [cR_len]; exact hx)
      have k1 := HRo.out.frozen R[j]
      have HPu := hid (HRo.out.put R[j] ((cR R j).getD R[j] 0 + 1))
      have HB2 := hid (show Below g w1 (wr.setCell ⟨g, R[j], none⟩ (.int .i64 ((cR R j).getD R[j] 0 + 1))) from HB.out.setCell (Nat.le_refl _) _)
      rw [← HS.out] at HPu
      generalize (cR R j).getD R[j] 0 = y at *
      generalize R[j] = x at *
      have hxI : (x : Int) < 16 := by omega
      go_wp2
      go_roundw
      case rel => exact ⟨j + 1, by omega, by go_num, HPu.out, HB2.out⟩
      case measure => simp [intOf]; omega
    · have hI : ¬ (j : Int) < (R.length : Int) := by omega
      obtain rfl : j = R.length := by omega
      go_wp2_with fail
      go_loopw [7, 8, 10, 33] (fun vs vl _ vi wx => ∃ j : Nat, j ≤ R.length ∧ vi = .int .i64 (j : Int) ∧ vs = .int .i64 ((sSt R j).1 : Int) ∧ vl = .int .i64 (sSt R j).2.1 ∧ RowI wx g (sSt R j).2.2 ∧ Below g w1 wx) (fun _ _ _ vi _ => R.length - (intOf vi).toNat)
      case atStart => exact ⟨0, Nat.zero_le _, rfl, rfl, rfl, HRo.out, HB.out⟩
      case round =>
        obtain ⟨j, hj, rfl, rfl, rfl, hro, hB⟩ := hrel
        have HRo := hid hro
        have HB := hid hB
        clear hro hB
        by_cases h : j < R.length
        · have hI : (j : Int) < (R.length : Int) := by omega
          obtain ⟨g', off, hao, c0⟩ := HC.out j (by rw [iN_len]; exact h)
          subst hao
          rw [iN_at R j _ h] at c0
          have c0 := below_cells (hgg ▸ HB.out) _ _ c0
          have hx := hR j
          rw [gN R j h] at hx
          have hlen := sSt_len R j
          have HAs := hid (aside_any g R[j] (sSt R j).2.1 (sSt R j).2.2 wr HRo.out hlen (sSt_l R hR j))
          have H1 := hid (show (sSt R (j + 1)).1 = if asd (sSt R j).2.2 (sSt R j).2.1 R[j] then (sSt R j).1 + 1 else (sSt R j).1 by rw [← gN R j h]; rfl)
          have H2 := hid (show (sSt R (j + 1)).2.1 = ((R[j] : Nat) : Int) by rw [← gN R j h]; rfl)
          have H3 := hid (show (sSt R (j + 1)).2.2 = (sSt R j).2.2.set R[j] ((sSt R j).2.2.getD R[j] 0 - 1) by rw [← gN R j h]; rfl)
          have hy := sSt_le R j R[j]
          have hn := sSt_n R j
          have k0 := HRo.out.cell R[j] (by rw [hlen]; exact hx)
          have k1 := HRo.out.frozen R[j]
          have HPu := hid (HRo.out.put R[j] ((sSt R j).2.2.getD R[j] 0 - 1))
          have HB2 := hid (show Below g w1 (wr.setCell ⟨g, R[j], none⟩ (.int .i64 ((sSt R j).2.2.getD R[j] 0 - 1))) from HB.out.setCell (Nat.le_refl _) _)
          rw [← H3.out] at HPu
          generalize (sSt R j).2.2.getD R[j] 0 = y at *
          generalize asd (sSt R j).2.2 (sSt R j).2.1 R[j] = b at *
          generalize R[j] = x at *
          generalize (sSt R j).2.1 = l at *
          generalize (sSt R j).1 = s at *
          have hxI : (x : Int) < 16 := by omega
          cases b with
          | true =>
            go_wp2_with fail
            refine Calls.mono HAs.out ?_
            rintro e w3 ⟨rfl, rfl⟩
            clear HAs
            go_wp2
            go_roundw
            case rel => exact ⟨j + 1, by omega, by go_num, by rw [H1.out]; simp, by rw [H2.out], HPu.out, HB2.out⟩
            case measure => simp [intOf]; omega
          | false =>
            go_wp2_with fail
            refine Calls.mono HAs.out ?_
            rintro e w3 ⟨rfl, rfl⟩
            clear HAs
            go_wp2
            go_roundw
            case rel => exact ⟨j + 1, by omega, by go_num, by rw [H1.out]; simp, by rw [H2.out], HPu.out, HB2.out⟩
            case measure => simp [intOf]; omega
        · have hI : ¬ (j : Int) < (R.length : Int) := by omega
          obtain rfl : j = R.length := by omega
          go_wp2
          go_ret2
          exact ⟨rfl, HB.out⟩
end Go.Proofs.Ytaiccmbhdgecgaa
