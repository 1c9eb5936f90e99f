/-
  fill: a block of Mixed.
-/
import Derived.Test.YtecjpjjcahanoabSm1
import Derived.Test.YtecjpjjcahanoabRg
namespace Go.Proofs.Ytecjpjjcahanoab
open Go.RowKit Go.Shelf
set_option maxRecDepth 100000

theorem Chg.set {B n l i : Nat} (A : World) (v : Value) (h1 : B ≤ l) (h2 : l < B + n) : Chg B n A (A.setCell ⟨l, i, none⟩ v) :=
  ⟨rfl, rfl, rfl, by simp, fun k _ hk => heap_setCell_other A ⟨l, i, none⟩ k v (fun e => hk (by simp at e; omega))⟩
theorem Chg.drewN (B n : Nat) (A : World) (m : Nat) : Chg B n A (A.drewN m) := ⟨rfl, rfl, rfl, Nat.le_refl _, fun _ _ _ => rfl⟩
theorem Chg.drew (B n : Nat) (A : World) : Chg B n A A.drew := ⟨rfl, rfl, rfl, Nat.le_refl _, fun _ _ _ => rfl⟩
/-- a row of ints in block g -/
abbrev Row (w : World) (g : Nat) (L : List Int) : Prop := w.heap[g]? = some (.cells (ic L).toArray 3 (0, 0))
theorem Row.cell {w : World} {g : Nat} {L : List Int} (h : Row w g L) (j : Nat) (hj : j < L.length) : w.cell? ⟨g, j, none⟩ = some (.int .i64 L[j]) := by
  rw [cell_of_row w g j _ _ _ h]
  simp only [List.getElem?_toArray]
  exact ic_at _ j hj
theorem Row.frozen {w : World} {g : Nat} {L : List Int} (h : Row w g L) (j : Nat) : w.frozen? ⟨g, j, none⟩ = false := by simp [World.frozen?, h]
theorem Row.put {w : World} {g : Nat} {L : List Int} (h : Row w g L) (j : Nat) (x : Int) : Row (w.setCell ⟨g, j, none⟩ (.int .i64 x)) g (L.set j x) := by
  show (w.setCell ⟨g, j, none⟩ (.int .i64 x)).heap[g]? = _
  rw [heap_setCell_same w g j _ _ _ h, List.setIfInBounds_toArray, ic_set]
theorem Row.other {w : World} {g : Nat} {L : List Int} (h : Row w g L) (p : Addr) (u : Value) (hp : p.block ≠ g) : Row (w.setCell p u) g L := (heap_setCell_other w p g u (fun e => hp e.symm)).trans h

theorem fA_fit (s : Int) (n i : Nat) (old : List Int) (x : Int) (h : i < old.length) : ((fA s n i).2 ++ old.drop i).set i x = ((fA s n i).2 ++ [x]) ++ old.drop (i + 1) := by
  rw [List.set_append_right _ _ (by rw [fA_len]; exact Nat.le_refl _), fA_len, Nat.sub_self, List.append_assoc]
  congr 1
  rw [List.drop_eq_getElem_cons h]
  rfl

set_option maxHeartbeats 1000000 in
theorem fill_any (B : Nat) (s : Int) (n len : Nat) (old : List Int) (w : World) (h : UBox 94 w B s) (hg : Row w (B + 1) old) (hl : old.length = len) (hn : 1 ≤ n) (hn2 : n ≤ 16) (hnl : n ≤ len) (hl2 : len ≤ 1000) :
    Calls Try.prog 51 #[.pointer (some ⟨B, 0, none⟩), .slice (some ⟨B + 1, 0, none⟩) len len, .int .i64 (n : Int)] w fun e w' => (∃ v, e = .returned v) ∧ UBox 94 w' B (fB s n len (len - 1)).1 ∧ Row w' (B + 1) (fB s n len (len - 1)).2 ∧ Chg B 2 w w' := by
  have H := hid h
  have HG := hid hg
  have HL := hid hl
  clear h hg hl
  go_enter Try.func51, Try.ntmps51
  go_wp2
  go_loopw [11] (fun v wr => ∃ i : Nat, i ≤ len ∧ v = .int .i64 (i : Int) ∧ UBox 94 wr B (fA s n i).1 ∧ Row wr (B + 1) ((fA s n i).2 ++ old.drop i) ∧ Chg B 2 w wr) (fun v _ => len - (intOf v).toNat)
  case atStart => exact ⟨0, Nat.zero_le _, rfl, H.out, HG.out, Chg.refl _ _ _⟩
  case round =>
    obtain ⟨i, hi, rfl, hu, hr, hc⟩ := hrel
    have HU := hid hu
    have HR := hid hr
    have HC := hid hc
    have hne : B ≠ B + 1 := by omega
    clear hu hr hc
    by_cases hlt : i < len
    · have hI : (i : Int) < (len : Int) := by omega
      have hrl : ((fA s n i).2 ++ old.drop i).length = len := by rw [List.length_append, fA_len, List.length_drop, HL.out]; omega
      have HF := hid (fun x => fA_fit s n i old x (by rw [HL.out]; exact hlt))
      by_cases hin : i < n
      · have hIn : (i : Int) < (n : Int) := by omega
        have c1 := HR.out.cell i (by rw [hrl]; exact hlt)
        have f1 := Row.frozen HR.out i
        have HA := hid (show fA s n (i + 1) = ((fA s n i).1, (fA s n i).2 ++ [(i : Int)]) by rw [fA, if_pos hin])
        have HR2 := hid (Row.put HR.out i (i : Int))
        rw [HF.out] at HR2
        have HU2 := hid (HU.out.other ⟨B + 1, i, none⟩ (.int .i64 (i : Int)) (by simp))
        have HC2 := hid (HC.out.trans (Chg.set (i := i) wr (.int .i64 (i : Int)) (show B ≤ B + 1 by omega) (show B + 1 < B + 2 by omega)))
        generalize ((fA s n i).2 ++ old.drop i)[i] = x0 at c1
        go_wp2
        go_roundw
        case rel => exact ⟨i + 1, by omega, by go_num, by rw [HA.out]; exact HU2.out, by rw [HA.out]; exact HR2.out, HC2.out⟩
        case measure => simp [intOf]; omega
      · have hIn : ¬ (i : Int) < (n : Int) := by omega
        have HA := hid (show fA s n (i + 1) = (dS (fA s n i).1, (fA s n i).2 ++ [(dv (fA s n i).1 n : Int)]) by rw [fA, if_neg hin])
        have HD := hid (draw_any B (fA s n i).1 n wr hn (by omega) HU.out)
        have HU1 := hid (HU.out.put (dS (fA s n i).1))
        have HR1 := hid (Row.other HR.out ⟨B, 0, none⟩ (.int .u64 (dS (fA s n i).1)) (by simp))
        have HC1 := hid (HC.out.trans (Chg.set (i := 0) wr (.int .u64 (dS (fA s n i).1)) (Nat.le_refl B) (show B < B + 2 by omega)))
        generalize dv (fA s n i).1 n = d at *
        generalize dS (fA s n i).1 = s1 at *
        obtain ⟨V, hV⟩ : ∃ V, wr.setCell ⟨B, 0, none⟩ (.int .u64 s1) = V := ⟨_, rfl⟩
        rw [hV] at HU1 HR1 HC1 HD
        go_wp2_with fail
        refine HD.out.mono ?_
        rintro e w5 ⟨rfl, rfl⟩
        have c1 := HR1.out.cell i (by rw [hrl]; exact hlt)
        have f1 := Row.frozen HR1.out i
        have HR2 := hid (Row.put HR1.out i (d : Int))
        rw [HF.out] at HR2
        have HU2 := hid (HU1.out.other ⟨B + 1, i, none⟩ (.int .i64 (d : Int)) (by simp))
        have HC2 := hid (HC1.out.trans (Chg.set (i := i) w5 (.int .i64 (d : Int)) (show B ≤ B + 1 by omega) (show B + 1 < B + 2 by omega)))
        generalize ((fA s n i).2 ++ old.drop i)[i] = x0 at c1
        go_wp2
        go_roundw
        case rel => exact ⟨i + 1, by omega, by go_num, by rw [HA.out]; exact HU2.out, by rw [HA.out]; exact HR2.out, HC2.out⟩
        case measure => simp [intOf]; omega
    · have hI : ¬ (i : Int) < (len : Int) := by omega
      have hil : i = len := by omega
      have HR0 := hid (show Row wr (B + 1) (fA s n len).2 by
        have := HR.out
        rw [hil, List.drop_of_length_le (by rw [HL.out]; exact Nat.le_refl _), List.append_nil] at this
        exact this)
      have HU0 := hid (show UBox 94 wr B (fA s n len).1 by rw [← hil]; exact HU.out)
      obtain ⟨wo, rfl⟩ : ∃ wo, wo = wr := ⟨_, rfl⟩
      clear HR HU hil hlt hi
      go_wp2
      go_loopw [7] (fun v wr => ∃ t i : Nat, t + i + 1 = len ∧ v = .int .i64 (i : Int) ∧ UBox 94 wr B (fB s n len t).1 ∧ Row wr (B + 1) (fB s n len t).2 ∧ Chg B 2 w wr) (fun v _ => (intOf v).toNat)
      case atStart => exact ⟨0, len - 1, by omega, by congr 1; omega, HU0.out, HR0.out, HC.out⟩
      case round =>
        obtain ⟨t, q, htq, rfl, hu, hr, hc⟩ := hrel
        have HU := hid hu
        have HR := hid hr
        have HC := hid hc
        have HT := hid htq
        clear hu hr hc HU0 HR0
        by_cases hq : 1 ≤ q
        · have hIq : (1 : Int) ≤ (q : Int) := by omega
          have hqe : len - 1 - t = q := by omega
          have HB := hid (show fB s n len (t + 1) = (dS (fB s n len t).1, swp (fB s n len t).2 q (dv (fB s n len t).1 (q + 1))) by rw [fB, hqe])
          have HLn := hid (fB_len s n len t)
          have HD := hid (draw_any B (fB s n len t).1 (q + 1) wr (by omega) (by omega) HU.out)
          obtain ⟨d, hde, hd⟩ := dv_ex (fB s n len t).1 (q + 1) (by omega)
          rw [hde] at HB HD
          clear hde
          have HU1 := hid (HU.out.put (dS (fB s n len t).1))
          have HR1 := hid (Row.other HR.out ⟨B, 0, none⟩ (.int .u64 (dS (fB s n len t).1)) (by simp))
          have HC1 := hid (HC.out.trans (Chg.set (i := 0) wr (.int .u64 (dS (fB s n len t).1)) (Nat.le_refl B) (show B < B + 2 by omega)))
          generalize dS (fB s n len t).1 = s1 at *
          generalize (fB s n len t).2 = L at *
          obtain ⟨V, hV⟩ : ∃ V, wr.setCell ⟨B, 0, none⟩ (.int .u64 s1) = V := ⟨_, rfl⟩
          rw [hV] at HU1 HR1 HC1 HD
          rw [show ((q + 1 : Nat) : Int) = (q : Int) + 1 from rfl] at HD
          have hq9 : q ≤ 1000 := by omega
          clear htq hqe
          go_wp2_with fail
          refine HD.out.mono ?_
          rintro e w5 ⟨rfl, rfl⟩
          have hqL : q < L.length := by have := HT.out; have := HLn.out; omega
          have hdL : d < L.length := by omega
          have R0 := HR1
          have c1 := R0.out.cell q hqL
          have c2 := R0.out.cell d hdL
          have f1 := Row.frozen R0.out q
          have f2 := Row.frozen R0.out d
          have hql : q < len := by have := HT.out; omega
          have hdl : d < len := by omega
          have HR2 := hid (Row.put (Row.put R0.out q L[d]) d L[q])
          have hsw : (L.set q L[d]).set d L[q] = swp L q d := by simp [swp, List.getD_eq_getElem?_getD, hqL, hdL]
          rw [hsw] at HR2
          have HU2 := hid ((HU1.out.other ⟨B + 1, q, none⟩ (.int .i64 L[d]) (by simp)).other ⟨B + 1, d, none⟩ (.int .i64 L[q]) (by simp))
          have HC2 := hid ((HC1.out.trans (Chg.set (i := q) w5 (.int .i64 L[d]) (show B ≤ B + 1 by omega) (show B + 1 < B + 2 by omega))).trans (Chg.set (i := d) _ (.int .i64 L[q]) (show B ≤ B + 1 by omega) (show B + 1 < B + 2 by omega)))
          clear hsw HU HR HC HD HU1 HR1 HC1 R0 hV
          by_cases hdq : d = q
          · subst hdq
            generalize L[d] = y at *
            go_wp2
            go_region
            go_wp2
            go_roundw
            case rel => exact ⟨t + 1, d - 1, by have := HT.out; omega, by congr 1; omega, by rw [HB.out]; exact HU2.out, by rw [HB.out]; exact HR2.out, HC2.out.trans (Chg.drew _ _ _)⟩
            case measure => simp [intOf]; omega
          · have hqd : q ≠ d := fun e => hdq e.symm
            generalize L[d] = y at *
            generalize L[q] = x at *
            go_wp2
            go_region
            go_wp2
            go_roundw
            case rel => exact ⟨t + 1, q - 1, by have := HT.out; omega, by congr 1; omega, by rw [HB.out]; exact HU2.out, by rw [HB.out]; exact HR2.out, HC2.out.trans (Chg.drew _ _ _)⟩
            case measure => simp [intOf]; omega
        · have hIq : ¬ (1 : Int) ≤ (q : Int) := by omega
          have HE := hid (show t = len - 1 by omega)
          go_wp2
          go_end0
          rw [← HE.out]
          exact ⟨⟨_, rfl⟩, HU.out, HR.out, HC.out⟩
end Go.Proofs.Ytecjpjjcahanoab
