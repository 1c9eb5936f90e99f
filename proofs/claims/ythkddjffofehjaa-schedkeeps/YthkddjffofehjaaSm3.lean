/-
  The document's Block of Mixed.
-/
import Derived.Test.YthkddjffofehjaaSm1
import Derived.Test.YthkddjffofehjaaRg
namespace Go.Proofs.Ythkddjffofehjaa
open Go.RowKit Go.Shelf
set_option maxRecDepth 100000

theorem Chg.set1 {b i : Nat} (A : World) (v : Value) : Chg b 1 A (A.setCell ⟨b, i, none⟩ v) :=
  ⟨rfl, rfl, rfl, by simp, fun k _ hk => heap_setCell_other A ⟨b, i, none⟩ k v (fun e => hk (by simp at e; omega))⟩
theorem OI.other {w : World} {base : Nat} {v : Value} {R : List Int} (h : OI w base v R) (p : Addr) (u : Value) (hp : p.block < base) : OI (w.setCell p u) base v R := by
  refine World.ownsRow.kept h (row := some p.block) ⟨rfl, rfl, rfl, by simp, fun k _ hk => heap_setCell_other w p k u (fun e => hk (by rw [e]))⟩ (.inr fun e => ?_)
  have := h.block_ge p.block e
  omega
theorem grown_chg {b : Nat} {w A A' : World} {r : Option Nat} (hc : Chg b 1 w A) (hg : A.grownBy A' r) (hr : ∀ k, r = some k → w.heap.size ≤ k) : Chg b 1 w A' :=
  ⟨hg.os.trans hc.os, hg.tape.trans hc.tape, hg.output.trans hc.output, Nat.le_trans hc.size hg.size, fun k hk hn =>
    (hg.block k (by have := hc.size; omega) (fun e => by have := hr k e.symm; omega)).trans (hc.block k hk hn)⟩
theorem UBox.grown {t : TypeId} {A A' : World} {b : Nat} {v : Int} {r : Option Nat} (h : UBox t A b v) (hg : A.grownBy A' r) (hr : ∀ k, r = some k → b ≠ k) : UBox t A' b v :=
  (hg.block b h.facts.2.2 (fun e => hr b e.symm rfl)).trans h

set_option maxHeartbeats 1000000 in
theorem rblock_any (b : Nat) (s : Int) (n len kk : Nat) (w : World) (h : UBox 63 w b s) (hk : (kk + 1) / 2 = len) (hn : 1 ≤ n) (hn2 : n ≤ 16) (hnl : n ≤ len) (hl2 : len ≤ 1000) :
    Calls Try.prog 39 #[.pointer (some ⟨b, 0, none⟩), .int .i64 (n : Int), .int .i64 (kk : Int)] w fun e w' => (∃ v, e = .returned v ∧ OI w' w.heap.size v (fB s n len (len - 1)).2) ∧ UBox 63 w' b (fB s n len (len - 1)).1 ∧ Chg b 1 w w' := by
  have H := hid h
  have hbw : b < w.heap.size := h.facts.2.2
  have hkk : kk ≤ 2000 := by omega
  have hdiv : ((kk : Int) + 1) / 2 = (len : Int) := by omega
  have HK := hid hk
  clear h hk
  go_enter Try.func39, Try.ntmps39
  go_wp2
  go_loopw [7, 8] (fun l i wr => ∃ j : Nat, j ≤ len ∧ i = .int .i64 (j : Int) ∧ OI wr w.heap.size l (fA s n j).2 ∧ UBox 63 wr b (fA s n j).1 ∧ Chg b 1 w wr) (fun _ i _ => len - (intOf i).toNat)
  case atStart => exact ⟨0, Nat.zero_le _, rfl, OI.nil _ _, H.out, Chg.refl _ _ _⟩
  case round =>
    obtain ⟨j, hj, rfl, ho, hu, hc⟩ := hrel
    have HO := hid ho
    have HU := hid hu
    have HC := hid hc
    have hz := hc.size
    clear ho hu hc
    by_cases hlt : j < len
    · have hI : (j : Int) < (len : Int) := by omega
      have HLf := hid (fA_len s n j)
      by_cases hin : j < n
      · have hIn : (j : Int) < (n : Int) := by omega
        have HA := hid (show fA s n (j + 1) = ((fA s n j).1, (fA s n j).2 ++ [(j : Int)]) by rw [fA, if_pos hin])
        generalize (fA s n j).2 = L at *
        go_wp2_with (at_builtin; refine wpList_appI rfl _ _ rfl w.heap.size _ L rfl (HO.out.alloc _) _ [(j : Int)] rfl (ri_one _ _) ?hlen ?hbase ?hnext2)
        case hlen => have := HLf.out; simp; omega
        case hbase => simp; omega
        case hnext2 =>
          intro v2 w2 ho2 hg2
          have HO2 := hid ho2
          have HC2 := hid (grown_chg (HC.out.trans (Chg.alloc _ _ _ _)) hg2 (fun k hk => HO.out.block_ge k hk))
          have HU2 := hid (UBox.grown (HU.out.later (alloc_below _ _)) hg2 (fun k hk => by have := HO.out.block_ge k hk; omega))
          clear ho2 hg2
          go_wp2
          go_roundw
          case rel => exact ⟨j + 1, by omega, by go_num, by rw [HA.out]; exact HO2.out, by rw [HA.out]; exact HU2.out, HC2.out⟩
          case measure => simp [intOf]; omega
      · have hIn : ¬ (j : Int) < (n : Int) := by omega
        have HA := hid (show fA s n (j + 1) = (dS (fA s n j).1, (fA s n j).2 ++ [(dv (fA s n j).1 n : Int)]) by rw [fA, if_neg hin])
        have HD := hid (rdraw_any b (fA s n j).1 n wr hn (by omega) HU.out)
        have HU1 := hid (HU.out.put (dS (fA s n j).1))
        have HO1 := hid (HO.out.other ⟨b, 0, none⟩ (.int .u64 (dS (fA s n j).1)) hbw)
        have HC1 := hid (HC.out.trans (Chg.set1 (b := b) (i := 0) wr (.int .u64 (dS (fA s n j).1))))
        generalize dv (fA s n j).1 n = d at *
        generalize dS (fA s n j).1 = s1 at *
        generalize (fA s n j).2 = L at *
        obtain ⟨V, hV⟩ : ∃ V, wr.setCell ⟨b, 0, none⟩ (.int .u64 s1) = V := ⟨_, rfl⟩
        rw [hV] at HU1 HO1 HC1 HD
        go_wp2_with fail
        refine HD.out.mono ?_
        rintro e w5 ⟨rfl, rfl⟩
        have hz5 := HC1.out.size
        clear hV HD HU HO HC
        go_wp2_with (at_builtin; refine wpList_appI rfl _ _ rfl w.heap.size _ L rfl (HO1.out.alloc _) _ [(d : Int)] rfl (ri_one _ _) ?hlen ?hbase ?hnext2)
        case hlen => have := HLf.out; simp; omega
        case hbase => simp; omega
        case hnext2 =>
          intro v2 w2 ho2 hg2
          have HO2 := hid ho2
          have HC2 := hid (grown_chg (HC1.out.trans (Chg.alloc _ _ _ _)) hg2 (fun k hk => HO1.out.block_ge k hk))
          have HU2 := hid (UBox.grown (HU1.out.later (alloc_below _ _)) hg2 (fun k hk => by have := HO1.out.block_ge k hk; omega))
          clear ho2 hg2
          go_wp2
          go_roundw
          case rel => exact ⟨j + 1, by omega, by go_num, by rw [HA.out]; exact HO2.out, by rw [HA.out]; exact HU2.out, HC2.out⟩
          case measure => simp [intOf]; omega
    · have hI : ¬ (j : Int) < (len : Int) := by omega
      have hjl : j = len := by omega
      subst hjl
      obtain ⟨g, cap, hv, hcap, hcm, _⟩ := HO.out.form (by rw [fA_len]; omega)
      rw [fA_len] at hv hcap
      subst hv
      have hgw : w.heap.size ≤ g := HO.out.block_ge g rfl
      have HO0 := hid (show wr.ownsRow w.heap.size 3 1 (.slice (some ⟨g, 0, none⟩) j cap) j (ic (fA s n j).2) by have := HO.out; unfold OI at this; rw [fA_len] at this; exact this)
      obtain ⟨wo, rfl⟩ : ∃ wo, wo = wr := ⟨_, rfl⟩
      clear HO hlt hj hcm
      go_wp2
      go_loopw [9] (fun v wr => ∃ t i : Nat, t + i + 1 = j ∧ v = .int .i64 (i : Int) ∧ UBox 63 wr b (fB s n j t).1 ∧ wr.ownsRow w.heap.size 3 1 (.slice (some ⟨g, 0, none⟩) j cap) j (ic (fB s n j t).2) ∧ Chg b 1 w wr) (fun v _ => (intOf v).toNat)
      case atStart => exact ⟨0, j - 1, by omega, by congr 1; omega, HU.out, HO0.out, HC.out⟩
      case round =>
        obtain ⟨t, q, htq, rfl, hu, hr, hc⟩ := hrel
        have HT := hid htq
        have HLn := hid (fB_len s n j t)
        by_cases hq : 1 ≤ q
        · have hIq : (0 : Int) < (q : Int) := by omega
          have hqe : j - 1 - t = q := by omega
          have HB := hid (show fB s n j (t + 1) = (dS (fB s n j t).1, swp (fB s n j t).2 q (dv (fB s n j t).1 (q + 1))) by rw [fB, hqe])
          have HD := hid (rdraw_any b (fB s n j t).1 (q + 1) wr (by omega) (by omega) hu)
          obtain ⟨d, hde, hd⟩ := dv_ex (fB s n j t).1 (q + 1) (by omega)
          rw [hde] at HB HD
          clear hde
          have HU1 := hid (hu.put (dS (fB s n j t).1))
          have HR1 := hid (show (wr.setCell ⟨b, 0, none⟩ (.int .u64 (dS (fB s n j t).1))).ownsRow w.heap.size 3 1 (.slice (some ⟨g, 0, none⟩) j cap) j (ic (fB s n j t).2) from
            World.ownsRow.kept hr (row := some b) ⟨rfl, rfl, rfl, by simp, fun k _ hk => heap_setCell_other wr ⟨b, 0, none⟩ k _ (fun e => hk (by rw [e]))⟩ (.inr fun e => by simp [Value.ownBlock] at e; omega))
          have HC1 := hid (hc.trans (Chg.set1 (b := b) (i := 0) wr (.int .u64 (dS (fB s n j t).1))))
          generalize dS (fB s n j t).1 = s1 at *
          generalize (fB s n j t).2 = L at *
          obtain ⟨V, hV⟩ : ∃ V, wr.setCell ⟨b, 0, none⟩ (.int .u64 s1) = V := ⟨_, rfl⟩
          rw [hV] at HU1 HR1 HC1 HD
          rw [show ((q + 1 : Nat) : Int) = (q : Int) + 1 from rfl] at HD
          have hq9 : q ≤ 1000 := by omega
          clear htq hqe hu hr hc
          go_wp2_with fail
          refine HD.out.mono ?_
          rintro e w5 ⟨rfl, rfl⟩
          have hqL : q < L.length := by have := HT.out; have := HLn.out; omega
          have hdL : d < L.length := by omega
          have hqj : q < j := by have := HT.out; omega
          have hdj : d < j := by omega
          obtain ⟨x, hx⟩ : ∃ x, L.getD q 0 = x := ⟨_, rfl⟩
          obtain ⟨y, hy⟩ : ∃ y, L.getD d 0 = y := ⟨_, rfl⟩
          have hsw : swp L q d = (L.set q y).set d x := by rw [swp, hx, hy]
          have c1 : w5.cell? ⟨g, q, none⟩ = some (.int .i64 x) := by rw [HR1.out.cellAt q (by omega), ic_at L q hqL, ← hx, List.getD_eq_getElem?_getD, List.getElem?_eq_getElem hqL]; rfl
          have c2 : w5.cell? ⟨g, d, none⟩ = some (.int .i64 y) := by rw [HR1.out.cellAt d (by omega), ic_at L d hdL, ← hy, List.getD_eq_getElem?_getD, List.getElem?_eq_getElem hdL]; rfl
          have f1 := HR1.out.frozenAt q
          have R1 := hid (HR1.out.stored q (.int .i64 y)).1
          have G1 := hid (HR1.out.stored q (.int .i64 y)).2
          rw [ic_set] at R1
          obtain ⟨x3, c3⟩ : ∃ z, (w5.setCell ⟨g, q, none⟩ (.int .i64 y)).cell? ⟨g, d, none⟩ = some (.int .i64 z) := ⟨_, by rw [R1.out.cellAt d (by omega)]; exact ic_at _ d (by rw [List.length_set]; exact hdL)⟩
          have f3 := R1.out.frozenAt d
          have R2 := hid (R1.out.stored d (.int .i64 x)).1
          have G2 := hid (R1.out.stored d (.int .i64 x)).2
          rw [ic_set, ← hsw] at R2
          have HC2 := hid (grown_chg (grown_chg HC1.out G1.out (fun k e => by cases e; exact hgw)) G2.out (fun k e => by cases e; exact hgw))
          have HU2 := hid (UBox.grown (UBox.grown HU1.out G1.out (fun k e => by cases e; omega)) G2.out (fun k e => by cases e; omega))
          clear hsw HD hV hx hy R1 G1 G2
          go_wp2
          go_roundw
          case rel => exact ⟨t + 1, q - 1, by have := HT.out; omega, by congr 1; omega, by rw [HB.out]; exact HU2.out, by rw [HB.out]; exact R2.out, HC2.out⟩
          case measure => simp [intOf]; omega
        · have hIq : ¬ (0 : Int) < (q : Int) := by omega
          have HE := hid (show t = j - 1 by omega)
          have HUf := hid hu
          have HRf := hid hr
          have HCf := hid hc
          clear hu hr hc
          go_wp2
          go_ret
          rw [← HE.out]
          refine ⟨⟨_, rfl, ?_⟩, HUf.out, HCf.out⟩
          unfold OI
          rw [HLn.out]
          exact HRf.out
end Go.Proofs.Ythkddjffofehjaa
