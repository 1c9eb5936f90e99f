/-
  lin: both Checks. Laid by mklh7.py.
-/
import Derived.Test.YtgjalfmnnoaemaaLh6
namespace Go.Proofs.Ytgjalfmnnoaemaa
open Go.RowKit
set_option maxRecDepth 100000

attribute [local go_sem ↓] opLd_op opSt_op
set_option maxHeartbeats 4000000 in
theorem check_any (v : Value) (L : List Opx) (w : World) (h1 : RO w v L) :
    Calls Try.prog 7 #[v] w fun e w' => (∃ a n, e = .returned (.tuple #[.int .i64 a, .int .i64 n]) ∧ CkR L a n) ∧ Below w.heap.size w w' := by
  have H1 := hid h1
  obtain ⟨a1, p1, rfl⟩ := h1.form
  have hlen : (L.length : Int) ≤ 9223372036854775807 := by
    rcases h1 with ⟨rfl, _⟩ | ⟨_, _, _, _, hc, _⟩
    · simp
    · omega
  clear h1
  by_cases hm : 4096 < L.length
  · have hmI : (4096 : Int) < (L.length : Int) := by omega
    have HM := hid hm
    clear hm hlen
    go_enter Try.func7, Try.ntmps7
    go_wp2_with fail
    go_ret2
    exact ⟨⟨_, _, rfl, .inl ⟨HM.out, rfl, rfl⟩⟩, Below.refl _ _⟩
  · have hmI : ¬ (4096 : Int) < (L.length : Int) := by omega
    have HM := hid (show L.length ≤ 4096 by omega)
    clear hm
    go_enter Try.func7, Try.ntmps7
    go_wp2_with fail
    go_loopw [11] (fun i wr => ∃ k : Nat, k ≤ L.length ∧ i = .int .i64 (k : Int) ∧ (∀ j (hj : j < L.length), j < k → oF L[j] = 0) ∧ Below w.heap.size w wr) (fun i _ => L.length - (intOf i).toNat)
    case atStart => exact ⟨0, by omega, rfl, fun j _ hj => by omega, Below.refl _ _⟩
    case round =>
      obtain ⟨k, hk, rfl, hf, hbl⟩ := hrel
      have HF := hid hf
      have HB := hid hbl
      by_cases hlt : k < L.length
      · obtain ⟨b, off, cap, v1, v2, e1, hc1, o1, l1, m1⟩ := (H1.out.below hbl).at k hlt
        cases e1
        have hI : (k : Int) < (L.length : Int) := by omega
        have E1 := run_opLd o1
        obtain ⟨W, E2, bW, zW, oW⟩ := op_new wr (L[k]'hlt) l1.one m1.one
        have OP := hid (oF_parts (L[k]'hlt))
        have BW := hid (hbl.trans (bW.mono hbl.size))
        obtain ⟨q1, q2, q3⟩ := m1.form
        have RZ := hid (sameZero_any (L[k]'hlt).rep v2 W ⟨q1, q2, q3⟩)
        have HO := hid oW
        have c6 := oW.at 6 _ rfl
        have c7 := oW.at 7 _ rfl
        have c8 := oW.at 8 _ rfl
        have c9 := oW.at 9 _ rfl
        have c10 := oW.at 10 _ rfl
        have c11 := oW.at 11 _ rfl
        have c12 := oW.at 12 _ rfl
        have c13 := oW.at 13 _ rfl
        rw [Nat.zero_add] at c6 c7 c8 c9 c10 c11 c12 c13
        subst q3
        unfold ryA at RZ
        have HX := hid (show ∃ y, y = L[k]'hlt from ⟨_, rfl⟩)
        have KF : ∀ y : Opx, y = L[k]'hlt → oF y ≠ 0 → CkR L (oF y) (k : Int) := fun y e h => .inr (.inl ⟨HM.out, k, hlt, by rw [← e]; exact h, fun j hj => HF.out j (by omega) hj, by rw [← e], rfl⟩)
        have KN : ∀ y : Opx, y = L[k]'hlt → oF y = 0 → ∀ j (hj : j < L.length), j < k + 1 → oF L[j] = 0 := fun y e h j hj h2 => by
          by_cases hjk : j < k
          · exact HF.out j hj hjk
          · obtain rfl : j = k := by omega
            rw [← e]
            exact h
        generalize hy : L[k]'hlt = y at *
        have KF1 := hid (KF y rfl)
        have KN1 := hid (KN y rfl)
        obtain ⟨⟨qi, qk, qL, qh, qt, qn⟩, ⟨yi, ye, yl, yL, yn⟩, be, en, opn⟩ := y
        dsimp only at c6 c7 c8 c9 c10 c11 c12 c13 RZ OP
        generalize opA _ v1 _ = X at E1 E2
        generalize yL.length = yn' at *
        clear hy KF KN o1 l1 m1 hc1 oW bW hf hbl HX
        have zS : wr.heap.size < W.heap.size := by omega
        rcases OP.out with ⟨f1, f⟩ | ⟨f1, f2, f⟩ | ⟨f1, f2, f3, f⟩ | ⟨f1, f2, f3, f4, f5, f⟩ | ⟨f1, f2, f3, f4, f5, f⟩ | ⟨f1, f2, f3, f4, f⟩
        · have KK := hid (KF1.out (by rw [f]; decide))
          rw [f] at KK
          clear KF1 KN1 OP f RZ
          go_wp2_with fail
          go_ret2
          exact ⟨⟨_, _, rfl, KK.out⟩, BW.out⟩
        · have KK := hid (KF1.out (by rw [f]; decide))
          rw [f] at KK
          clear KF1 KN1 OP f RZ
          go_wp2_with fail
          go_ret2
          exact ⟨⟨_, _, rfl, KK.out⟩, BW.out⟩
        · have KK := hid (KF1.out (by rw [f]; decide))
          rw [f] at KK
          clear KF1 KN1 OP f RZ
          go_wp2_with fail
          go_ret2
          exact ⟨⟨_, _, rfl, KK.out⟩, BW.out⟩
        · have KK := hid (KF1.out (by rw [f]; decide))
          rw [f] at KK
          subst f4
          rw [f5] at RZ
          clear KF1 KN1 OP f f5
          go_wp2_with fail
          refine Calls.mono RZ.out ?_
          rintro e w3 ⟨rfl, hb3⟩
          have B3 := hid (BW.out.trans (hb3.mono BW.out.size))
          have d13 := below_cells hb3 _ _ c13
          clear hb3 RZ c6 c7 c8 c9 c10 c11 c12 c13 f1 f2 f3 E1 E2
          go_wp2_with fail
          go_ret2
          exact ⟨⟨_, _, rfl, KK.out⟩, B3.out⟩
        · have KK := hid (KN1.out f)
          subst f4
          rw [f5] at RZ
          clear KF1 KN1 OP f f5
          go_wp2_with fail
          refine Calls.mono RZ.out ?_
          rintro e w3 ⟨rfl, hb3⟩
          have B3 := hid (BW.out.trans (hb3.mono BW.out.size))
          have d13 := below_cells hb3 _ _ c13
          clear hb3 RZ c6 c7 c8 c9 c10 c11 c12 c13 f1 f2 f3 E1 E2
          go_wp2_with fail
          go_roundw
          case rel => exact ⟨k + 1, by omega, by go_num, KK.out, B3.out⟩
          case measure => simp [intOf]; omega
        · have KK := hid (KN1.out f)
          subst f4
          clear KF1 KN1 OP f RZ
          go_wp2_with fail
          go_roundw
          case rel => exact ⟨k + 1, by omega, by go_num, KK.out, BW.out⟩
          case measure => simp [intOf]; omega
      · have hkl : k = L.length := by omega
        have KK := hid (show ∀ j (hj : j < L.length), oF L[j] = 0 from fun j hj => hf j hj (by omega))
        clear hkl hf hbl
        go_wp2_with fail
        go_ret2
        exact ⟨⟨_, _, rfl, .inr (.inr ⟨HM.out, KK.out, rfl, rfl⟩)⟩, HB.out⟩
set_option maxHeartbeats 4000000 in
theorem rcheck_any (v : Value) (L : List Opx) (w : World) (h1 : RO w v L) :
    Calls Try.prog 8 #[v] w fun e w' => (∃ a n, e = .returned (.tuple #[.int .i64 a, .int .i64 n]) ∧ CkR L a n) ∧ Below w.heap.size w w' := by
  have H1 := hid h1
  obtain ⟨a1, p1, rfl⟩ := h1.form
  have hlen : (L.length : Int) ≤ 9223372036854775807 := by
    rcases h1 with ⟨rfl, _⟩ | ⟨_, _, _, _, hc, _⟩
    · simp
    · omega
  clear h1
  by_cases hm : 4096 < L.length
  · have hmI : (4096 : Int) < (L.length : Int) := by omega
    have HM := hid hm
    clear hm hlen
    go_enter Try.func8, Try.ntmps8
    go_wp2_with fail
    go_ret2
    exact ⟨⟨_, _, rfl, .inl ⟨HM.out, rfl, rfl⟩⟩, Below.refl _ _⟩
  · have hmI : ¬ (4096 : Int) < (L.length : Int) := by omega
    have HM := hid (show L.length ≤ 4096 by omega)
    clear hm
    go_enter Try.func8, Try.ntmps8
    go_wp2_with fail
    go_loopw [4] (fun i wr => ∃ k : Nat, k ≤ L.length ∧ i = .int .i64 (k : Int) ∧ (∀ j (hj : j < L.length), j < k → oF L[j] = 0) ∧ Below w.heap.size w wr) (fun i _ => L.length - (intOf i).toNat)
    case atStart => exact ⟨0, by omega, rfl, fun j _ hj => by omega, Below.refl _ _⟩
    case round =>
      obtain ⟨k, hk, rfl, hf, hbl⟩ := hrel
      have HF := hid hf
      have HB := hid hbl
      by_cases hlt : k < L.length
      · obtain ⟨b, off, cap, v1, v2, e1, hc1, o1, l1, m1⟩ := (H1.out.below hbl).at k hlt
        cases e1
        have hI : (k : Int) < (L.length : Int) := by omega
        have E1 := run_opLd o1
        obtain ⟨W, E2, bW, zW, oW⟩ := op_new wr (L[k]'hlt) l1.one m1.one
        have OP := hid (oF_parts (L[k]'hlt))
        have BW := hid (hbl.trans (bW.mono hbl.size))
        obtain ⟨q1, q2, q3⟩ := m1.form
        have RZ := hid (refZero_any (L[k]'hlt).rep v2 W ⟨q1, q2, q3⟩)
        have HO := hid oW
        have c6 := oW.at 6 _ rfl
        have c7 := oW.at 7 _ rfl
        have c8 := oW.at 8 _ rfl
        have c9 := oW.at 9 _ rfl
        have c10 := oW.at 10 _ rfl
        have c11 := oW.at 11 _ rfl
        have c12 := oW.at 12 _ rfl
        have c13 := oW.at 13 _ rfl
        rw [Nat.zero_add] at c6 c7 c8 c9 c10 c11 c12 c13
        subst q3
        unfold ryA at RZ
        have HX := hid (show ∃ y, y = L[k]'hlt from ⟨_, rfl⟩)
        have KF : ∀ y : Opx, y = L[k]'hlt → oF y ≠ 0 → CkR L (oF y) (k : Int) := fun y e h => .inr (.inl ⟨HM.out, k, hlt, by rw [← e]; exact h, fun j hj => HF.out j (by omega) hj, by rw [← e], rfl⟩)
        have KN : ∀ y : Opx, y = L[k]'hlt → oF y = 0 → ∀ j (hj : j < L.length), j < k + 1 → oF L[j] = 0 := fun y e h j hj h2 => by
          by_cases hjk : j < k
          · exact HF.out j hj hjk
          · obtain rfl : j = k := by omega
            rw [← e]
            exact h
        generalize hy : L[k]'hlt = y at *
        have KF1 := hid (KF y rfl)
        have KN1 := hid (KN y rfl)
        obtain ⟨⟨qi, qk, qL, qh, qt, qn⟩, ⟨yi, ye, yl, yL, yn⟩, be, en, opn⟩ := y
        dsimp only at c6 c7 c8 c9 c10 c11 c12 c13 RZ OP
        generalize opA _ v1 _ = X at E1 E2
        generalize yL.length = yn' at *
        clear hy KF KN o1 l1 m1 hc1 oW bW hf hbl HX
        have zS : wr.heap.size < W.heap.size := by omega
        rcases OP.out with ⟨f1, f⟩ | ⟨f1, f2, f⟩ | ⟨f1, f2, f3, f⟩ | ⟨f1, f2, f3, f4, f5, f⟩ | ⟨f1, f2, f3, f4, f5, f⟩ | ⟨f1, f2, f3, f4, f⟩
        · have KK := hid (KF1.out (by rw [f]; decide))
          rw [f] at KK
          clear KF1 KN1 OP f RZ
          go_wp2_with fail
          go_ret2
          exact ⟨⟨_, _, rfl, KK.out⟩, BW.out⟩
        · have KK := hid (KF1.out (by rw [f]; decide))
          rw [f] at KK
          clear KF1 KN1 OP f RZ
          go_wp2_with fail
          go_ret2
          exact ⟨⟨_, _, rfl, KK.out⟩, BW.out⟩
        · have KK := hid (KF1.out (by rw [f]; decide))
          rw [f] at KK
          clear KF1 KN1 OP f RZ
          go_wp2_with fail
          go_ret2
          exact ⟨⟨_, _, rfl, KK.out⟩, BW.out⟩
        · have KK := hid (KF1.out (by rw [f]; decide))
          rw [f] at KK
          subst f4
          rw [f5] at RZ
          clear KF1 KN1 OP f f5
          go_wp2_with fail
          refine Calls.mono RZ.out ?_
          rintro e w3 ⟨rfl, hb3⟩
          have B3 := hid (BW.out.trans (hb3.mono BW.out.size))
          have d13 := below_cells hb3 _ _ c13
          clear hb3 RZ c6 c7 c8 c9 c10 c11 c12 c13 f1 f2 f3 E1 E2
          go_wp2_with fail
          go_ret2
          exact ⟨⟨_, _, rfl, KK.out⟩, B3.out⟩
        · have KK := hid (KN1.out f)
          subst f4
          rw [f5] at RZ
          clear KF1 KN1 OP f f5
          go_wp2_with fail
          refine Calls.mono RZ.out ?_
          rintro e w3 ⟨rfl, hb3⟩
          have B3 := hid (BW.out.trans (hb3.mono BW.out.size))
          have d13 := below_cells hb3 _ _ c13
          clear hb3 RZ c6 c7 c8 c9 c10 c11 c12 c13 f1 f2 f3 E1 E2
          go_wp2_with fail
          go_roundw
          case rel => exact ⟨k + 1, by omega, by go_num, KK.out, B3.out⟩
          case measure => simp [intOf]; omega
        · have KK := hid (KN1.out f)
          subst f4
          generalize zR _ = zz at RZ
          clear KF1 KN1 OP f
          go_wp2_with fail
          refine Calls.mono RZ.out ?_
          rintro e w3 ⟨rfl, hb3⟩
          have B3 := hid (BW.out.trans (hb3.mono BW.out.size))
          have d13 := below_cells hb3 _ _ c13
          clear hb3 RZ c6 c7 c8 c9 c10 c11 c12 c13 f1 f2 f3 E1 E2
          go_wp2_with fail
          go_roundw
          case rel => exact ⟨k + 1, by omega, by go_num, KK.out, B3.out⟩
          case measure => simp [intOf]; omega
      · have hkl : k = L.length := by omega
        have KK := hid (show ∀ j (hj : j < L.length), oF L[j] = 0 from fun j hj => hf j hj (by omega))
        clear hkl hf hbl
        go_wp2_with fail
        go_ret2
        exact ⟨⟨_, _, rfl, .inr (.inr ⟨HM.out, KK.out, rfl, rfl⟩)⟩, HB.out⟩
end Go.Proofs.Ytgjalfmnnoaemaa
