/-
  All: what it answers, and what its iterator goes over.
-/
import Derived.Test.YtaiccmbhdgecgaaAl2
import Derived.Test.YtaiccmbhdgecgaaRgV
namespace Go.Proofs.Ytaiccmbhdgecgaa
open Go.RowKit Go.Shelf
set_option maxRecDepth 100000
set_option linter.unusedVariables false
set_option linter.unusedSimpArgs false
attribute [local go_sem] Oper.semAt_some

/-- the k-th list, in a block of its own that is new since A -/
def DgV (H Dd : Nat) (k : Nat) (A : World) (v : Value) (W : World) : Prop := OwI W A.heap.size v (dig H k Dd)
set_option maxHeartbeats 2000000 in
theorem all_seq (g1 g2 g3 B0 H Dd : Nat) (w : World) (hH : 1 ≤ H ∧ H ≤ 16) (hD : Dd ≤ 24) (hN : H ^ Dd ≤ 1048576) (b1 : g1 < B0) (b2 : g2 < B0) (b3 : g3 < B0) (h1 : IBox w g1 ((H ^ Dd : Nat) : Int)) (h2 : IBox w g2 (H : Int)) (h3 : IBox w g3 (Dd : Int)) :
    SeqV 43 #[.pointer (some ⟨g1, 0, none⟩), .pointer (some ⟨g2, 0, none⟩), .pointer (some ⟨g3, 0, none⟩)] B0 (H ^ Dd) (DgV H Dd) w := fun l J Jx W hW hB hJ hJx hY h0 => by
  obtain ⟨N, hNe⟩ : ∃ N, N = H ^ Dd := ⟨_, rfl⟩
  rw [← hNe] at h1 hN hY ⊢
  have bx : ∀ {g : Nat} {v : Int} {wr : World}, g < B0 → IBox w g v → KpB B0 W wr → IBox wr g v := fun hg hx hk => (hk _ hg).trans ((hW.block _ hg).trans hx)
  have HX := hid (fun wr (hk : KpB B0 W wr) => And.intro (bx b1 h1 hk) (And.intro (bx b2 h2 hk) (bx b3 h3 hk)))
  have HY := hid hY
  have HDg := hid (fun k (hk : k ≤ 1048576) wr => digits_any H k Dd hH hD hk wr)
  clear hJ hJx hY bx h1 h2 h3 hW hNe
  have c1 := (HX.out W (KpB.refl _ _)).1.facts.1
  refine callsIn_of_wp Try.func43 rfl trivial ?_ rfl
  simp only [Try.ntmps43, List.size_toArray, List.length_cons, List.length_nil, Nat.reduceAdd, Nat.reduceSub, Array.replicate_succ, Array.replicate_zero, List.push_toArray, List.append_toArray, List.nil_append, List.cons_append]
  gi_wp2_with fail
  gi_loopw [7] (fun v wr => ∃ k : Nat, k ≤ N ∧ v = .int .i64 (k : Int) ∧ J k wr ∧ KpB B0 W wr ∧ W.heap.size ≤ wr.heap.size) (fun v _ => N - (intOf v).toNat)
  case atStart => exact ⟨0, Nat.zero_le _, rfl, h0, KpB.refl _ _, Nat.le_refl _⟩
  case round =>
    obtain ⟨k, hk, rfl, hJs, hkp, hsz⟩ := hrel
    obtain ⟨x1, x2, x3⟩ := HX.out wr hkp
    have c2 := x2.facts.1
    have c3 := x3.facts.1
    have HK := hid hkp
    have HJs := hid hJs
    have HZ := hid hsz
    clear hJs hkp x1 x2 x3 c1 hsz
    by_cases hlt : k < N
    · have hI : (k : Int) < (N : Int) := by omega
      have hdI : decide (k < N) = true := by simp; exact hlt
      have HL := hid hlt
      have HD := hid (HDg.out k (by omega) wr)
      clear hlt
      gi_wp2_with fail
      refine ⟨trivial, (callsIn_wide.2 HD.out).mono ?_⟩
      rintro e w3 ⟨⟨v, rfl, ho⟩, hb3⟩
      obtain ⟨fn, tmps, assign, body, hy, hR⟩ := HY.out k v wr w3 HJs.out HL.out hb3 ho HZ.out
      have HB3 := hid hb3
      clear hb3 ho c2 c3
      gi_wp2_with fail
      refine hR.mono ?_
      rintro e W3 (⟨rfl, hJ3, hk3⟩ | ⟨rfl, hJx3, hk3⟩)
      · have HK3 := hid (show KpB B0 W W3 from fun i hi => (hk3.block i (.inl hi)).trans ((HB3.out.block i (by have := HZ.out; omega)).trans (HK.out i hi)))
        have HZ3 := hid (show W.heap.size ≤ W3.heap.size by have := hk3.size; have := HB3.out.size; have := HZ.out; omega)
        have HJ3 := hid hJ3
        clear hJ3 hk3 hy hR
        gi_wp2
        go_roundw
        case rel => exact ⟨k + 1, HL.out, by go_num, HJ3.out, HK3.out, HZ3.out⟩
        case measure => have := HL.out; simp [intOf]; omega
      · have HJx := hid hJx3
        clear hy hR hJx3 hk3
        gi_wp2
        refine bodyPost_ret (results_none rfl _ _ _) rfl ?_
        exact ⟨⟨_, rfl⟩, .inr ⟨_, HJx.out⟩⟩
    · have hI : ¬ (k : Int) < (N : Int) := by omega
      have hdI : decide (k < N) = false := by simp; omega
      have HX2 := hid (show J N wr by have : k = N := by omega
                                      rw [← this]; exact HJs.out)
      clear hlt
      gi_wp2
      go_end0
      exact ⟨⟨_, rfl⟩, .inl HX2.out⟩
theorem none_seq (B0 : Nat) (D : Nat → World → Value → World → Prop) (w : World) : SeqV 38 #[] B0 0 D w := fun l J Jx W hW hB hJ hJx hY h0 => by
  refine callsIn_of_wp Try.func38 rfl trivial ?_ rfl
  simp only [Try.ntmps38, List.size_toArray, List.length_cons, List.length_nil, Nat.reduceAdd, Nat.reduceSub, Array.replicate_succ, Array.replicate_zero, List.push_toArray, List.append_toArray, List.nil_append, List.cons_append]
  have H0 := hid h0
  clear hY hJ h0 hJx
  gi_wp2
  go_end0
  exact ⟨⟨_, rfl⟩, .inl H0.out⟩
/-- what All answers -/
def AlE (h d : Int) (w' : World) (e : Ending) : Prop :=
  (okA h d = true ∧ ∃ g1 g2 g3, e = .returned (.func (.func 43) #[] #[.pointer (some ⟨g1, 0, none⟩), .pointer (some ⟨g2, 0, none⟩), .pointer (some ⟨g3, 0, none⟩)]) ∧ IBox w' g1 ((h.toNat ^ d.toNat : Nat) : Int) ∧ IBox w' g2 h ∧ IBox w' g3 d) ∨ (okA h d = false ∧ e = .returned (.func (.func 38) #[] #[]))
theorem IBox.put {w : World} {b : Nat} {v : Int} (h : IBox w b v) (u : Int) : IBox (w.setCell ⟨b, 0, none⟩ (.int .i64 u)) b u := Lib.heap_setCell_same h _
theorem IBox.oth {w : World} {b g : Nat} {v : Int} (h : IBox w b v) (hne : b ≠ g) (u : Value) : IBox (w.setCell ⟨g, 0, none⟩ u) b v := ((gb_set w g 0 u).block b h.facts.2.2 (fun e => by injection e with e; exact hne e)).trans h
set_option maxHeartbeats 4000000 in
theorem all_any (h d : Int) (w : World) : Calls Try.prog 16 #[.int .i64 h, .int .i64 d] w fun e w' => AlE h d w' e ∧ Below w.heap.size w w' := by
  have hmf : ∀ (fn : Fn) (first cap : Array Value) (w : World), (Instr.makeFunc fn first cap).run Try.prog w = .ok (.func fn first cap) w := fun _ _ _ _ => rfl
  have HI := hid (isCount_any h)
  obtain ⟨W2, hW2⟩ : ∃ W2, (w.alloc (.cells #[.int .i64 h] 3)).alloc (.cells #[.int .i64 d] 3) = W2 := ⟨_, rfl⟩
  have bW2 : Below w.heap.size w W2 := by rw [← hW2]; exact ((Below.refl _ _).alloc (Nat.le_refl _) _).alloc (by simp) _
  have zW2 : W2.heap.size = w.heap.size + 2 := by rw [← hW2]; simp
  have x1 : IBox W2 w.heap.size h := by
    rw [← hW2]
    exact IBox.later (show IBox (w.alloc (.cells #[.int .i64 h] 3)) w.heap.size h from heap_alloc_new w _) (alloc_below _ _)
  have x2 : IBox W2 (w.heap.size + 1) d := by
    rw [← hW2]
    have := heap_alloc_new (w.alloc (.cells #[.int .i64 h] 3)) (.cells #[.int .i64 d] 3)
    rw [World.size_alloc] at this
    exact this
  have q1 := x1.facts.1
  have q2 := x2.facts.1
  have HB2 := hid bW2
  have HX := hid (And.intro x1 x2)
  by_cases hok : 1 ≤ h ∧ h ≤ 16 ∧ 0 ≤ d ∧ d ≤ 24
  · obtain ⟨a1, a2, a3, a4⟩ := hok
    obtain ⟨H, rfl⟩ : ∃ H : Nat, h = (H : Int) := ⟨h.toNat, by omega⟩
    obtain ⟨D, rfl⟩ : ∃ D : Nat, d = (D : Int) := ⟨d.toNat, by omega⟩
    have hok' : okN (H : Int) = true := (okN_iff _).2 (by omega)
    rw [hok'] at HI
    have hokA := okA_nat H D (by omega) (by omega)
    have hd1 : ¬ (D : Int) < 0 := by omega
    have hd2 : ¬ (24 : Int) < (D : Int) := by omega
    have hD1 : 1 ≤ H := by omega
    have hD16 : H ≤ 16 := by omega
    have hD24 : D ≤ 24 := by omega
    obtain ⟨W3, hW3⟩ : ∃ W3, W2.alloc (.cells #[.int .i64 1] 3) = W3 := ⟨_, rfl⟩
    have b3 : Below W2.heap.size W2 W3 := by rw [← hW3]; exact alloc_below _ _
    have x3 : IBox W3 (w.heap.size + 2) 1 := by
      rw [← hW3]
      have := heap_alloc_new W2 (.cells #[.int .i64 1] 3)
      rw [zW2] at this
      exact this
    have HX3 := hid (And.intro (x1.later b3) (And.intro (x2.later b3) x3))
    have HB3 := hid (HB2.out.trans (b3.mono (by omega)))
    have q3 := x3.facts.1
    have p2 := (x2.later b3).facts.1
    have HOk := hid hokA
    clear a1 a2 a3 a4 x1 x2 x3 b3 hokA bW2
    go_enter Try.func16, Try.ntmps16
    go_wp2_with fail
    refine Calls.mono (HI.out _) ?_
    rintro e wz ⟨rfl, hwz⟩
    replace hwz := hwz.symm
    subst hwz
    go_wp2_with fail
    go_loopw [18] (fun s18 wr => ∃ (i n : Nat), i ≤ D ∧ s18 = .int .i64 (i : Int) ∧ Hid (n = H ^ i) ∧ n ≤ 16777216 ∧ Hid (IBox wr w.heap.size (H : Int) ∧ IBox wr (w.heap.size + 1) (D : Int) ∧ IBox wr (w.heap.size + 2) (n : Int)) ∧ Hid (Below w.heap.size w wr)) (fun s18 _ => D - (intOf s18).toNat)
    case atStart => exact ⟨0, 1, Nat.zero_le _, rfl, hid rfl, by omega, HX3, HB3⟩
    case round =>
      obtain ⟨i, n, hi, h18, HN, hn, HBx, HBr⟩ := hrel
      subst h18
      obtain ⟨y1, y2, y3⟩ := HBx.out
      have r1 := y1.facts.1
      have r3 := y3.facts.1
      have f3 := y3.facts.2.1
      have ne1 : w.heap.size ≠ w.heap.size + 2 := by omega
      have ne2 : w.heap.size + 1 ≠ w.heap.size + 2 := by omega
      have HPut := hid (fun u : Int => And.intro (y1.oth ne1 (.int .i64 u)) (And.intro (y2.oth ne2 (.int .i64 u)) (y3.put u)))
      have HBp := hid (fun u : Int => HBr.out.setCell (p := ⟨w.heap.size + 2, 0, none⟩) (Nat.le_add_right _ _) (.int .i64 u))
      clear y1 y2 y3 q1 q2 q3 p2
      by_cases hlt : i < D
      · have hI : (i : Int) < (D : Int) := by omega
        have hdI : decide (i < D) = true := by simp; exact hlt
        by_cases hbig : 1048576 < n
        · have hbI : (1048576 : Int) < (n : Int) := by omega
          have HF := hid (show okA (H : Int) (D : Int) = false by rw [HOk.out]; exact decide_eq_false (by have := pow_up (h := H) (i := i) (d := D) hD1 (by omega); have := HN.out; omega))
          clear hbig
          go_wp2
          go_ret
          exact ⟨.inr ⟨HF.out, rfl⟩, HBr.out⟩
        · have hbI : ¬ (1048576 : Int) < (n : Int) := by omega
          have hm : n * H ≤ 16777216 := Nat.le_trans (Nat.mul_le_mul (show n ≤ 1048576 by omega) hD16) (by omega)
          obtain ⟨m, hmm⟩ : ∃ m, m = n * H := ⟨_, rfl⟩
          have hmi : (n : Int) * (H : Int) = (m : Int) := by rw [hmm]; simp
          have HM := hid (show m = H ^ (i + 1) by rw [hmm, HN.out, Nat.pow_succ])
          rw [← hmm] at hm
          clear hmm hbig
          go_wp2
          go_roundw
          case rel => exact ⟨i + 1, m, by omega, by go_num, HM, hm, hid (HPut.out (m : Int)), hid (HBp.out (m : Int))⟩
          case measure => simp [intOf]; omega
      · have hI : ¬ (i : Int) < (D : Int) := by omega
        have hdI : decide (i < D) = false := by simp; omega
        have hiD : i = D := by omega
        have HE := hid (show n = H ^ D by rw [HN.out, hiD])
        clear hiD hlt
        by_cases hbig : 1048576 < n
        · have hbI : (1048576 : Int) < (n : Int) := by omega
          have HF := hid (show okA (H : Int) (D : Int) = false by rw [HOk.out]; exact decide_eq_false (by have := HE.out; omega))
          clear hbig
          go_wp2
          go_ret
          exact ⟨.inr ⟨HF.out, rfl⟩, HBr.out⟩
        · have hbI : ¬ (1048576 : Int) < (n : Int) := by omega
          have HF := hid (show okA (H : Int) (D : Int) = true by rw [HOk.out]; exact decide_eq_true (by have := HE.out; omega))
          clear hbig
          go_wp2
          go_ret
          exact ⟨.inl ⟨HF.out, _, _, _, rfl, by simp only [Int.toNat_natCast]; rw [← HE.out]; exact HBx.out.2.2, HBx.out.1, HBx.out.2.1⟩, HBr.out⟩
  · have HF := hid (show okA h d = false from decide_eq_false fun x => hok ⟨x.1, x.2.1, x.2.2.1, x.2.2.2.1⟩)
    by_cases b1 : 1 ≤ h ∧ h ≤ 16
    · have hokN : okN h = true := (okN_iff _).2 b1
      rw [hokN] at HI
      by_cases b3 : d < 0
      · clear hok hokN b1
        go_enter Try.func16, Try.ntmps16
        go_wp2_with fail
        refine Calls.mono (HI.out _) ?_
        rintro e wz ⟨rfl, hwz⟩
        replace hwz := hwz.symm
        subst hwz
        go_wp2
        go_ret
        exact ⟨.inr ⟨HF.out, rfl⟩, HB2.out⟩
      · have b4 : 24 < d := by omega
        clear hok hokN b1
        go_enter Try.func16, Try.ntmps16
        go_wp2_with fail
        refine Calls.mono (HI.out _) ?_
        rintro e wz ⟨rfl, hwz⟩
        replace hwz := hwz.symm
        subst hwz
        go_wp2
        go_ret
        exact ⟨.inr ⟨HF.out, rfl⟩, HB2.out⟩
    · rw [okN_no b1] at HI
      clear hok b1
      go_enter Try.func16, Try.ntmps16
      go_wp2_with fail
      refine Calls.mono (HI.out _) ?_
      rintro e wz ⟨rfl, hwz⟩
      replace hwz := hwz.symm
      subst hwz
      go_wp2
      go_ret
      exact ⟨.inr ⟨HF.out, rfl⟩, HB2.out⟩
end Go.Proofs.Ytaiccmbhdgecgaa
