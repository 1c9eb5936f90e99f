/-
  Each's own loop: the days that it yields.
-/
import Derived.RangeFuncNested
import Derived.RangeFuncBound
import Derived.RangeFuncCalls
import Derived.RangeFuncLeaves
import Derived.Shelf.Abstract
import Derived.Shelf.RegionOpen
import Derived.WalkKit
import Derived.OwnWalkIn
import Derived.TacticsInMore
import Derived.LoopNIn
import Derived.LoopIn
import Derived.Test.YtjmainmidacmfaaDoorEachC
namespace Go.Proofs.YtjmainmidacmfaaDoor
open Go.RowKit Go.Shelf
set_option maxRecDepth 100000
attribute [local go_sem] Oper.semAt_some

/-- the first k numbers from a on, s apart -/
def upE (a s : Int) (k : Nat) : List Int := (List.range k).map fun i : Nat => a + (i : Int) * s
theorem upE_succ (a s : Int) (k : Nat) : upE a s (k + 1) = upE a s k ++ [a + (k : Int) * s] := by unfold upE; rw [List.range_succ, List.map_append]; rfl
theorem upE_len (a s : Int) (k : Nat) : (upE a s k).length = k := by unfold upE; simp
theorem upE_at (a s : Int) (k j : Nat) (h : j < k) : (upE a s k)[j]? = some (a + (j : Int) * s) := by unfold upE; simp [h]
/-- how many there are up to b -/
def cnE (a b s : Int) : Nat := if 0 < s then (if a ≤ b then ((b - a) / s + 1).toNat else 0) else if s < 0 then (if b ≤ a then ((a - b) / (-s) + 1).toNat else 0) else 0

theorem cn_pos {a b s : Int} (h : 0 < s) (k : Nat) : k < cnE a b s ↔ a + (k : Int) * s ≤ b := by
  unfold cnE
  rw [if_pos h]
  have hks : 0 ≤ (k : Int) * s := Int.mul_nonneg (by omega) (by omega)
  by_cases hab : a ≤ b
  · rw [if_pos hab]
    have h1 : 0 ≤ (b - a) / s := Int.ediv_nonneg (by omega) (by omega)
    have h2 := Int.le_ediv_iff_mul_le (a := (k : Int)) (b := b - a) h
    omega
  · rw [if_neg hab]
    omega
theorem cn_neg {a b s : Int} (h : s < 0) (k : Nat) : k < cnE a b s ↔ b ≤ a + (k : Int) * s := by
  unfold cnE
  rw [if_neg (by omega), if_pos h]
  have hks : 0 ≤ (k : Int) * (-s) := Int.mul_nonneg (by omega) (by omega)
  have hkn : (k : Int) * (-s) = -((k : Int) * s) := Int.mul_neg _ _
  by_cases hab : b ≤ a
  · rw [if_pos hab]
    have h1 : 0 ≤ (a - b) / (-s) := Int.ediv_nonneg (by omega) (by omega)
    have h2 := Int.le_ediv_iff_mul_le (a := (k : Int)) (b := a - b) (show 0 < -s by omega)
    rw [hkn] at h2
    omega
  · rw [if_neg hab]
    omega
theorem cn_zero (a b : Int) : cnE a b 0 = 0 := by simp [cnE]

/-- what the iterator reads between two rounds lies as it lay -/
def KpE (g1 gs g2 : Nat) (A B : World) : Prop := ∀ k : Nat, k = g1 ∨ k = gs ∨ k = g2 ∨ k = 0 → B.heap[k]? = A.heap[k]?
theorem KpE.refl (g1 gs g2 : Nat) (A : World) : KpE g1 gs g2 A A := fun _ _ => rfl
theorem KpE.trans {g1 gs g2 : Nat} {A B C : World} (h : KpE g1 gs g2 A B) (k : KpE g1 gs g2 B C) : KpE g1 gs g2 A C := fun i hi => (k i hi).trans (h i hi)
theorem KpE.below {g1 gs g2 B : Nat} {w w' : World} (hb : Below B w w') (h1 : g1 < B) (hs : gs < B) (h2 : g2 < B) (hG : 0 < B) : KpE g1 gs g2 w w' :=
  fun k hk => hb.block k (by rcases hk with rfl | rfl | rfl | rfl <;> omega)
theorem KpE.one {g1 gs g2 : Nat} {w w' : World} (h : KpE g1 gs g2 w w') {v : Int} (hx : IBox w g1 v) : IBox w' g1 v := (h g1 (.inl rfl)).trans hx
theorem KpE.step {g1 gs g2 : Nat} {w w' : World} (h : KpE g1 gs g2 w w') {v : Int} (hx : IBox w gs v) : IBox w' gs v := (h gs (.inr (.inl rfl))).trans hx
theorem KpE.two {g1 gs g2 : Nat} {w w' : World} (h : KpE g1 gs g2 w w') {v : Int} (hx : IBox w g2 v) : IBox w' g2 v := (h g2 (.inr (.inr (.inl rfl)))).trans hx
theorem KpE.tab {g1 gs g2 : Nat} {w w' : World} (h : KpE g1 gs g2 w w') (hx : HasAh w) : HasAh w' := fun k hk => (World.cell?_of_block (h 0 (.inr (.inr (.inr rfl))))).trans (hx k hk)

set_option maxHeartbeats 1000000 in
theorem each1_pos (m : Nat) (hm : 1 ≤ m) (l g1 gs g2 : Nat) (a b s : Int) (ha : 0 ≤ a ∧ a ≤ 3652424) (hb : 0 ≤ b ∧ b ≤ 3652424) (hs : 0 < s ∧ s ≤ 3652425) (J Jx : List Int → World → Prop) (W : World) (hJ : AbidesFrom W.heap.size J)
    (hY : ∀ pre x W1, J pre W1 → pre.length < cnE a b s → YieldAt Fence.wide (m - 1) Tryd.prog l #[dV (dY x) (dM x) (dD x)] W1 fun e W' => (e = .returned (.bool true) ∧ J (pre ++ [x]) W' ∧ KpE g1 gs g2 W1 W') ∨ (e = .returned (.bool false) ∧ Jx (pre ++ [x]) W'))
    (h0 : J [] W) (h1 : IBox W g1 a) (h2 : IBox W g2 b) (h3 : IBox W gs s) (hA : HasAh W) :
    CallsIn Fence.wide m Tryd.prog 38 #[.func (.yield l) #[] #[], .pointer (some ⟨g1, 0, none⟩), .pointer (some ⟨gs, 0, none⟩), .pointer (some ⟨g2, 0, none⟩)] W fun e W' => (∃ v, e = .returned v) ∧ ((∃ ys, ys = upE a s (cnE a b s) ∧ J ys W') ∨ (∃ pre, (∃ k, k ≤ cnE a b s ∧ pre = upE a s k) ∧ Jx pre W')) := by
  have HJ := hid hJ
  have HY := hid hY
  have H1 := hid h1
  have H2 := hid h2
  have H3 := hid h3
  have HA := hid hA
  obtain ⟨c1, _, _⟩ := h1.facts
  clear hJ hY h1 h2 h3 hA
  refine callsIn_of_wp Tryd.func38 rfl trivial ?_ rfl
  simp only [Tryd.ntmps38, List.size_toArray, List.length_cons, List.length_nil, Nat.reduceAdd, Nat.reduceSub, Array.replicate_succ, Array.replicate_zero, List.push_toArray, List.append_toArray, List.nil_append, List.cons_append]
  gi_wp2
  gi_loopw [5] (fun v wr => ∃ (k : Nat) (p : Int), k ≤ cnE a b s ∧ Hid (p = a + (k : Int) * s) ∧ v = .int .i64 p ∧ 0 ≤ p ∧ J (upE a s k) wr ∧ KpE g1 gs g2 W wr) (fun v _ => (b + 1 - intOf v).toNat)
  case atStart => exact ⟨0, a, Nat.zero_le _, hid (by omega), rfl, ha.1, h0, KpE.refl _ _ _ _⟩
  case round =>
    obtain ⟨k, p, hk, hp, rfl, hp0, hJs, hkp⟩ := hrel
    clear c1
    obtain ⟨c3, _, _⟩ := (hkp.step H3.out).facts
    obtain ⟨c2, _, _⟩ := (hkp.two H2.out).facts
    have HK := hid hkp
    have HJs := hid hJs
    have hiff := cn_pos (a := a) (b := b) hs.1 k
    rw [← hp.out] at hiff
    by_cases hlt : p ≤ b
    · have hk1 : k < cnE a b s := hiff.2 hlt
      have HYp := hid (fun W1 h => HY.out (upE a s k) p W1 h (by rw [upE_len]; exact hk1))
      have HD := hid (fun w h => dateOf_any p hp0 (by omega) w h)
      have HE := hid (upE_succ a s k)
      rw [← hp.out] at HE
      have hps : p + s = a + ((k + 1 : Nat) : Int) * s := by rw [hp.out, Int.natCast_add, Int.add_mul]; omega
      have HP := hid hps
      clear hps hiff hJs hkp HY
      generalize dY p = y at *
      generalize dM p = mo at *
      generalize dD p = d at *
      unfold dV at *
      gi_wp2_with fail
      refine ⟨trivial, ?_⟩
      refine (callsIn_wide.2 (HD.out _ (HK.out.tab HA.out))).mono ?_
      rintro e w1 ⟨rfl, hb1⟩
      have hJ1 := HJ.out _ _ _ none HJs.out (Below.grew hb1) (fun r e => by cases e)
      have HK1 := hid (HK.out.trans (KpE.below hb1 (HK.out.one H1.out).facts.2.2 (HK.out.step H3.out).facts.2.2 (HK.out.two H2.out).facts.2.2 (HK.out.tab HA.out).lt))
      obtain ⟨fn, tmps, assign, body, hy, hR⟩ := HYp.out w1 hJ1
      clear hb1
      gi_wp2_with fail
      refine hR.mono ?_
      rintro e W3 (⟨rfl, hJ3, hk3⟩ | ⟨rfl, hJx3⟩)
      · have HK3 := hid (HK1.out.trans hk3)
        have HJ3 := hid hJ3
        obtain ⟨d3, _, _⟩ := (HK3.out.step H3.out).facts
        clear hJ3 hk3 hy hR hJ1 c2 c3
        gi_wp2
        go_roundw
        case rel => exact ⟨k + 1, p + s, hk1, HP.out, by go_num, by omega, by rw [HE.out]; exact HJ3.out, HK3.out⟩
        case measure => simp [intOf]; omega
      · have HJx := hid hJx3
        clear hy hR hJ1
        gi_wp2
        refine bodyPost_ret (results_none rfl _ _ _) rfl ?_
        exact ⟨⟨_, rfl⟩, .inr ⟨_, ⟨k + 1, hk1, by rw [HE.out]⟩, HJx.out⟩⟩
    · have hk1 : k = cnE a b s := by
        by_cases e : k < cnE a b s
        · exact absurd (hiff.1 e) hlt
        · omega
      have HX := hid (show J (upE a s (cnE a b s)) wr by rw [← hk1]; exact hJs)
      clear hiff hJs hkp HY hk1 hk
      gi_wp2
      go_end0
      exact ⟨⟨_, rfl⟩, .inl HX.out⟩
set_option maxHeartbeats 1000000 in
theorem each1_neg (m : Nat) (hm : 1 ≤ m) (l g1 gs g2 : Nat) (a b s : Int) (ha : 0 ≤ a ∧ a ≤ 3652424) (hb : 0 ≤ b ∧ b ≤ 3652424) (hs : s < 0 ∧ -3652425 ≤ s) (J Jx : List Int → World → Prop) (W : World) (hJ : AbidesFrom W.heap.size J)
    (hY : ∀ pre x W1, J pre W1 → pre.length < cnE a b s → YieldAt Fence.wide (m - 1) Tryd.prog l #[dV (dY x) (dM x) (dD x)] W1 fun e W' => (e = .returned (.bool true) ∧ J (pre ++ [x]) W' ∧ KpE g1 gs g2 W1 W') ∨ (e = .returned (.bool false) ∧ Jx (pre ++ [x]) W'))
    (h0 : J [] W) (h1 : IBox W g1 a) (h2 : IBox W g2 b) (h3 : IBox W gs s) (hA : HasAh W) :
    CallsIn Fence.wide m Tryd.prog 38 #[.func (.yield l) #[] #[], .pointer (some ⟨g1, 0, none⟩), .pointer (some ⟨gs, 0, none⟩), .pointer (some ⟨g2, 0, none⟩)] W fun e W' => (∃ v, e = .returned v) ∧ ((∃ ys, ys = upE a s (cnE a b s) ∧ J ys W') ∨ (∃ pre, (∃ k, k ≤ cnE a b s ∧ pre = upE a s k) ∧ Jx pre W')) := by
  have HJ := hid hJ
  have HY := hid hY
  have H1 := hid h1
  have H2 := hid h2
  have H3 := hid h3
  have HA := hid hA
  obtain ⟨c1, _, _⟩ := h1.facts
  clear hJ hY h1 h2 h3 hA
  refine callsIn_of_wp Tryd.func38 rfl trivial ?_ rfl
  simp only [Tryd.ntmps38, List.size_toArray, List.length_cons, List.length_nil, Nat.reduceAdd, Nat.reduceSub, Array.replicate_succ, Array.replicate_zero, List.push_toArray, List.append_toArray, List.nil_append, List.cons_append]
  gi_wp2
  gi_loopw [5] (fun v wr => ∃ (k : Nat) (p : Int), k ≤ cnE a b s ∧ Hid (p = a + (k : Int) * s) ∧ v = .int .i64 p ∧ p ≤ 3652424 ∧ J (upE a s k) wr ∧ KpE g1 gs g2 W wr) (fun v _ => (intOf v + 1 - b).toNat)
  case atStart => exact ⟨0, a, Nat.zero_le _, hid (by omega), rfl, ha.2, h0, KpE.refl _ _ _ _⟩
  case round =>
    obtain ⟨k, p, hk, hp, rfl, hp0, hJs, hkp⟩ := hrel
    clear c1
    obtain ⟨c3, _, _⟩ := (hkp.step H3.out).facts
    obtain ⟨c2, _, _⟩ := (hkp.two H2.out).facts
    have HK := hid hkp
    have HJs := hid hJs
    have hiff := cn_neg (a := a) (b := b) hs.1 k
    rw [← hp.out] at hiff
    by_cases hlt : b ≤ p
    · have hk1 : k < cnE a b s := hiff.2 hlt
      have HYp := hid (fun W1 h => HY.out (upE a s k) p W1 h (by rw [upE_len]; exact hk1))
      have HD := hid (fun w h => dateOf_any p (by omega) hp0 w h)
      have HE := hid (upE_succ a s k)
      rw [← hp.out] at HE
      have hps : p + s = a + ((k + 1 : Nat) : Int) * s := by rw [hp.out, Int.natCast_add, Int.add_mul]; omega
      have HP := hid hps
      clear hps hiff hJs hkp HY
      generalize dY p = y at *
      generalize dM p = mo at *
      generalize dD p = d at *
      unfold dV at *
      gi_wp2_with fail
      refine ⟨trivial, ?_⟩
      refine (callsIn_wide.2 (HD.out _ (HK.out.tab HA.out))).mono ?_
      rintro e w1 ⟨rfl, hb1⟩
      have hJ1 := HJ.out _ _ _ none HJs.out (Below.grew hb1) (fun r e => by cases e)
      have HK1 := hid (HK.out.trans (KpE.below hb1 (HK.out.one H1.out).facts.2.2 (HK.out.step H3.out).facts.2.2 (HK.out.two H2.out).facts.2.2 (HK.out.tab HA.out).lt))
      obtain ⟨fn, tmps, assign, body, hy, hR⟩ := HYp.out w1 hJ1
      clear hb1
      gi_wp2_with fail
      refine hR.mono ?_
      rintro e W3 (⟨rfl, hJ3, hk3⟩ | ⟨rfl, hJx3⟩)
      · have HK3 := hid (HK1.out.trans hk3)
        have HJ3 := hid hJ3
        obtain ⟨d3, _, _⟩ := (HK3.out.step H3.out).facts
        clear hJ3 hk3 hy hR hJ1 c2 c3
        gi_wp2
        go_roundw
        case rel => exact ⟨k + 1, p + s, hk1, HP.out, by go_num, by omega, by rw [HE.out]; exact HJ3.out, HK3.out⟩
        case measure => simp [intOf]; omega
      · have HJx := hid hJx3
        clear hy hR hJ1
        gi_wp2
        refine bodyPost_ret (results_none rfl _ _ _) rfl ?_
        exact ⟨⟨_, rfl⟩, .inr ⟨_, ⟨k + 1, hk1, by rw [HE.out]⟩, HJx.out⟩⟩
    · have hk1 : k = cnE a b s := by
        by_cases e : k < cnE a b s
        · exact absurd (hiff.1 e) hlt
        · omega
      have HX := hid (show J (upE a s (cnE a b s)) wr by rw [← hk1]; exact hJs)
      clear hiff hJs hkp HY hk1 hk
      gi_wp2
      go_end0
      exact ⟨⟨_, rfl⟩, .inl HX.out⟩
set_option maxHeartbeats 1000000 in
theorem each1_zero (m : Nat) (l g1 gs g2 : Nat) (a : Int) (J : List Int → World → Prop) (W : World)
    (h0 : J [] W) (h1 : IBox W g1 a) (h3 : IBox W gs 0) :
    CallsIn Fence.wide m Tryd.prog 38 #[.func (.yield l) #[] #[], .pointer (some ⟨g1, 0, none⟩), .pointer (some ⟨gs, 0, none⟩), .pointer (some ⟨g2, 0, none⟩)] W fun e W' => (∃ v, e = .returned v) ∧ J [] W' := by
  obtain ⟨c1, _, _⟩ := h1.facts
  obtain ⟨c3, _, _⟩ := h3.facts
  have H0 := hid h0
  clear h1 h3 h0
  refine callsIn_of_wp Tryd.func38 rfl trivial ?_ rfl
  simp only [Tryd.ntmps38, List.size_toArray, List.length_cons, List.length_nil, Nat.reduceAdd, Nat.reduceSub, Array.replicate_succ, Array.replicate_zero, List.push_toArray, List.append_toArray, List.nil_append, List.cons_append]
  gi_wp2
  gi_loopw [5] (fun v wr => v = .int .i64 a ∧ wr = W) (fun _ _ => 0)
  case atStart => exact ⟨rfl, rfl⟩
  case round =>
    obtain ⟨rfl, rfl⟩ := hrel
    gi_wp2
    go_end0
    exact ⟨⟨_, rfl⟩, H0.out⟩

theorem each_stops (m : Nat) (hm : 1 ≤ m) (g1 gs g2 : Nat) (a b s : Int) (ha : 0 ≤ a ∧ a ≤ 3652424) (hb : 0 ≤ b ∧ b ≤ 3652424) (hs : -3652425 ≤ s ∧ s ≤ 3652425) (w : World) (h1 : IBox w g1 a) (h2 : IBox w g2 b) (h3 : IBox w gs s) (hA : HasAh w) :
    SeqStopsK Fence.wide m Tryd.prog 38 #[.pointer (some ⟨g1, 0, none⟩), .pointer (some ⟨gs, 0, none⟩), .pointer (some ⟨g2, 0, none⟩)] (fun x : Int => #[dV (dY x) (dM x) (dD x)]) (KpE g1 gs g2)
      (fun ys => ys = upE a s (cnE a b s)) (fun pre => ∃ k, k ≤ cnE a b s ∧ pre = upE a s k) (cnE a b s) w := fun l J Jx W hW hJ _ hY h0 => by
  have k1 := h1.later hW
  have k2 := h2.later hW
  have k3 := h3.later hW
  have kA := hA.below hW
  by_cases p : 0 < s
  · exact each1_pos m hm l g1 gs g2 a b s ha hb ⟨p, hs.2⟩ J Jx W hJ hY h0 k1 k2 k3 kA
  · by_cases q : s < 0
    · exact each1_neg m hm l g1 gs g2 a b s ha hb ⟨q, hs.1⟩ J Jx W hJ hY h0 k1 k2 k3 kA
    · obtain rfl : s = 0 := by omega
      refine (each1_zero m l g1 gs g2 a J W h0 k1 k3).mono ?_
      rintro e W' ⟨he, hj⟩
      refine ⟨he, .inl ⟨_, rfl, ?_⟩⟩
      rw [cn_zero]
      exact hj

theorem cn_le (a b s : Int) (ha : 0 ≤ a ∧ a ≤ 3652424) (hb : 0 ≤ b ∧ b ≤ 3652424) : cnE a b s ≤ 3652425 := by
  by_cases p : 0 < s
  · have h := (cn_pos (a := a) (b := b) p 3652425)
    have h2 : ((3652425 : Nat) : Int) * s ≥ 3652425 := by omega
    omega
  · by_cases q : s < 0
    · have h := (cn_neg (a := a) (b := b) q 3652425)
      have h2 : ((3652425 : Nat) : Int) * s ≤ -3652425 := by omega
      omega
    · obtain rfl : s = 0 := by omega
      rw [cn_zero]; omega
theorem dn_in (y m d : Int) : 0 ≤ dn y m d ∧ dn y m d ≤ 3652424 := by
  unfold dn
  split
  · rename_i h; have := nb_range y m d h; omega
  · omega
theorem stE_in (y m d y' m' d' s : Int) : -3652425 ≤ stE y m d y' m' d' s ∧ stE y m d y' m' d' s ≤ 3652425 := by
  unfold stE clS
  split <;> omega
end Go.Proofs.YtjmainmidacmfaaDoor
