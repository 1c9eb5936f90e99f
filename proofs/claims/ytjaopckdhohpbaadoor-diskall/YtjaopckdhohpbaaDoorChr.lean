/-
  Disk: what the iterator of Choices goes over: the torn ones; Choices itself.
-/
import Derived.Test.YtjaopckdhohpbaaDoorChq
import Derived.Test.YtjaopckdhohpbaaDoorDk9
namespace Go.Proofs.YtjaopckdhohpbaaDoor
open Go.RowKit Go.Shelf
set_option maxRecDepth 100000
set_option linter.unusedVariables false
set_option linter.unusedSimpArgs false
attribute [local go_sem] Oper.semAt_some

set_option maxHeartbeats 8000000 in
theorem torn_any (k B0 l : Nat) (hk : k ≤ 10) (J Jx : Nat → World → Prop) (z : Nat) (W : World) (hB : B0 ≤ W.heap.size) (hz : z ≤ W.heap.size)
    (hY : ∀ n v A W1, J n A → n < (chA k).length → Below A.heap.size A W1 → DcV k n A v W1 → z ≤ A.heap.size → YieldAt Fence.wide 3 Tryd.prog l #[v] W1 fun e W' =>
      (e = .returned (.bool true) ∧ J (n + 1) W' ∧ KpW B0 z 0 W1 W') ∨ (e = .returned (.bool false) ∧ Jx (n + 1) W' ∧ KpW B0 z 0 W1 W')) (h0 : J (2 ^ k) W) :
    CallsIn Fence.wide 4 Tryd.prog 31 #[.int .i64 (k : Int), .func (.yield l) #[] #[]] W fun e W' => (e = .returned (.bool true) ∧ J (chA k).length W' ∧ KpB B0 W W' ∧ W.heap.size ≤ W'.heap.size) ∨ (e = .returned (.bool false) ∧ ∃ n, Jx n W') := by
  have HY := hid hY
  have HP := hid places_any
  have h2 : 2 ^ k ≤ 1024 := by
    have : 2 ^ k ≤ 2 ^ 10 := Nat.pow_le_pow_right (by omega) hk
    omega
  have hsh := shl_one ⟨k, by omega⟩
  simp only [] at hsh
  have H0 := hid (show J (tN k 0 0) W by rw [tN_zero]; exact h0)
  obtain ⟨N, hN⟩ : ∃ N, N = 2 ^ k := ⟨_, rfl⟩
  have HN := hid hN
  have HSh : Hid (wrap64 ((2 : Int) ^ k) = (N : Int)) := hid (by rw [hsh, hN])
  rw [← hN] at h2
  have HT := hid (fun i s (hi : i < k) (hs : s < N) (hb : s / 2 ^ i % 2 = 0) => And.intro (at_torn k i s hi (by rw [← HN.out]; exact hs) hb) (tN_lt k i s hi (by rw [← HN.out]; exact hs) hb))
  have HRow := hid (fun i => show tN k i N = tN k (i + 1) 0 by rw [HN.out]; exact tN_row k i)
  have HEnd := hid (tN_end k)
  clear hY hN h0 hsh
  refine callsIn_of_wp Tryd.func31 rfl trivial ?_ rfl
  simp only [Tryd.ntmps31, List.size_toArray, List.length_cons, List.length_nil, Nat.reduceAdd, Nat.reduceSub, Array.replicate_succ, Array.replicate_zero, List.push_toArray, List.append_toArray, List.nil_append, List.cons_append]
  gi_wp2_with fail
  gi_loopw [8] (fun v wr => ∃ i : Nat, i ≤ k ∧ v = .int .i64 (i : Int) ∧ J (tN k i 0) wr ∧ KpB B0 W wr ∧ W.heap.size ≤ wr.heap.size) (fun v _ => k - (intOf v).toNat)
  case atStart => exact ⟨0, Nat.zero_le _, rfl, H0.out, KpB.refl _ _, Nat.le_refl _⟩
  case round =>
    obtain ⟨i, hi, rfl, hJs, hkp, hsz⟩ := hrel
    have HK := hid hkp
    have HJs := hid hJs
    have HZ := hid hsz
    clear hJs hkp hsz H0
    by_cases hlt : i < k
    · have hI : (i : Int) < (k : Int) := by omega
      have hdI : decide (i < k) = true := by simp; exact hlt
      have HL := hid hlt
      clear hlt
      gi_wp2_with fail
      rw [HSh.out]
      gi_loopw [13] (fun v wy => ∃ s : Nat, s ≤ N ∧ v = .int .i64 (s : Int) ∧ J (tN k i s) wy ∧ KpB B0 W wy ∧ W.heap.size ≤ wy.heap.size) (fun v _ => N - (intOf v).toNat)
      case atStart => exact ⟨0, Nat.zero_le _, rfl, HJs.out, HK.out, HZ.out⟩
      case round =>
        obtain ⟨s, hs, rfl, hJy, hky, hsy⟩ := hrel
        have HKy := hid hky
        have HJy := hid hJy
        have HZy := hid hsy
        clear hJy hky hsy
        by_cases hls : s < N
        · have hI2 : (s : Int) < (N : Int) := by omega
          have hdI2 : decide (s < N) = true := by simp; exact hls
          have HLs := hid hls
          have hq := shr_nat s i
          have hle : s / 2 ^ i ≤ s := Nat.div_le_self _ _
          obtain ⟨t, ht⟩ : ∃ t, t = s / 2 ^ i := ⟨_, rfl⟩
          have HTq := hid ht
          rw [← ht] at hq hle
          have hand := and_one ⟨t, by omega⟩
          simp only [] at hand
          clear ht hls
          by_cases hbit : t % 2 = 1
          · rw [hbit] at hand
            have HNx := hid (show J (tN k i (s + 1)) wr by rw [tN_no k i s (by rw [← HTq.out, hbit]; decide)]; exact HJy.out)
            clear hbit
            gi_wp2
            go_roundw
            case rel => exact ⟨s + 1, HLs.out, by go_num, HNx.out, HKy.out, HZy.out⟩
            case measure => have := HLs.out; simp [intOf]; omega
          · have hb0 : t % 2 = 0 := by omega
            rw [hb0] at hand
            have hbs : s / 2 ^ i % 2 = 0 := by rw [← HTq.out]; exact hb0
            obtain ⟨hat, htl⟩ := HT.out i s HL.out HLs.out hbs
            have HAt := hid hat
            have HTl := hid htl
            have HBt := hid (tN_bit k i s hbs)
            have HD := hid (HP.out s wr (by omega))
            clear hbit hb0 hbs hat htl
            gi_wp2_with fail
            refine ⟨trivial, (callsIn_wide.2 HD.out).mono ?_⟩
            rintro e w3 ⟨⟨v, rfl, ho⟩, hb3⟩
            obtain ⟨vo, vc, hv⟩ := ho.sl
            subst hv
            obtain ⟨fn, tmps, assign, body, hy, hR⟩ := yield_any (n := 3) (HY.out (tN k i s) (.agg #[.slice vo (pl s 10).length vc, .int .i64 (i : Int), .int .i64 64]) wr w3 HJy.out HTl.out hb3 ⟨_, _, HAt.out, rfl, ho⟩ (by have := HZy.out; omega))
            have HB3 := hid hb3
            clear hb3 ho
            gi_wp2_with fail
            refine hR.mono ?_
            rintro e W3 (⟨rfl, hJ3, hk3⟩ | ⟨rfl, hJx3, hk3⟩)
            · have HK3 := hid (show KpB B0 W W3 from fun i hi => (hk3.block i (.inl hi)).trans ((HB3.out.block i (by have := HZy.out; omega)).trans (HKy.out i hi)))
              have HZ3 := hid (show W.heap.size ≤ W3.heap.size by have := hk3.size; have := HB3.out.size; have := HZy.out; omega)
              have HJ3 := hid (show J (tN k i (s + 1)) W3 by rw [HBt.out]; exact hJ3)
              clear hJ3 hk3 hy hR
              gi_wp2
              go_roundw
              case rel => exact ⟨s + 1, HLs.out, by go_num, HJ3.out, HK3.out, HZ3.out⟩
              case measure => have := HLs.out; simp [intOf]; omega
            · have HJx := hid hJx3
              clear hy hR hJx3 hk3
              gi_wp2
              go_ret
              exact .inr ⟨rfl, _, HJx.out⟩
        · have hI2 : ¬ (s : Int) < (N : Int) := by omega
          have hdI2 : decide (s < N) = false := by simp; omega
          have HX2 := hid (show J (tN k (i + 1) 0) wr by
            have e : s = N := by omega
            rw [← HRow.out i, ← e]
            exact HJy.out)
          clear hls
          gi_wp2
          go_roundw
          case rel => exact ⟨i + 1, HL.out, by go_num, HX2.out, HKy.out, HZy.out⟩
          case measure => have := HL.out; simp [intOf]; omega
    · have hI : ¬ (i : Int) < (k : Int) := by omega
      have hdI : decide (i < k) = false := by simp; omega
      have HX2 := hid (show J (chA k).length wr by
        have e : i = k := by omega
        rw [← HEnd.out, ← e]
        exact e ▸ HJs.out)
      clear hlt
      gi_wp2
      go_ret
      exact .inl ⟨rfl, HX2.out, HK.out, HZ.out⟩
end Go.Proofs.YtjaopckdhohpbaaDoor
