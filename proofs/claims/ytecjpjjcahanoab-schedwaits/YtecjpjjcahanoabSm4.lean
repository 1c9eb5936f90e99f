/-
  Mixed: its closure and what it goes over.
-/
import Derived.Test.YtecjpjjcahanoabSm2
namespace Go.Proofs.Ytecjpjjcahanoab
open Go.RowKit Go.Shelf
set_option maxRecDepth 100000
attribute [local go_sem] Oper.semAt_some
attribute [local go_sem ↓] mki_op

/-- the state ahead of block q, and block q -/
def mxS (s : Int) (n len : Nat) : Nat → Int
  | 0 => s
  | q + 1 => (fB (mxS s n len q) n len (len - 1)).1
def mxB (s : Int) (n len q : Nat) : List Int := (fB (mxS s n len q) n len (len - 1)).2
theorem mxB_len (s : Int) (n len q : Nat) : (mxB s n len q).length = len := fB_len _ _ _ _
/-- pick i, the first k picks -/
def mxP (s : Int) (n len i : Nat) : Int := (mxB s n len (i / len)).getD (i % len) 0
def mxL (s : Int) (n len k : Nat) : List Int := (List.range k).map (mxP s n len)
theorem mxL_succ (s : Int) (n len k : Nat) : mxL s n len (k + 1) = mxL s n len k ++ [mxP s n len k] := by unfold mxL; rw [List.range_succ, List.map_append]; rfl
theorem mxL_len (s : Int) (n len k : Nat) : (mxL s n len k).length = k := by unfold mxL; simp
theorem mxL_take (s : Int) (n len k m : Nat) (h : k ≤ m) : (mxL s n len m).take k = mxL s n len k := by
  unfold mxL
  rw [← List.map_take, List.take_range, Nat.min_eq_left h]

set_option maxHeartbeats 1000000 in
theorem mixed1 (l gs gk gn B0 n len kk : Nat) (s : Int) (w0 : World) (hgs : gs < B0) (hgk : gk < B0) (hgn : gn < B0) (hn : 1 ≤ n) (hn2 : n ≤ 16) (hnl : n ≤ len) (hl2 : len ≤ 1000) (hk : (kk + 1) / 2 = len)
    (J Jx : List Int → World → Prop) (W : World) (hW : Below B0 w0 W) (hB0 : B0 ≤ W.heap.size) (hJ : ∀ pre A A', J pre A → Chg W.heap.size 2 A A' → J pre A') (hJx : ∀ pre A A', Jx pre A → Chg W.heap.size 2 A A' → Jx pre A')
    (hY : ∀ pre x W1, J pre W1 → pre ++ [x] = (mxL s n len 65536).take (pre.length + 1) → pre.length < (mxL s n len 65536).length → W.heap.size + 2 ≤ W1.heap.size → YieldAt Fence.wide 3 Try.prog l #[.int .i64 x] W1 fun e W' =>
      (e = .returned (.bool true) ∧ J (pre ++ [x]) W' ∧ KpW B0 W.heap.size 2 W1 W') ∨ (e = .returned (.bool false) ∧ Jx (pre ++ [x]) W' ∧ KpW B0 W.heap.size 2 W1 W'))
    (h0 : J [] W) (h1 : UBox 41 w0 gs s) (h2 : IBox w0 gk (kk : Int)) (h3 : IBox w0 gn (n : Int)) :
    CallsIn Fence.wide 4 Try.prog 50 #[.func (.yield l) #[] #[], .pointer (some ⟨gs, 0, none⟩), .pointer (some ⟨gk, 0, none⟩), .pointer (some ⟨gn, 0, none⟩)] W fun e W' => (∃ v, e = .returned v) ∧ (J (mxL s n len 65536) W' ∨ ∃ pre, Jx pre W') := by
  have HJ := hid hJ
  have HJx := hid hJx
  have HY := hid hY
  have X1 := hid (show UBox 41 W gs s from (hW.block gs hgs).trans h1)
  have X2 := hid (show IBox W gk (kk : Int) from (hW.block gk hgk).trans h2)
  have X3 := hid (show IBox W gn (n : Int) from (hW.block gn hgn).trans h3)
  obtain ⟨c1, _, l1⟩ := X1.out.facts
  obtain ⟨c2, _, l2⟩ := X2.out.facts
  have hm := run_mkI len (by omega)
  have hdiv : ((kk : Int) + 1) / 2 = (len : Int) := by omega
  have hkk : kk ≤ 2000 := by omega
  obtain ⟨B, hB⟩ : ∃ B, W.heap.size = B := ⟨_, rfl⟩
  have HBB := hid hB
  clear hJ hJx hY h1 h2 h3 hB
  refine callsIn_of_wp Try.func50 rfl trivial ?_ rfl
  simp only [Try.ntmps50, List.size_toArray, List.length_cons, List.length_nil, Nat.reduceAdd, Nat.reduceSub, Array.replicate_succ, Array.replicate_zero, List.push_toArray, List.append_toArray, List.nil_append, List.cons_append]
  obtain ⟨V, hV⟩ : ∃ V, (W.alloc (.cells #[.int .u64 s] 94)).alloc (.cells (ic (List.replicate len 0)).toArray 3) = V := ⟨_, rfl⟩
  have zV : V.heap.size = W.heap.size + 2 := by rw [← hV]; simp
  have V0 := hid (show UBox 94 V W.heap.size s by
    rw [← hV]
    exact UBox.later (show UBox 94 (W.alloc (.cells #[.int .u64 s] 94)) W.heap.size s from heap_alloc_new W _) (alloc_below _ _))
  have V1 := hid (show Row V (W.heap.size + 1) (List.replicate len 0) by
    rw [← hV]
    have h := heap_alloc_new (W.alloc (.cells #[.int .u64 s] 94)) (.cells (ic (List.replicate len 0)).toArray 3)
    rw [World.size_alloc] at h
    exact h)
  have V2 := hid (show Chg W.heap.size 2 W V by rw [← hV]; exact (Chg.alloc _ _ _ _).trans (Chg.alloc _ _ _ _))
  have HKB := hid hB0
  gi_wp2
  clear c1 c2 l1 l2 hm hdiv hkk
  gi_loopw [15] (fun v wr => ∃ i q r : Nat, i ≤ 65536 ∧ i = q * len + r ∧ r < len ∧ v = .int .i64 (i : Int) ∧ J (mxL s n len i) wr ∧ W.heap.size + 2 ≤ wr.heap.size ∧ KpB B0 W wr ∧ ((r = 0 ∧ UBox 94 wr W.heap.size (mxS s n len q) ∧ ∃ old : List Int, old.length = len ∧ Row wr (W.heap.size + 1) old) ∨ (0 < r ∧ UBox 94 wr W.heap.size (mxS s n len (q + 1)) ∧ Row wr (W.heap.size + 1) (mxB s n len q)))) (fun v _ => 65536 - (intOf v).toNat)
  case atStart => exact ⟨0, 0, 0, Nat.zero_le _, by omega, by omega, rfl, HJ.out _ _ _ h0 V2.out, by omega, fun k hk => V2.out.block k (by omega) (by omega), .inl ⟨rfl, V0.out, _, by simp, V1.out⟩⟩
  case round =>
    obtain ⟨i, q, r, hi, hiq, hr, rfl, hj, hz, hkp, hst⟩ := hrel
    have HJi := hid hj
    have HZi := hid hz
    have HKi := hid hkp
    have HI := hid hiq
    clear hj hz hkp V0 V1 V2 hV
    by_cases hlt : i < 65536
    · have hIi : (i : Int) < 65536 := by omega
      have HL := hid hlt
      have hl1 : (len : Int) ≠ 0 := by omega
      have hdv : i / len = q := by rw [hiq, Nat.mul_comm, Nat.mul_add_div (by omega), Nat.div_eq_of_lt hr]; rfl
      have hmd : i % len = r := by rw [hiq, Nat.mul_comm, Nat.mul_add_mod, Nat.mod_eq_of_lt hr]
      obtain ⟨x, hx⟩ : ∃ x, mxP s n len i = x := ⟨_, rfl⟩
      have hxr : (mxB s n len q).getD r 0 = x := by rw [← hx, mxP, hdv, hmd]
      have HX := hid hx
      have hmI : (i : Int) % (len : Int) = (r : Int) := by rw [← hmd]; rfl
      have cr : ∀ (w5 : World), Row w5 (W.heap.size + 1) (mxB s n len q) → w5.cell? ⟨W.heap.size + 1, r, none⟩ = some (.int .i64 x) := fun w5 h5 => by
        rw [h5.cell r (by rw [mxB_len]; exact hr), ← hxr, List.getD_eq_getElem?_getD, List.getElem?_eq_getElem (by rw [mxB_len]; exact hr)]; rfl
      have HCr := hid cr
      have hi9 : (i : Int) ≤ 65536 := by omega
      clear hi hlt hiq hdv hmd hx hxr cr
      rcases hst with ⟨hr0, hu, old, hol, hro⟩ | ⟨hr0, hu, hro⟩
      · have c3 := ((KpB.box HKi.out hgn X3.out).facts).1
        have HF := hid (fill_any W.heap.size (mxS s n len q) n len old wr hu hro hol hn hn2 hnl hl2)
        have hrb : ((r : Int) == 0) = true := by simp [hr0]
        have HR0 := hid hr0
        clear hr0 hu hro hol
        gi_wp2_with fail
        refine ⟨trivial, ?_⟩
        refine (callsIn_wide.2 HF.out).mono ?_
        rintro e w5 ⟨⟨v5, rfl⟩, hu5, hr5, hc5⟩
        have HU5 := hid (show UBox 94 w5 W.heap.size (mxS s n len (q + 1)) from hu5)
        have HR5 := hid (show Row w5 (W.heap.size + 1) (mxB s n len q) from hr5)
        have HJ5 := hid (HJ.out _ _ _ HJi.out hc5)
        have HZ5 := hid (Nat.le_trans HZi.out hc5.size)
        have HK5 := hid (show KpB B0 W w5 from HKi.out.trans fun k hk => hc5.block k (by have := HZi.out; have := HKB.out; omega) (by have := HKB.out; omega))
        have c5 := HCr.out w5 HR5.out
        clear hu5 hr5 hc5 HF c3
        obtain ⟨fn, tmps, assign, body, hy, hR⟩ := HY.out (mxL s n len i) x _ HJ5.out (by rw [mxL_len, mxL_take s n len (i + 1) 65536 HL.out, mxL_succ, HX.out]) (by rw [mxL_len, mxL_len]; exact HL.out) HZ5.out
        gi_wp2_with fail
        refine hR.mono ?_
        rintro e W3 (⟨rfl, hJ3, hk3⟩ | ⟨rfl, hJx3, _⟩)
        · have HJ3 := hid hJ3
          have HK3 := hid (show KpB B0 W W3 from HK5.out.trans fun k hk => hk3.block k (.inl hk))
          have HU3 := hid (show UBox 94 W3 W.heap.size (mxS s n len (q + 1)) from (hk3.block _ (.inr ⟨Nat.le_refl _, by omega⟩)).trans HU5.out)
          have HR3 := hid (show Row W3 (W.heap.size + 1) (mxB s n len q) from (hk3.block _ (.inr ⟨by omega, by omega⟩)).trans HR5.out)
          have HZ3 := hid (show W.heap.size + 2 ≤ W3.heap.size from Nat.le_trans HZ5.out hk3.size)
          clear hJ3 hk3 hy hR
          gi_wp2
          go_roundw
          case rel =>
            refine ⟨i + 1, if r + 1 < len then q else q + 1, if r + 1 < len then r + 1 else 0, HL.out, ?_, ?_, by go_num, by rw [mxL_succ, HX.out]; exact HJ3.out, HZ3.out, HK3.out, ?_⟩
            · have := HI.out; split
              · omega
              · rw [Nat.add_mul]; omega
            · split <;> omega
            · by_cases hrr : r + 1 < len
              · rw [if_pos hrr, if_pos hrr]
                exact .inr ⟨by omega, HU3.out, HR3.out⟩
              · rw [if_neg hrr, if_neg hrr]
                exact .inl ⟨rfl, HU3.out, _, mxB_len _ _ _ _, HR3.out⟩
          case measure => have := HL.out; simp [intOf]; omega
        · have HJx3 := hid hJx3
          clear hy hR
          gi_wp2
          refine bodyPost_ret (results_none rfl _ _ _) rfl ?_
          exact ⟨⟨_, rfl⟩, .inr ⟨_, HJx3.out⟩⟩
      · have HU5 := hid hu
        have HR5 := hid hro
        have HJ5 := HJi
        have HZ5 := HZi
        have HK5 := HKi
        have c5 := HCr.out wr hro
        have hrb : ((r : Int) == 0) = false := by simp; omega
        have HR0 := hid hr0
        clear hr0 hu hro
        obtain ⟨fn, tmps, assign, body, hy, hR⟩ := HY.out (mxL s n len i) x _ HJ5.out (by rw [mxL_len, mxL_take s n len (i + 1) 65536 HL.out, mxL_succ, HX.out]) (by rw [mxL_len, mxL_len]; exact HL.out) HZ5.out
        gi_wp2_with fail
        refine hR.mono ?_
        rintro e W3 (⟨rfl, hJ3, hk3⟩ | ⟨rfl, hJx3, _⟩)
        · have HJ3 := hid hJ3
          have HK3 := hid (show KpB B0 W W3 from HK5.out.trans fun k hk => hk3.block k (.inl hk))
          have HU3 := hid (show UBox 94 W3 W.heap.size (mxS s n len (q + 1)) from (hk3.block _ (.inr ⟨Nat.le_refl _, by omega⟩)).trans HU5.out)
          have HR3 := hid (show Row W3 (W.heap.size + 1) (mxB s n len q) from (hk3.block _ (.inr ⟨by omega, by omega⟩)).trans HR5.out)
          have HZ3 := hid (show W.heap.size + 2 ≤ W3.heap.size from Nat.le_trans HZ5.out hk3.size)
          clear hJ3 hk3 hy hR
          gi_wp2
          go_roundw
          case rel =>
            refine ⟨i + 1, if r + 1 < len then q else q + 1, if r + 1 < len then r + 1 else 0, HL.out, ?_, ?_, by go_num, by rw [mxL_succ, HX.out]; exact HJ3.out, HZ3.out, HK3.out, ?_⟩
            · have := HI.out; split
              · omega
              · rw [Nat.add_mul]; omega
            · split <;> omega
            · by_cases hrr : r + 1 < len
              · rw [if_pos hrr, if_pos hrr]
                exact .inr ⟨by omega, HU3.out, HR3.out⟩
              · rw [if_neg hrr, if_neg hrr]
                exact .inl ⟨rfl, HU3.out, _, mxB_len _ _ _ _, HR3.out⟩
          case measure => have := HL.out; simp [intOf]; omega
        · have HJx3 := hid hJx3
          clear hy hR
          gi_wp2
          refine bodyPost_ret (results_none rfl _ _ _) rfl ?_
          exact ⟨⟨_, rfl⟩, .inr ⟨_, HJx3.out⟩⟩
    · have hIi : ¬ (i : Int) < 65536 := by omega
      have hie : i = 65536 := by omega
      have HX := hid (show J (mxL s n len 65536) wr by rw [← hie]; exact HJi.out)
      clear hlt hie hi hiq HI HJi hst hr
      gi_wp2
      go_end0
      exact ⟨⟨_, rfl⟩, .inl HX.out⟩
end Go.Proofs.Ytecjpjjcahanoab
