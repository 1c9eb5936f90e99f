/-
  Mn6: A mix: its counts; steps with noughts behind them (pure).
  Rk2: The document's choose, Steps, Count, of any steps.
  Rk3: The document's Count, of any steps.
  Rk4: The document's less, Nth.
  Mn7: Rank of a mix.
  Mn8: Rank of a mix: the walk.
  Rk5: Every list of picks is a mix (pure); the document's StepsOf, Rank.
  Gw1: Few: the mixes with few switches, as it searches them (pure).
-/
import Derived.Test.YtaiccmbhdgecgaaMn5
import Derived.Test.YtaiccmbhdgecgaaLq5
import Derived.Test.YtaiccmbhdgecgaaSw1
import Derived.Test.YtaiccmbhdgecgaaLe6
namespace Go.Proofs.Ytaiccmbhdgecgaa
set_option maxRecDepth 100000

theorem mx_count {N : List Nat} {n : Nat} {L : List Nat} (h : Mx N n L) : ∀ i, L.count i = N.getD i 0 := by
  refine Mx.on (P := fun N n L => ∀ i, L.count i = N.getD i 0) ?_ ?_ L N n h
  · intro N h i
    rw [List.count_nil]
    by_cases hi : i < N.length
    · have := getD_le N i hi
      omega
    · rw [List.getD_eq_getElem?_getD, List.getElem?_eq_none (by omega)]
      rfl
  · intro N n h L hh h1 hn ht h2 ih i
    rw [List.count_cons, ih i, less_at N h i hh]
    by_cases e : i = h
    · subst e
      rw [if_pos rfl, if_pos (by simp)]
      omega
    · rw [if_neg e, if_neg (by simpa using fun e2 => e e2.symm)]
      omega
theorem mx_in {N : List Nat} {n : Nat} {L : List Nat} (h : Mx N n L) : ∀ x ∈ L, x < N.length := by
  refine Mx.on (P := fun N n L => ∀ x ∈ L, x < N.length) ?_ ?_ L N n h
  · intro N h x hx; cases hx
  · intro N n h L hh h1 hn ht h2 ih x hx
    rcases List.mem_cons.1 hx with rfl | hx
    · exact hh
    · have := ih x hx
      rw [less_len] at this
      exact this
theorem mx_len {N : List Nat} {n : Nat} {L : List Nat} (h : Mx N n L) (hs : tN2 N ≤ 24) : L.length = tN2 N := by
  revert hs
  refine Mx.on (P := fun N n L => tN2 N ≤ 24 → L.length = tN2 N) ?_ ?_ L N n h
  · intro N h _; rw [h]; rfl
  · intro N n h L hh h1 hn ht h2 ih hs
    have := (mN_less N h hh h1 hs).2
    rw [List.length_cons, ih (by omega)]
    exact this
theorem sN_eq {N N' : List Nat} (h : ∀ i, N'.getD i 0 = N.getD i 0) : ∀ j, sN N' j = sN N j
  | 0 => rfl
  | j + 1 => by show sN N' j + _ = sN N j + _; rw [sN_eq h j, h j]
theorem cN_eq {N N' : List Nat} (h : ∀ i, N'.getD i 0 = N.getD i 0) : ∀ j, cN N' j = cN N j
  | 0 => rfl
  | j + 1 => by
    show cN N' j * chs (sN N' (j + 1)) (N'.getD j 0) (N'.getD j 0) = cN N j * chs (sN N (j + 1)) (N.getD j 0) (N.getD j 0)
    rw [cN_eq h j, sN_eq h, h j]
theorem cOk_eq {N N' : List Nat} (h : ∀ i, N'.getD i 0 = N.getD i 0) : ∀ j, cOk N' j = cOk N j
  | 0 => rfl
  | j + 1 => by
    show (cOk N' j && decide (cN N' (j + 1) ≤ _)) = (cOk N j && decide (cN N (j + 1) ≤ _))
    rw [cOk_eq h j, cN_eq h]
theorem getD_out (N : List Nat) (i : Nat) (h : N.length ≤ i) : N.getD i 0 = 0 := by rw [List.getD_eq_getElem?_getD, List.getElem?_eq_none h]; rfl
theorem sN_past (N : List Nat) : ∀ d, sN N (N.length + d) = sN N N.length
  | 0 => rfl
  | d + 1 => by show sN N (N.length + d) + N.getD (N.length + d) 0 = _; rw [getD_out N _ (by omega), sN_past N d]; rfl
theorem cN_past (N : List Nat) : ∀ d, cN N (N.length + d) = cN N N.length
  | 0 => rfl
  | d + 1 => by
    show cN N (N.length + d) * chs _ (N.getD (N.length + d) 0) (N.getD (N.length + d) 0) = _
    rw [getD_out N _ (by omega), cN_past N d]
    exact Nat.mul_one _
theorem cOk_past (N : List Nat) (h0 : cOk N N.length = true) (hm : mN N ≤ 4611686018427387904) : ∀ d, cOk N (N.length + d) = true
  | 0 => h0
  | d + 1 => by
    show (cOk N (N.length + d) && decide (cN N (N.length + (d + 1)) ≤ _)) = true
    rw [cOk_past N h0 hm d, cN_past N (d + 1), Bool.true_and]
    exact decide_eq_true hm
/-- noughts behind them change nothing -/
structure Pad (N N' : List Nat) : Prop where
  le : N.length ≤ N'.length
  eq : ∀ i, N'.getD i 0 = N.getD i 0
theorem Pad.t {N N' : List Nat} (h : Pad N N') : tN2 N' = tN2 N := by
  unfold tN2
  obtain ⟨d, hd⟩ : ∃ d, N'.length = N.length + d := ⟨N'.length - N.length, by have := h.le; omega⟩
  rw [sN_eq h.eq, hd, sN_past]
theorem Pad.m {N N' : List Nat} (h : Pad N N') : mN N' = mN N := by
  unfold mN
  obtain ⟨d, hd⟩ : ∃ d, N'.length = N.length + d := ⟨N'.length - N.length, by have := h.le; omega⟩
  rw [cN_eq h.eq, hd, cN_past]
theorem Pad.sums {N N' : List Nat} (h : Pad N N') : ∀ j, bS N' j = bS N j
  | 0 => rfl
  | j + 1 => by
    show bS N' j + bg N' j = bS N j + bg N j
    rw [h.sums j]
    unfold bg
    rw [h.m, h.t, h.eq]
theorem Pad.lessP {N N' : List Nat} (h : Pad N N') (i : Nat) (hi : i < N.length) : Pad (less N i) (less N' i) := ⟨by rw [less_len, less_len]; exact h.le, fun j => by rw [less_at N' i j (by have := h.le; omega), less_at N i j hi, h.eq, h.eq]⟩
theorem mx_pad {N : List Nat} {n : Nat} {L : List Nat} (h : Mx N n L) : ∀ N', Pad N N' → Mx N' n L := by
  refine Mx.on (P := fun N n L => ∀ N', Pad N N' → Mx N' n L) ?_ ?_ L N n h
  · exact fun N h N' p => .nil N' (by rw [p.t]; exact h)
  · intro N n h L hh h1 hn ht h2 ih
    exact fun N' p => .cons N' n h L (by have := p.le; omega) (by rw [p.eq]; exact h1) (by rw [p.sums]; exact hn) (by rw [p.sums]; exact ih _ (p.lessP h hh)) (by rw [p.sums]; exact h2)
theorem Pad.cnt {N N' : List Nat} (h : Pad N N') (hl : N'.length ≤ 16) (h0 : 1 ≤ N.length) (hs : tN2 N ≤ 24) (hc : cOk N N.length = true) (hm : mN N ≤ 4611686018427387904) : cntA (iN N') = ((mN N : Int), 0) := by
  have key : ∀ (T : List Nat) (room : Nat), tN2 T ≤ room → chk (iN T) (room : Int) = true := by
    intro T
    induction T with
    | nil => intro room _; rfl
    | cons x t ih =>
      intro room hr
      have sc : ∀ j, sN (x :: t) (j + 1) = x + sN t j := by
        intro j
        induction j with
        | zero => simp [sN]
        | succ j ihj =>
          show sN (x :: t) (j + 1) + (x :: t).getD (j + 1) 0 = x + (sN t j + t.getD j 0)
          rw [ihj]
          simp
          omega
      have hr2 : x + tN2 t ≤ room := by
        have : tN2 (x :: t) = x + tN2 t := sc t.length
        omega
      show (if (x : Int) < 0 ∨ (room : Int) < (x : Int) then false else chk (iN t) ((room : Int) - (x : Int))) = true
      rw [if_neg (by omega), show (room : Int) - (x : Int) = ((room - x : Nat) : Int) by omega]
      exact ih (room - x) (by omega)
  have h1 : stOk (iN N') = true := by
    unfold stOk
    rw [show chk (iN N') 24 = true from key N' 24 (by rw [h.t]; exact hs), Bool.and_true]
    exact (okN_iff _).2 (by rw [iN_len]; have := h.le; omega)
  obtain ⟨d, hd⟩ : ∃ d, N'.length = N.length + d := ⟨N'.length - N.length, by have := h.le; omega⟩
  unfold cntA
  rw [if_pos h1, iN_nats, if_pos (by rw [cOk_eq h.eq, hd]; exact cOk_past N hc hm d), h.m]
end Go.Proofs.Ytaiccmbhdgecgaa

namespace Go.Proofs.Ytaiccmbhdgecgaa
open Go.RowKit
set_option maxRecDepth 100000

/-- choose, as it is reckoned -/
def chd (n : Nat) : Nat → Nat
  | 0 => 1
  | i + 1 => chd n i * (n - i) / (i + 1)
theorem chd_tab : ∀ p : Fin 25, ∀ n : Fin 25, n.1 ≤ p.1 → chd p.1 n.1 * (fac n.1 * fac (p.1 - n.1)) = fac p.1 ∧ chd p.1 n.1 ≤ 2704156 ∧ 0 < chd p.1 n.1 := by decide +kernel
theorem chd_le (p n : Nat) (hp : p ≤ 24) (hn : n ≤ p) : chd p n ≤ 2704156 ∧ 0 < chd p n := (chd_tab ⟨p, by omega⟩ ⟨n, by omega⟩ hn).2
theorem chd_fac (p n : Nat) (hp : p ≤ 24) (hn : n ≤ p) : chd p n * (fac n * fac (p - n)) = fac p := (chd_tab ⟨p, by omega⟩ ⟨n, by omega⟩ hn).1
set_option maxHeartbeats 400000 in
theorem choose_any (p n : Nat) (w : World) (hp : p ≤ 24) (hn : n ≤ p) :
    Calls Try.prog 64 #[.int .i64 (p : Int), .int .i64 (n : Int)] w fun e w' => e = .returned (.int .i64 (chd p n : Int)) ∧ w' = w := by
  go_enter Try.func64, Try.ntmps64
  go_wp2_with fail
  go_loopw [5, 6] (fun vc vi wx => ∃ i : Nat, i ≤ n ∧ vi = .int .i64 (i : Int) ∧ vc = .int .i64 (chd p i : Int) ∧ wx = w) (fun _ vi _ => n - (intOf vi).toNat)
  case atStart => exact ⟨0, Nat.zero_le _, rfl, rfl, rfl⟩
  case round =>
    obtain ⟨i, hi, rfl, rfl, rfl⟩ := hrel
    have hc := (chd_le p i hp (by omega)).1
    by_cases h : i < n
    · have hI : (i : Int) < (n : Int) := by omega
      have HV := hid (show chd p (i + 1) = chd p i * (p - i) / (i + 1) from rfl)
      generalize chd p i = c at *
      have hm : c * (p - i) ≤ 2704156 * 24 := Nat.mul_le_mul hc (by omega)
      have hz : ((i : Int) + 1) ≠ 0 := by omega
      have e1 : (c : Int) * ((p : Int) - (i : Int)) = ((c * (p - i) : Nat) : Int) := by push_cast; rw [show ((p - i : Nat) : Int) = (p : Int) - (i : Int) by omega]
      have e2 : (((c * (p - i) : Nat) : Int)).tdiv ((i : Int) + 1) = ((c * (p - i) / (i + 1) : Nat) : Int) := by
        rw [show ((i : Int) + 1) = ((i + 1 : Nat) : Int) by omega]
        rfl
      have hq : c * (p - i) / (i + 1) ≤ 64899744 := Nat.le_trans (Nat.div_le_self _ _) hm
      go_wp2
      go_roundw
      case rel =>
        refine ⟨i + 1, by omega, by go_num, ?_, by first | rfl | trivial⟩
        rw [HV.out]
        try rw [show ((p - i : Nat) : Int) = (p : Int) - (i : Int) by omega]
        rw [e1]
        generalize c * (p - i) = z at *
        push_cast
        rfl
      case measure => simp [intOf]; omega
    · have hI : ¬ (i : Int) < (n : Int) := by omega
      obtain rfl : i = n := by omega
      go_wp2
      go_ret
      exact ⟨rfl, rfl⟩
/-- the first j ints together -/
def sI (R : List Int) : Nat → Int
  | 0 => 0
  | j + 1 => sI R j + R.getD j 0
theorem sI_iN (N : List Nat) : ∀ j, sI (iN N) j = (sN N j : Int)
  | 0 => rfl
  | j + 1 => by
    show sI (iN N) j + (iN N).getD j 0 = ((sN N j + N.getD j 0 : Nat) : Int)
    rw [sI_iN N j]
    have : (iN N).getD j 0 = ((N.getD j 0 : Nat) : Int) := by
      unfold iN
      rw [List.getD_eq_getElem?_getD, List.getD_eq_getElem?_getD, List.getElem?_map]
      cases N[j]? <;> rfl
    rw [this]
    omega
theorem chk_of : ∀ (T : List Nat) (room : Nat), tN2 T ≤ room → chk (iN T) (room : Int) = true := by
  intro T
  induction T with
  | nil => intro room _; rfl
  | cons x t ih =>
    intro room hr
    have sc : ∀ j, sN (x :: t) (j + 1) = x + sN t j := by
      intro j
      induction j with
      | zero => simp [sN]
      | succ j ihj =>
        show sN (x :: t) (j + 1) + (x :: t).getD (j + 1) 0 = x + (sN t j + t.getD j 0)
        rw [ihj]
        simp
        omega
    have hr2 : x + tN2 t ≤ room := by
      have : tN2 (x :: t) = x + tN2 t := sc t.length
      omega
    show (if (x : Int) < 0 ∨ (room : Int) < (x : Int) then false else chk (iN t) ((room : Int) - (x : Int))) = true
    rw [if_neg (by omega), show (room : Int) - (x : Int) = ((room - x : Nat) : Int) by omega]
    exact ih (room - x) (by omega)
theorem stOk_of {R : List Int} (h : stOk R = true) : okN (R.length : Int) = true ∧ ∃ N, R = iN N ∧ tN2 N ≤ 24 ∧ nats R = N := by
  have h3 : okN (R.length : Int) = true ∧ chk R 24 = true := by
    unfold stOk at h
    simpa using h
  obtain ⟨hR, hT⟩ := chk_nat R 24 h3.2
  exact ⟨h3.1, _, hR, hT, rfl⟩
theorem stOk_mk {N : List Nat} (h : okN (N.length : Int) = true) (h2 : tN2 N ≤ 24) : stOk (iN N) = true := by
  unfold stOk
  rw [iN_len, h, show chk (iN N) 24 = true from chk_of N 24 h2]
  rfl
/-- what Steps answers -/
def StA (R : List Int) (e : Ending) : Prop := ∃ s, e = .returned (.tuple #[.int .i64 s, .bool (stOk R)]) ∧ (stOk R = true → s = (tN2 (nats R) : Int))
set_option maxHeartbeats 1000000 in
theorem steps7_any (v : Value) (R : List Int) (w : World) (hr : RI w v R) (hl : R.length ≤ 9223372036854775807) :
    Calls Try.prog 51 #[v] w fun e w' => StA R e ∧ w' = w := by
  obtain ⟨ao, cap, rfl, hc, hn0, hcell⟩ := hr
  have HC := hid hcell
  clear hcell hn0
  by_cases hk : 1 ≤ R.length ∧ R.length ≤ 16
  · obtain ⟨k1, k2⟩ := hk
    have k1I : ¬ (R.length : Int) < 1 := by omega
    have k2I : ¬ (16 : Int) < (R.length : Int) := by omega
    go_enter Try.func51, Try.ntmps51
    go_wp2_with fail
    go_loopw [4, 5] (fun vs vi wx => ∃ (j : Nat) (N : List Nat), j ≤ R.length ∧ vi = .int .i64 (j : Int) ∧ vs = .int .i64 (tN2 N : Int) ∧ N.length = j ∧ R.take j = iN N ∧ tN2 N ≤ 24 * j ∧ wx = w) (fun _ vi _ => R.length - (intOf vi).toNat)
    case atStart => exact ⟨0, [], Nat.zero_le _, rfl, rfl, rfl, rfl, Nat.le_refl _, rfl⟩
    case round =>
      obtain ⟨j, N, hj, rfl, rfl, hNl, hT, hB, rfl⟩ := hrel
      have HT := hid hT
      have HNl := hid hNl
      clear hT hNl
      by_cases h : j < R.length
      · have hI : (j : Int) < (R.length : Int) := by omega
        obtain ⟨g, off, hao, c0⟩ := HC.out j h
        subst hao
        have HNo := hid (show (R[j] < 0 ∨ 24 < R[j]) → stOk R = false from fun hx => Bool.eq_false_iff.2 fun hy => by
          obtain ⟨_, M, hM, hM2, _⟩ := stOk_of hy
          have e1 : R[j] = ((M.getD j 0 : Nat) : Int) := by
            have h9 : j < M.length := by rw [hM, iN_len] at h; exact h
            rw [gN M j h9, ← iN_at M j (by rw [iN_len]; exact h9) h9]
            simp only [hM]
          have e2 := getD_le M j (by rw [hM, iN_len] at h; exact h)
          omega)
        have HS := hid (show ∀ x : Nat, R[j] = (x : Int) → R.take (j + 1) = iN (N ++ [x]) ∧ tN2 (N ++ [x]) = tN2 N + x from fun x hx => by
          refine ⟨?_, ?_⟩
          · rw [List.take_add_one, List.getElem?_eq_getElem h, HT.out, hx]
            simp [iN]
          · unfold tN2
            rw [List.length_append, List.length_singleton]
            show sN (N ++ [x]) N.length + (N ++ [x]).getD N.length 0 = sN N N.length + x
            have e3 : ∀ i, i ≤ N.length → sN (N ++ [x]) i = sN N i := by
              intro i
              induction i with
              | zero => intro _; rfl
              | succ i ih =>
                intro hi
                show sN (N ++ [x]) i + (N ++ [x]).getD i 0 = sN N i + N.getD i 0
                rw [ih (by omega), List.getD_eq_getElem?_getD, List.getElem?_append_left (by omega), ← List.getD_eq_getElem?_getD]
            rw [e3 _ (Nat.le_refl _), List.getD_eq_getElem?_getD, List.getElem?_append_right (Nat.le_refl _)]
            simp)
        generalize R[j] = x at c0 HNo HS
        by_cases d1 : x < 0
        · have HE := hid (HNo.out (.inl d1))
          clear HS HNo
          go_wp2
          go_ret2
          exact ⟨⟨0, by rw [HE.out]; rfl, fun hy => by rw [HE.out] at hy; cases hy⟩, rfl⟩
        · by_cases d2 : 24 < x
          · have HE := hid (HNo.out (.inr d2))
            clear HS HNo
            go_wp2
            go_ret2
            exact ⟨⟨0, by rw [HE.out]; rfl, fun hy => by rw [HE.out] at hy; cases hy⟩, rfl⟩
          · obtain ⟨y, rfl⟩ : ∃ y : Nat, x = (y : Int) := ⟨x.toNat, by omega⟩
            obtain ⟨s1, s2⟩ := HS.out y rfl
            have H1 := hid s1
            have H2 := hid s2
            clear s1 s2 HS HNo
            have hb2 : (tN2 N : Int) ≤ 24 * 16 := by omega
            generalize hZ : tN2 N = z at *
            go_wp2
            go_roundw
            case rel => exact ⟨j + 1, N ++ [y], by omega, by go_num, by rw [H2.out]; go_num, by rw [List.length_append, HNl.out]; rfl, H1.out, by rw [H2.out]; omega, by first | rfl | trivial⟩
            case measure => simp [intOf]; omega
      · have hI : ¬ (j : Int) < (R.length : Int) := by omega
        obtain rfl : j = R.length := by omega
        have hRN : R = iN N := by have := HT.out; rwa [List.take_length] at this
        have hb2 : (tN2 N : Int) ≤ 24 * 16 := by omega
        have HE := hid (show stOk R = decide (tN2 N ≤ 24) by
          by_cases c : tN2 N ≤ 24
          · rw [decide_eq_true c, hRN]
            exact stOk_mk ((okN_iff _).2 (by rw [HNl.out]; omega)) c
          · rw [decide_eq_false c]
            refine Bool.eq_false_iff.2 fun hy => c ?_
            obtain ⟨_, M, hM, hM2, hM3⟩ := stOk_of hy
            rw [hRN, iN_nats] at hM3
            rw [hM3]
            exact hM2)
        have HF := hid (show nats R = N by rw [hRN, iN_nats])
        clear hRN
        by_cases c : tN2 N ≤ 24
        · have cI : (tN2 N : Int) ≤ 24 := by omega
          have HE2 := hid (show stOk R = true by rw [HE.out]; exact decide_eq_true c)
          clear c
          generalize hZ : tN2 N = z at *
          go_wp2
          go_ret2
          exact ⟨⟨_, by rw [HE2.out]; rfl, fun _ => by rw [HF.out, hZ]⟩, rfl⟩
        · have cI : ¬ (tN2 N : Int) ≤ 24 := by omega
          have HE2 := hid (show stOk R = false by rw [HE.out]; exact decide_eq_false c)
          clear c
          generalize hZ : tN2 N = z at *
          go_wp2
          go_ret2
          exact ⟨⟨_, by rw [HE2.out]; rfl, fun hy => by rw [HE2.out] at hy; cases hy⟩, rfl⟩
  · have HE := hid (show stOk R = false by
      refine Bool.eq_false_iff.2 fun hy => hk ?_
      have := (okN_iff _).1 (stOk_of hy).1
      omega)
    rcases Nat.lt_or_ge R.length 1 with k1 | k1
    · have k1I : (R.length : Int) < 1 := by omega
      clear hk
      go_enter Try.func51, Try.ntmps51
      go_wp2
      go_ret2
      exact ⟨⟨0, by rw [HE.out]; rfl, fun hy => by rw [HE.out] at hy; cases hy⟩, rfl⟩
    · have k1I : ¬ (R.length : Int) < 1 := by omega
      have k2I : (16 : Int) < (R.length : Int) := by omega
      clear hk
      go_enter Try.func51, Try.ntmps51
      go_wp2
      go_ret2
      exact ⟨⟨0, by rw [HE.out]; rfl, fun hy => by rw [HE.out] at hy; cases hy⟩, rfl⟩
end Go.Proofs.Ytaiccmbhdgecgaa

namespace Go.Proofs.Ytaiccmbhdgecgaa
open Go.RowKit
set_option maxRecDepth 100000

/-- as the document reckons it: of what is left -/
def dN (N : List Nat) : Nat → Nat
  | 0 => 1
  | j + 1 => dN N j * chd (tN2 N - sN N j) (N.getD j 0)
theorem sN_at (N : List Nat) (j : Nat) (h : j < N.length) : sN N j + N.getD j 0 ≤ tN2 N := by
  have h1 : sN N (j + 1) = sN N j + N.getD j 0 := rfl
  have h2 := sN_mono N (show j + 1 ≤ N.length from h)
  have h3 : tN2 N = sN N N.length := rfl
  omega
theorem dN_pf (N : List Nat) (hs : tN2 N ≤ 24) : ∀ j, j ≤ N.length → dN N j * (pf N j * fac (tN2 N - sN N j)) = fac (tN2 N)
  | 0, _ => by show 1 * (1 * fac (tN2 N - 0)) = _; rw [Nat.one_mul, Nat.one_mul, Nat.sub_zero]
  | j + 1, h => by
    have ih := dN_pf N hs j (by omega)
    have ha := sN_at N j h
    have hf := chd_fac (tN2 N - sN N j) (N.getD j 0) (by omega) (by omega)
    show dN N j * chd (tN2 N - sN N j) (N.getD j 0) * (pf N j * fac (N.getD j 0) * fac (tN2 N - (sN N j + N.getD j 0))) = _
    rw [← ih, ← hf, show tN2 N - sN N j - N.getD j 0 = tN2 N - (sN N j + N.getD j 0) by omega]
    generalize chd (tN2 N - sN N j) (N.getD j 0) = a
    generalize fac (N.getD j 0) = b
    generalize fac (tN2 N - (sN N j + N.getD j 0)) = c
    generalize dN N j = d
    generalize pf N j = p
    rw [Nat.mul_assoc, Nat.mul_assoc p b c, Nat.mul_left_comm a p, ]
theorem dN_all (N : List Nat) (hs : tN2 N ≤ 24) : dN N N.length = mN N := by
  have h1 := dN_pf N hs N.length (Nat.le_refl _)
  have h2 := cN_pf N N.length hs
  have e : tN2 N - sN N N.length = 0 := Nat.sub_self _
  rw [e, show fac 0 = 1 from rfl, Nat.mul_one] at h1
  apply Nat.eq_of_mul_eq_mul_right (pf_pos N N.length)
  rw [h1]
  exact h2.symm
theorem dN_pos (N : List Nat) (hs : tN2 N ≤ 24) (j : Nat) (hj : j ≤ N.length) : 0 < dN N j := by
  have h := dN_pf N hs j hj
  have h2 := fac_pos (tN2 N)
  rcases Nat.eq_zero_or_pos (dN N j) with e | e
  · rw [e, Nat.zero_mul] at h; omega
  · exact e
theorem dN_up (N : List Nat) (hs : tN2 N ≤ 24) (j : Nat) (hj : j < N.length) : dN N j ≤ dN N (j + 1) := by
  show dN N j ≤ dN N j * chd (tN2 N - sN N j) (N.getD j 0)
  exact Nat.le_mul_of_pos_right _ (chd_le _ _ (by omega) (by have := sN_at N j hj; omega)).2
theorem dN_mono (N : List Nat) (hs : tN2 N ≤ 24) : ∀ {i j : Nat}, i ≤ j → j ≤ N.length → dN N i ≤ dN N j := by
  intro i j h
  induction h with
  | refl => exact fun _ => Nat.le_refl _
  | step h ih => exact fun hj => Nat.le_trans (ih (by omega)) (dN_up N hs _ (by omega))
theorem cN_up (N : List Nat) (hs : tN2 N ≤ 24) (j : Nat) (hj : j < N.length) : cN N j ≤ cN N (j + 1) := by
  show cN N j ≤ cN N j * chs (sN N j + N.getD j 0) (N.getD j 0) (N.getD j 0)
  exact Nat.le_mul_of_pos_right _ (chs_le24 _ _ _ (by have := sN_at N j hj; omega) (Nat.le_add_left _ _) (Nat.le_refl _)).2
theorem cOk_iff (N : List Nat) (hs : tN2 N ≤ 24) : ∀ j, j ≤ N.length → (cOk N j = true ↔ cN N j ≤ 4611686018427387904)
  | 0, _ => by simp [cOk, cN]
  | j + 1, h => by
    show (cOk N j && decide (cN N (j + 1) ≤ 4611686018427387904)) = true ↔ _
    rw [Bool.and_eq_true, decide_eq_true_eq, cOk_iff N hs j (by omega)]
    have := cN_up N hs j h
    omega
theorem cntA_is (N : List Nat) (h : stOk (iN N) = true) : cntA (iN N) = if mN N ≤ 4611686018427387904 then ((mN N : Int), 0) else (0, 26) := by
  obtain ⟨_, M, hM, hM2, hM3⟩ := stOk_of h
  rw [iN_nats] at hM3
  subst hM3
  unfold cntA
  rw [if_pos h, iN_nats]
  have h9 := cOk_iff N hM2 N.length (Nat.le_refl _)
  by_cases c : mN N ≤ 4611686018427387904
  · rw [if_pos c, if_pos (h9.2 c)]
  · rw [if_neg c, if_neg (fun e => c (h9.1 e))]
set_option maxHeartbeats 1000000 in
theorem count7_any (v : Value) (R : List Int) (w : World) (hr : RI w v R) (hl : R.length ≤ 9223372036854775807) :
    Calls Try.prog 29 #[v] w fun e w' => e = .returned (.tuple #[.int .i64 (cntA R).1, .int .i64 (cntA R).2]) ∧ w' = w := by
  have HK := hid (steps7_any v R w hr hl)
  by_cases hs : stOk R = true
  · obtain ⟨hk1, N, rfl, hT, _⟩ := stOk_of hs
    have hk2 := (okN_iff _).1 hk1
    have HA := hid (cntA_is N hs)
    obtain ⟨A, hA⟩ : ∃ A, cntA (iN N) = A := ⟨_, rfl⟩
    rw [hA] at HA ⊢
    rw [iN_len] at hk2
    obtain ⟨ao, cap, rfl, hc, hn0, hcell⟩ := hr
    rw [iN_len] at hc
    have HC := hid hcell
    have HT := hid hT
    have hl16 : N.length ≤ 16 := by omega
    have HS2 := hid hs
    clear hcell hn0 hs hk1 hk2 hl hA
    rw [iN_len] at HK ⊢
    go_enter Try.func29, Try.ntmps29
    go_wp2_with fail
    refine Calls.mono HK.out ?_
    rintro e w1 ⟨⟨s0, rfl, hs0⟩, rfl⟩
    rw [iN_nats] at hs0
    have hs0 := hs0 HS2.out
    subst hs0
    rw [HS2.out]
    have hT24 : (tN2 N : Int) ≤ 24 := by have := HT.out; omega
    clear HK hT
    obtain ⟨tt, htt⟩ : ∃ tt, tN2 N = tt := ⟨_, rfl⟩
    rw [htt] at hT24 ⊢
    have HTT := hid htt
    clear htt
    go_wp2_with fail
    go_loopw [4, 6, 7, 8] (fun vp vc vi _ wx => ∃ j : Nat, j ≤ N.length ∧ vi = .int .i64 (j : Int) ∧ vc = .int .i64 (dN N j : Int) ∧ vp = .int .i64 ((tt - sN N j : Nat) : Int) ∧ (dN N j : Int) ≤ 4611686018427387904 ∧ wx = w1) (fun _ _ vi _ _ => N.length - (intOf vi).toNat)
    case atStart => exact ⟨0, Nat.zero_le _, rfl, rfl, rfl, by show ((1 : Nat) : Int) ≤ _; decide, rfl⟩
    case round =>
      obtain ⟨j, hj, rfl, rfl, rfl, hcm, rfl⟩ := hrel
      by_cases h : j < N.length
      · have hI : (j : Int) < (N.length : Int) := by omega
        obtain ⟨g, off, hao, c0⟩ := HC.out j (by rw [iN_len]; exact h)
        subst hao
        rw [iN_at N j _ h] at c0
        have hsa := sN_at N j h
        rw [gN N j h, HTT.out] at hsa
        have HS := hid (show sN N (j + 1) = sN N j + N[j] by rw [← gN N j h]; rfl)
        have HD := hid (show dN N (j + 1) = dN N j * chd (tt - sN N j) N[j] by rw [← gN N j h, ← HTT.out]; rfl)
        have hc1 := dN_pos N HT.out j hj
        have HM := hid (dN_mono N HT.out (show j + 1 ≤ N.length from h) (Nat.le_refl _))
        have HCh := hid (choose_any (tt - sN N j) N[j] wr (by omega) (by omega))
        have hcc := chd_le (tt - sN N j) N[j] (by omega) (by omega)
        generalize N[j] = x at c0 HS hsa HD HCh hcc
        have hsub : ((tt - sN N j : Nat) : Int) - (x : Int) = ((tt - (sN N j + x) : Nat) : Int) := by omega
        have HSub := hid hsub
        generalize sN N j = s at *
        obtain ⟨q, hq⟩ : ∃ q, tt - s = q := ⟨_, rfl⟩
        rw [hq] at HCh hcc HD HSub ⊢
        have hq24 : (q : Int) ≤ 24 := by omega
        clear hsub hq
        generalize chd q x = y at HD HCh hcc
        generalize hdn : dN N j = c at *
        obtain ⟨hcc, hcc0⟩ := hcc
        have hyz : (y : Int) ≠ 0 := by omega
        have hqt := quo_test y c hcc0
        have E3 : (c : Int) * (y : Int) = ((c * y : Nat) : Int) := by push_cast; rfl
        rw [Nat.mul_comm y c] at hqt
        obtain ⟨Q, hQ⟩ : ∃ Q, 4611686018427387904 / y = Q := ⟨_, rfl⟩
        have hQI : (4611686018427387904 : Int) / (y : Int) = (Q : Int) := by rw [← hQ]; rfl
        have hQb : Q ≤ 4611686018427387904 := by rw [← hQ]; exact Nat.div_le_self _ _
        rw [hQ] at hqt
        have hQb2 : (Q : Int) ≤ 4611686018427387904 := Int.ofNat_le.2 hQb
        have hccI : (y : Int) ≤ 2704156 := Int.ofNat_le.2 hcc
        have HQt := hid hqt
        clear hqt hQ hQb hcc hcc0 hdn
        by_cases hgt : Q < c
        · have hgI : (Q : Int) < (c : Int) := Int.ofNat_lt.2 hgt
          have HE := hid (show A = (0, 26) by
            rw [HA.out, if_neg]
            have h1 := HQt.out.1 hgt
            have h2 := HM.out
            rw [HD.out, dN_all N HT.out] at h2
            omega)
          clear hgt
          go_wp2_with fail
          refine Calls.mono HCh.out ?_
          rintro e w2 ⟨rfl, rfl⟩
          clear HCh
          go_wp2
          go_ret2
          exact ⟨by rw [HE.out]; rfl, rfl⟩
        · have hgI : ¬ (Q : Int) < (c : Int) := fun e => hgt (Int.ofNat_lt.1 e)
          have hcy : c * y ≤ 4611686018427387904 := by
            rcases Nat.lt_or_ge 4611686018427387904 (c * y) with h9 | h9
            · exact absurd (HQt.out.2 (Nat.not_le.2 h9)) hgt
            · exact h9
          obtain ⟨z, hz⟩ : ∃ z, c * y = z := ⟨_, rfl⟩
          rw [hz] at E3 hcy HD
          have hcyI : (z : Int) ≤ 4611686018427387904 := Int.ofNat_le.2 hcy
          have HCY := hid hcyI
          clear hz hcy hgt
          go_wp2_with fail
          refine Calls.mono HCh.out ?_
          rintro e w2 ⟨rfl, rfl⟩
          clear HCh
          go_wp2
          go_roundw
          case rel => exact ⟨j + 1, by omega, by go_num, by rw [HD.out], by rw [HS.out, ← HSub.out], by rw [HD.out]; exact HCY.out, by first | rfl | trivial⟩
          case measure => simp [intOf]; omega
      · have hI : ¬ (j : Int) < (N.length : Int) := by omega
        obtain rfl : j = N.length := by omega
        have HE := hid (show A = ((dN N N.length : Int), 0) by
          rw [HA.out, dN_all N HT.out, if_pos]
          rw [dN_all N HT.out] at hcm
          omega)
        generalize hdn : dN N N.length = c at *
        clear hdn
        go_wp2
        go_ret2
        exact ⟨by rw [HE.out]; rfl, rfl⟩
  · have hs' : stOk R = false := by simpa using hs
    have HE := hid (show cntA R = (0, 2) by unfold cntA; rw [if_neg hs])
    obtain ⟨ao, cap, rfl⟩ := hr.len0
    obtain ⟨A, hA⟩ : ∃ A, cntA R = A := ⟨_, rfl⟩
    rw [hA] at HE ⊢
    have HS := hid hs'
    clear hr hs hs' hA
    go_enter Try.func29, Try.ntmps29
    go_wp2_with fail
    refine Calls.mono HK.out ?_
    rintro e w1 ⟨⟨s0, rfl, _⟩, rfl⟩
    rw [HS.out]
    clear HK
    go_wp2
    go_ret2
    exact ⟨by rw [HE.out]; rfl, rfl⟩
end Go.Proofs.Ytaiccmbhdgecgaa

namespace Go.Proofs.Ytaiccmbhdgecgaa
open Go.RowKit
set_option maxRecDepth 100000

theorem iN_set (N : List Nat) (h x : Nat) : (iN N).set h (x : Int) = iN (N.set h x) := by unfold iN; rw [List.map_set]
set_option maxHeartbeats 400000 in
theorem less7_any (v : Value) (N : List Nat) (h : Nat) (w : World) (hr : RI w v (iN N)) (hl : N.length ≤ 16) (hh : h < N.length) (h1 : 1 ≤ N.getD h 0) (hs : tN2 N ≤ 24) :
    Calls Try.prog 52 #[v, .int .i64 (h : Int)] w fun e w' => (∃ v', e = .returned v' ∧ OI w' w.heap.size v' (iN (less N h))) ∧ Below w.heap.size w w' := by
  obtain ⟨ao, cap, hv⟩ := hr.len0
  rw [iN_len] at hv
  subst hv
  have HR := hid hr
  have hx24 := getD_le N h hh
  have hhI : (h : Int) < (N.length : Int) := by omega
  clear hr
  go_enter Try.func52, Try.ntmps52
  go_wp2_with (at_builtin; refine wpList_appI rfl _ _ rfl w.heap.size _ [] rfl (OI.nil _ _) _ (iN N) rfl HR.out (by simp [iN_len]; omega) (Nat.le_refl _) ?hnext)
  case hnext =>
    intro v1 w1 ho1 hg1
    have hB1 := (Below.refl w.heap.size w).grown hg1 (Nat.le_refl _) (by intro k hk; cases hk)
    have ho1 : OI w1 w.heap.size v1 (iN N) := ho1
    obtain ⟨g, c, rfl, hc, hm, hcl⟩ := ho1.form (by rw [iN_len]; omega)
    have c0 := hcl h (by rw [iN_len]; exact hh)
    rw [iN_at N h _ hh, ← gN N h hh] at c0
    have f0 := ho1.own h
    have hgb : w.heap.size ≤ g := ho1.block_ge g rfl
    have HO := hid (show OI (w1.setCell ⟨g, h, none⟩ (.int .i64 ((N.getD h 0 : Nat) - 1))) w.heap.size (.slice (some ⟨g, 0, none⟩) N.length c) (iN (less N h)) by
      have := ho1.set (i := h) (((N.getD h 0 : Nat) : Int) - 1)
      rw [show ((N.getD h 0 : Nat) : Int) - 1 = ((N.getD h 0 - 1 : Nat) : Int) by omega, iN_set, iN_len] at this
      rw [show ((N.getD h 0 : Nat) : Int) - 1 = ((N.getD h 0 - 1 : Nat) : Int) by omega]
      exact this)
    have HB := hid (hB1.setCell (p := ⟨g, h, none⟩) hgb (.int .i64 ((N.getD h 0 : Nat) - 1)))
    rw [iN_len]
    clear hcl ho1 hg1 hB1
    generalize N.getD h 0 = x at *
    go_wp2
    go_ret
    exact ⟨⟨_, rfl, HO.out⟩, HB.out⟩
theorem stOk_less (N : List Nat) (h : Nat) (hh : h < N.length) (h1 : 1 ≤ N.getD h 0) (hl : N.length ≤ 16) (hs : tN2 N ≤ 24) : stOk (iN (less N h)) = true :=
  stOk_mk ((okN_iff _).2 (by rw [less_len]; omega)) (by have := (mN_less N h hh h1 hs).2; omega)
theorem cntA_less (N : List Nat) (h : Nat) (hh : h < N.length) (h1 : 1 ≤ N.getD h 0) (hl : N.length ≤ 16) (hs : tN2 N ≤ 24) (hm : mN N ≤ 4611686018427387904) : cntA (iN (less N h)) = ((bg N h : Int), 0) := by
  have hp : 1 ≤ tN2 N := by have := getD_le N h hh; omega
  rw [cntA_is _ (stOk_less N h hh h1 hl hs), if_pos (Nat.le_trans (mN_less_le N h hh hp hs h1) hm), (bg_mul N h hh hs hp).2.2 h1]
/-- a list reads, and goes on reading where another one has grown -/
def LF (w : World) (vl v : Value) (N : List Nat) : Prop := RI w v (iN N) ∧ ∀ W, w.grownBy W vl.ownBlock → RI W v (iN N)
theorem LF.later {w w' : World} {vl v : Value} {N : List Nat} (h : LF w vl v N) (hb : Below w.heap.size w w') : LF w' vl v N :=
  ⟨h.1.below hb, fun W hg => h.2 W ⟨hg.os.trans hb.os, hg.tape.trans hb.tape, hg.output.trans hb.output, Nat.le_trans hb.size hg.size, fun k hk hn => (hg.block k (Nat.lt_of_lt_of_le hk hb.size) hn).trans (hb.block k hk)⟩⟩
theorem RI.grown {w W : World} {v : Value} {R : List Int} {row : Option Nat} (h : RI w v R) (hg : w.grownBy W row) (hn : ∀ g off, (∃ n c, v = .slice (some ⟨g, off, none⟩) n c) → row ≠ some g) (hlt : ∀ g off, (∃ n c, v = .slice (some ⟨g, off, none⟩) n c) → g < w.heap.size) : RI W v R := by
  obtain ⟨ao, c, e, hc, hn0, hcell⟩ := h
  subst e
  refine ⟨ao, c, rfl, hc, hn0, fun i hi => ?_⟩
  obtain ⟨g, off, rfl, hx⟩ := hcell i hi
  refine ⟨g, off, rfl, ?_⟩
  have hb := hg.block g (hlt g off ⟨_, _, rfl⟩) (fun e => hn g off ⟨_, _, rfl⟩ e.symm)
  rw [← hx]
  simp only [World.cell?, hb]
theorem LF.fresh {w : World} {B : Nat} {vl v : Value} {N : List Nat} (h : OI w B v (iN N)) (hlt : ∀ g, vl.ownBlock = some g → g < B) : LF w vl v N := by
  refine ⟨h.reads, fun W hg => ?_⟩
  have h1 : ∀ g off, (∃ n c, v = .slice (some ⟨g, off, none⟩) n c) → off = 0 ∧ B ≤ g ∧ g < w.heap.size := by
    rintro g off ⟨n, c, rfl⟩
    have hx := h.2
    rcases hx with ⟨h2, _⟩ | ⟨g', cap', cur, hv, hg, hh, _⟩
    · cases h2
    · injection hv with e1 e2 e3
      injection e1 with e1
      injection e1 with e1 e4
      subst e1 e4
      exact ⟨rfl, hg, (Array.getElem?_eq_some_iff.1 hh).1⟩
  exact h.reads.grown hg (fun g off e e2 => by have := hlt g e2; have := (h1 g off e).2.1; omega) (fun g off e => (h1 g off e).2.2)
theorem LF.nil {w : World} {v : Value} {N : List Nat} (h : RI w v (iN N)) : LF w (.slice none 0 0) v N :=
  ⟨h, fun W hg => RI.below (w := w) h ⟨hg.os, hg.tape, hg.output, hg.size, fun k hk => hg.block k hk (by intro e; cases e)⟩⟩
/-- between two picks of the document's Nth -/
structure DP (N : List Nat) (n s : Nat) (w1 wx : World) (vl vm : Value) (N' : List Nat) (n' : Nat) (P : List Nat) : Prop where
  lf : LF wx vl vm N'
  len : N'.length = N.length
  sum : tN2 N' + P.length = s
  lt : n' < mN N'
  mm : mN N' ≤ 4611686018427387904
  own : OI wx w1.heap.size vl (iN P)
  be : Below w1.heap.size w1 wx
  mx : ∀ L, Mx N' n' L → Mx N n (P ++ L)
def bOf : Value → Nat
  | .bool true => 0
  | _ => 1
def N7A (N : List Nat) (n : Nat) (w w' : World) (e : Ending) : Prop := ∃ v' L, e = .returned (.tuple #[v', .int .i64 0]) ∧ OI w' w.heap.size v' (iN L) ∧ Mx N n L
set_option maxHeartbeats 4000000 in
theorem nth7X (v : Value) (N : List Nat) (n : Nat) (w : World) (hr : RI w v (iN N)) (h0 : 1 ≤ N.length) (hl : N.length ≤ 16) (hs : tN2 N ≤ 24) (hm : mN N ≤ 4611686018427387904) (hc : cntA (iN N) = ((mN N : Int), 0)) (hn : n < mN N) :
    Calls Try.prog 23 #[v, .int .i64 (n : Int)] w fun e w' => N7A N n w w' e ∧ Below w.heap.size w w' := by
  have HCo := hid (show Calls Try.prog 29 #[v] w fun e w' => e = .returned (.tuple #[.int .i64 (mN N : Int), .int .i64 0]) ∧ w' = w by have := count7_any v (iN N) w hr (by rw [iN_len]; omega); rw [hc] at this; exact this)
  have hsk : stOk (iN N) = true := stOk_mk ((okN_iff _).2 (by omega)) hs
  have HSt := hid (show Calls Try.prog 51 #[v] w fun e w' => e = .returned (.tuple #[.int .i64 (tN2 N : Int), .bool true]) ∧ w' = w from (steps7_any v (iN N) w hr (by rw [iN_len]; omega)).mono (by
    rintro e w' ⟨⟨s, he, h2⟩, h3⟩
    have h4 := h2 hsk
    rw [iN_nats] at h4
    subst h4
    rw [hsk] at he
    exact ⟨he, h3⟩))
  have HR := hid hr
  have hnI : (n : Int) < (mN N : Int) := Int.ofNat_lt.2 hn
  have hmI : (mN N : Int) ≤ 4611686018427387904 := Int.ofNat_le.2 hm
  have HN0 := hid (And.intro hn hm)
  have hg1 : ¬ (mN N : Int) ≤ (n : Int) := by omega
  have hg2 : ¬ (n : Int) < 0 := by omega
  have HP0 := hid (show DP N n (tN2 N) w w (.slice none 0 0) v N n [] from ⟨LF.nil hr, rfl, rfl, hn, hm, OI.nil _ _, Below.refl _ _, fun L h => h⟩)
  have hs24 : (tN2 N : Int) ≤ 24 := by omega
  obtain ⟨MM, hMM⟩ : ∃ MM, mN N = MM := ⟨_, rfl⟩
  rw [hMM] at HCo hnI hmI hg1
  have hd1 : decide ((n : Int) < 0) = false := decide_eq_false hg2
  have hd2 : decide ((MM : Int) ≤ (n : Int)) = false := decide_eq_false hg1
  obtain ⟨tt, htt⟩ : ∃ tt, tN2 N = tt := ⟨_, rfl⟩
  rw [htt] at HSt hs24 HP0
  clear hMM hsk hc hn hm hr hs htt
  go_enter Try.func23, Try.ntmps23
  go_wp2_with fail
  refine Calls.mono HCo.out ?_
  rintro e w1 ⟨rfl, rfl⟩
  clear HCo
  go_wp2_with fail
  refine Calls.mono HSt.out ?_
  rintro e w2 ⟨rfl, rfl⟩
  clear HSt
  go_wp2_with fail
  go_loopw [1, 10, 11, 12, 13, 14] (fun vn vl vm _ _ _ wx => ∃ (N' P : List Nat) (n' : Nat), vn = .int .i64 (n' : Int) ∧ DP N n tt w2 wx vl vm N' n' P) (fun _ vl _ _ _ _ _ => tt - slen vl)
  case atStart => exact ⟨N, [], n, rfl, HP0.out⟩
  case round =>
    obtain ⟨N', P, n', rfl, hp⟩ := hrel
    clear HP0
    have HP := hid hp
    have hsum := hp.sum
    have hlen := hp.len
    obtain ⟨a9, c9, hv9⟩ := hp.own.reads.len0
    rw [iN_len] at hv9
    subst hv9
    have hPl : P.length ≤ 24 := by omega
    clear hp
    by_cases h0s : tt ≤ P.length
    · have hsI : ¬ (P.length : Int) < (tt : Int) := by omega
      have hd0 : decide (P.length < tt) = false := decide_eq_false (by omega)
      have HE := hid (show Mx N n P by
        have h := HP.out.mx []
        rw [List.append_nil] at h
        have hlt := HP.out.lt
        have hz : sN N' N'.length = 0 := by have h9 : tN2 N' = 0 := by omega
                                            exact h9
        have h2 := cN_pf N' N'.length (by omega)
        rw [hz] at h2
        have h3 : mN N' = 1 := Nat.eq_one_of_mul_eq_one_right h2
        have h4 : n' = 0 := by omega
        subst h4
        exact h (Mx.nil N' hz))
      go_wp2
      go_ret2
      exact ⟨⟨_, P, rfl, HP.out.own, HE.out⟩, HP.out.be⟩
    · have hsI : (P.length : Int) < (tt : Int) := by omega
      have hd0 : decide (P.length < tt) = true := decide_eq_true (by omega)
      have HS1 := hid (show 1 ≤ tN2 N' ∧ tN2 N' ≤ 24 by omega)
      obtain ⟨wo, hwo⟩ : ∃ wo, wo = wr := ⟨_, rfl⟩
      subst hwo
      have HFd := hid (find_hd N' n' (by rw [bS_all N' HS1.out.2 HS1.out.1]; exact HP.out.lt))
      obtain ⟨am, cm, hvm⟩ := HP.out.lf.1.len0
      rw [iN_len, hlen] at hvm
      subst hvm
      go_wp2_with fail
      go_loopw [1, 12, 13, 14] (fun vn vh vf _ wx => ∃ (h x : Nat) (fb : Bool), h < N.length ∧ bS N' h ≤ n' ∧ x = n' - bS N' h ∧ vn = .int .i64 (x : Int) ∧ vh = .int .i64 (h : Int) ∧ vf = .bool fb ∧ (fb = true → n' < bS N' (h + 1)) ∧ Below wo.heap.size wo wx) (fun _ vh vf _ _ => 2 * (N.length - (intOf vh).toNat) + bOf vf)
      case atStart => exact ⟨0, n', false, by omega, Nat.zero_le _, (Nat.sub_zero _).symm, rfl, rfl, rfl, (by intro h; cases h), Below.refl _ _⟩
      case round =>
        obtain ⟨h, x, fb, hh, hb, hx, rfl, rfl, rfl, hfb, hB⟩ := hrel
        have HB := hid hB
        have HFb := hid hfb
        have HHb := hid hb
        have HX := hid hx
        have hxM : (x : Int) ≤ 4611686018427387904 := by have := HP.out.lt; have := HP.out.mm; omega
        have HLf := hid (HP.out.lf.later HB.out)
        clear hB hfb hb hx
        have hh' : h < N'.length := by omega
        cases fb with
        | false =>
          clear HFb
          obtain ⟨_, _, hvs, _, _, hKc⟩ := HLf.out.1
          obtain ⟨gk, offk, hgk, ck⟩ := hKc h (by rw [iN_len]; exact hh')
          rw [iN_at N' h _ hh', ← gN N' h hh'] at ck
          have HCk := hid ck
          have hao : am = some ⟨gk, offk, none⟩ := by injection hvs with e1 e2 e3; rw [e1, hgk]
          subst hao
          clear hKc hvs hgk ck
          have hhI : (h : Int) < (N.length : Int) := by omega
          rcases Nat.eq_zero_or_pos (N'.getD h 0) with hz | hp1
          · -- nothing of it is left
            have ck := HCk.out
            rw [hz] at ck
            have ck : wr.cell? ⟨gk, offk + h, none⟩ = some (.int .i64 0) := ck
            have hb0 := (bg_mul N' h hh' HS1.out.2 HS1.out.1).2.1 hz
            have e1 : bS N' (h + 1) = bS N' h := by
              show bS N' h + bg N' h = _
              rw [hb0, Nat.add_zero]
            have HE1 := hid e1
            have hnx : h + 1 < N.length := by
              rcases Nat.lt_or_ge (h + 1) N.length with h9 | h9
              · exact h9
              · exfalso
                have e2 : N'.length = h + 1 := by omega
                have e3 := bS_all N' HS1.out.2 HS1.out.1
                rw [e2, e1] at e3
                have := HP.out.lt
                have := HHb.out
                omega
            have hx0 : ¬ (x : Int) < 0 := by omega
            clear hb0 e1 hz HCk
            go_wp2
            go_roundw
            case rel => exact ⟨h + 1, x, false, hnx, by rw [HE1.out]; exact HHb.out, by rw [HE1.out]; exact HX.out, by first | rfl | go_num, by go_num, rfl, (by intro h; cases h), HB.out⟩
            case measure => simp [intOf, bOf]; omega
          · have ck := HCk.out
            have hgt : (0 : Int) < ((N'.getD h 0 : Nat) : Int) := by omega
            have HLe := hid (less7_any _ N' h wr HLf.out.1 (by omega) hh' hp1 HS1.out.2)
            have HCA := hid (cntA_less N' h hh' hp1 (by omega) HS1.out.2 HP.out.mm)
            generalize N'.getD h 0 = y at *
            have hbm : bg N' h ≤ mN N' := by
              have := bS_mono N' (show h + 1 ≤ N'.length from hh')
              rw [bS_all N' HS1.out.2 HS1.out.1] at this
              have e1 : bS N' (h + 1) = bS N' h + bg N' h := rfl
              omega
            obtain ⟨b, hbb⟩ : ∃ b, bg N' h = b := ⟨_, rfl⟩
            have HBb := hid hbb
            rw [hbb] at HCA hbm
            have hbI : (b : Int) ≤ 4611686018427387904 := by have := HP.out.mm; omega
            clear hbb HCk hbm
            go_wp2_with fail
            refine Calls.mono HLe.out ?_
            rintro e w5 ⟨⟨v5, rfl, ho5⟩, hb5⟩
            have HC5 := hid (count7_any v5 _ w5 ho5.reads (by rw [iN_len, less_len]; omega))
            rw [HCA.out] at HC5
            have HB5 := hid (HB.out.trans (hb5.mono HB.out.size))
            clear HLe ho5 hb5 HCA
            go_wp2_with fail
            refine Calls.mono HC5.out ?_
            rintro e w6 ⟨rfl, rfl⟩
            clear HC5
            have e1 : bS N' (h + 1) = bS N' h + bg N' h := rfl
            have HE1 := hid e1
            clear e1
            by_cases hlt : x < b
            · have hlI : (x : Int) < (b : Int) := by omega
              go_wp2
              go_roundw
              case rel => exact ⟨h, x, true, hh, HHb.out, HX.out, rfl, rfl, rfl, (fun _ => by have := HE1.out; have := HBb.out; have := HX.out; have := HHb.out; omega), HB5.out⟩
              case measure => simp [bOf]
            · have hlI : ¬ (x : Int) < (b : Int) := by omega
              have hnx : h + 1 < N.length := by
                rcases Nat.lt_or_ge (h + 1) N.length with h9 | h9
                · exact h9
                · exfalso
                  have e2 : N'.length = h + 1 := by omega
                  have e3 := bS_all N' HS1.out.2 HS1.out.1
                  rw [e2] at e3
                  have := HP.out.lt
                  have := HHb.out
                  have := HE1.out
                  have := HBb.out
                  have := HX.out
                  omega
              go_wp2
              go_roundw
              case rel =>
                have := HE1.out
                have := HBb.out
                have := HX.out
                have := HHb.out
                exact ⟨h + 1, x - b, false, hnx, by omega, by omega, by rw [show ((x - b : Nat) : Int) = (x : Int) - (b : Int) by omega], by go_num, rfl, (by intro h; cases h), HB5.out⟩
              case measure => simp [intOf, bOf]; omega
        | true =>
          have hlt2 := HFb.out rfl
          have H1 := hid (show 1 ≤ N'.getD h 0 from by
            rcases Nat.eq_zero_or_pos (N'.getD h 0) with h9 | h9
            · have := (bg_mul N' h hh' HS1.out.2 HS1.out.1).2.1 h9
              have e1 : bS N' (h + 1) = bS N' h + bg N' h := rfl
              have := HHb.out
              omega
            · exact h9)
          have HL2 := hid hlt2
          have HO := hid (HP.out.own.below (HB.out))
          have HBW := hid (HP.out.be.trans (HB.out.mono HP.out.be.size))
          clear HFb hlt2
          have hws := HBW.out.size
          go_wp2_with (at_builtin; refine wpList_appI rfl _ _ rfl w2.heap.size _ (iN P) rfl (HO.out.alloc _) _ [(h : Int)] rfl (ri_one _ _) (by simp [iN_len]; omega) (by simp; omega) ?hnext)
          case hnext =>
            intro v7 w7 ho7 hg7
            have HO7 := hid (show OI w7 w2.heap.size v7 (iN (P ++ [h])) by rw [show iN (P ++ [h]) = iN P ++ [(h : Int)] by simp [iN]]; exact ho7)
            have hsl : slen v7 = P.length + 1 := by
              obtain ⟨ao8, c8, e8⟩ := HO7.out.reads.len0
              rw [e8, iN_len, List.length_append]
              rfl
            have hlf7 := (HLf.out.later ((Below.refl wr.heap.size wr).alloc (by omega) (.cells #[.int .i64 (h : Int)] 3))).2 _ hg7
            have HLe := hid (less7_any _ N' h w7 hlf7 (by omega) hh' H1.out HS1.out.2)
            have hB7 := (HBW.out.alloc (by omega) (.cells #[.int .i64 (h : Int)] 3)).grown hg7 (by simp; omega) (fun k' hk' => HO.out.block_ge k' hk')
            have HB7 := hid hB7
            clear ho7 hg7 hlf7 hB7
            go_wp2_with fail
            refine Calls.mono HLe.out ?_
            rintro e w8 ⟨⟨v8, rfl, ho8⟩, hb8⟩
            have HO8 := hid ho8
            have HO78 := hid (HO7.out.below hb8)
            have HB8 := hid (HB7.out.trans (hb8.mono HB7.out.size))
            clear ho8 hb8 HLe
            go_wp2
            go_roundw
            case rel =>
              have hbm := (bg_mul N' h hh' HS1.out.2 HS1.out.1).2.2 H1.out
              have ht := (mN_less N' h hh' H1.out HS1.out.2).2
              have e1 : bS N' (h + 1) = bS N' h + bg N' h := rfl
              refine ⟨less N' h, P ++ [h], x, rfl, ⟨LF.fresh HO8.out (fun g hg => (HO7.out.own_lt g hg).2), by rw [less_len]; exact hlen, ?_, ?_, ?_, HO78.out, HB8.out, fun L hL => ?_⟩⟩
              · rw [List.length_append, List.length_singleton]
                omega
              · have := HL2.out
                have := HX.out
                have := HHb.out
                omega
              · exact Nat.le_trans (mN_less_le N' h hh' HS1.out.1 HS1.out.2 H1.out) HP.out.mm
              · rw [List.append_assoc]
                refine HP.out.mx (h :: L) (Mx.cons N' n' h L hh' H1.out HHb.out (by rw [← HX.out]; exact hL) HL2.out)
            case measure => rw [hsl]; show _ < tt - P.length; omega
set_option maxHeartbeats 1000000 in
theorem nth7R_any (v : Value) (R : List Int) (n : Int) (w : World) (hr : RI w v R) (hl : R.length ≤ 9223372036854775807) (hn : -9223372036854775808 ≤ n ∧ n ≤ 9223372036854775807) :
    Calls Try.prog 23 #[v, .int .i64 n] w fun e w' => NthA R n w w' e ∧ Below w.heap.size w w' := by
  have HCo := hid (count7_any v R w hr hl)
  rcases cnt_err R with h0 | h26 | h2
  · obtain ⟨N, rfl, a1, a2, a3, a4, a5⟩ := cnt_ok h0
    by_cases hneg : n < 0
    · have HA := hid (show ∀ w', NthA (iN N) n w w' (.returned (.tuple #[.slice none 0 0, .int .i64 2])) from fun w' => .inr (.inl ⟨h0, .inl hneg, rfl⟩))
      rw [a5] at HCo
      obtain ⟨ao, cap, hv⟩ := hr.len0
      subst hv
      clear hr
      have hm1 : ((mN N : Nat) : Int) ≤ 4611686018427387904 := Int.ofNat_le.2 a4
      generalize mN N = M at *
      clear h0 a5 a4
      have hd : decide (n < 0) = true := decide_eq_true hneg
      go_enter Try.func23, Try.ntmps23
      go_wp2_with fail
      refine Calls.mono HCo.out ?_
      rintro e w1 ⟨rfl, rfl⟩
      clear HCo
      go_wp2
      go_ret2
      exact ⟨HA.out _, Below.refl _ _⟩
    · by_cases hbig : (mN N : Int) ≤ n
      · have HA := hid (show ∀ w', NthA (iN N) n w w' (.returned (.tuple #[.slice none 0 0, .int .i64 2])) from fun w' => .inr (.inl ⟨h0, .inr (by rw [a5]; exact hbig), rfl⟩))
        rw [a5] at HCo
        obtain ⟨ao, cap, hv⟩ := hr.len0
        subst hv
        clear hr
        generalize mN N = M at *
        clear h0 a5 a4
        have hd : decide (n < 0) = false := decide_eq_false hneg
        have hd2 : decide ((M : Int) ≤ n) = true := decide_eq_true hbig
        go_enter Try.func23, Try.ntmps23
        go_wp2_with fail
        refine Calls.mono HCo.out ?_
        rintro e w1 ⟨rfl, rfl⟩
        clear HCo
        go_wp2
        go_ret2
        exact ⟨HA.out _, Below.refl _ _⟩
      · obtain ⟨m, rfl⟩ : ∃ m : Nat, n = (m : Int) := ⟨n.toNat, by omega⟩
        have hm : m < mN N := by omega
        refine (nth7X v N m w hr a1 a2 a3 a4 a5 hm).mono ?_
        rintro e w' ⟨⟨v', L, rfl, ho, hx⟩, hb⟩
        exact ⟨.inr (.inr ⟨h0, N, m, v', L, rfl, rfl, hm, a5, a1, a2, a3, a4, rfl, ho, hx⟩), hb⟩
  all_goals
    have hne : (cntA R).2 ≠ 0 := by rw [‹(cntA R).2 = _›]; decide
    have HA := hid (show ∀ w', NthA R n w w' (.returned (.tuple #[.slice none 0 0, .int .i64 (cntA R).2])) from fun w' => .inl ⟨hne, rfl⟩)
    have hhh := ‹(cntA R).2 = _›
    rw [hhh] at HCo HA
    obtain ⟨ao, cap, hv⟩ := hr.len0
    subst hv
    clear hr hne hhh
    go_enter Try.func23, Try.ntmps23
    go_wp2_with fail
    refine Calls.mono HCo.out ?_
    rintro e w1 ⟨rfl, rfl⟩
    clear HCo
    go_wp2
    go_ret2
    exact ⟨HA.out _, Below.refl _ _⟩
end Go.Proofs.Ytaiccmbhdgecgaa

namespace Go.Proofs.Ytaiccmbhdgecgaa
open Go.RowKit
set_option maxRecDepth 100000
attribute [local go_sem ↓] mki_op

/-- how often each of 16 stands in a list -/
def C16 (L : List Nat) : List Nat := (List.range 16).map fun h => L.count h
theorem C16_len (L : List Nat) : (C16 L).length = 16 := by simp [C16]
theorem C16_at (L : List Nat) (i : Nat) : (C16 L).getD i 0 = if i < 16 then L.count i else 0 := by
  unfold C16
  rw [List.getD_eq_getElem?_getD, List.getElem?_map]
  by_cases h : i < 16
  · rw [List.getElem?_range h, if_pos h]; rfl
  · rw [List.getElem?_eq_none (by simp; omega), if_neg h]; rfl
theorem iN_getD (N : List Nat) (i : Nat) : (iN N).getD i 0 = ((N.getD i 0 : Nat) : Int) := by
  unfold iN
  rw [List.getD_eq_getElem?_getD, List.getD_eq_getElem?_getD, List.getElem?_map]
  cases N[i]? <;> rfl
theorem get_getD (L : List Int) (i : Nat) (h : i < L.length) : L[i] = L.getD i 0 := by rw [List.getD_eq_getElem?_getD, List.getElem?_eq_getElem h]; rfl
theorem cR_is (L : List Nat) (hL : ∀ x ∈ L, x < 16) : ∀ j, j ≤ L.length → cR L j = iN (C16 (L.take j)) := by
  intro j
  induction j with
  | zero => intro _; rfl
  | succ j ih =>
    intro hj
    have hx : L.getD j 0 = L[j] := gN L j (by omega)
    have h16 := hL L[j] (List.getElem_mem _)
    unfold cR
    rw [ih (by omega), hx]
    apply List.ext_getElem
    · rw [List.length_set, iN_len, iN_len, C16_len, C16_len]
    · intro i h1 h2
      rw [List.length_set, iN_len, C16_len] at h1
      rw [get_getD, get_getD, getD_set0, iN_getD, iN_getD, iN_getD, C16_at, C16_at, C16_at, if_pos h1, if_pos h1, if_pos h16, List.take_add_one, List.getElem?_eq_getElem (by omega), iN_len, C16_len]
      simp only [Option.toList_some, List.count_append, List.count_singleton]
      by_cases hi : L[j] = i
      · subst hi
        rw [if_pos ⟨rfl, h16⟩]
        simp
      · rw [if_neg (fun e => hi e.1)]
        simp [hi]
theorem pad16 {N : List Nat} {n : Nat} {L : List Nat} (h : Mx N n L) (hl : N.length ≤ 16) : Pad N (C16 L) := ⟨by rw [C16_len]; exact hl, fun i => by
  rw [C16_at, mx_count h i]
  by_cases hi : i < 16
  · rw [if_pos hi]
  · rw [if_neg hi, getD_out N i (by omega)]⟩
theorem cOk_of {N : List Nat} (h : cntA (iN N) = ((mN N : Int), 0)) : cOk N N.length = true := by
  unfold cntA at h
  rw [iN_nats] at h
  split at h
  · split at h
    · assumption
    · exact absurd (show _ = (0 : Int) from congrArg Prod.snd h) (by simp)
  · exact absurd (show _ = (0 : Int) from congrArg Prod.snd h) (by simp)
/-- what a mix with a first pick is -/
theorem mx_tail {N : List Nat} {n h : Nat} {T : List Nat} (m : Mx N n (h :: T)) : h < N.length ∧ 1 ≤ N.getD h 0 ∧ bS N h ≤ n ∧ Mx (less N h) (n - bS N h) T := ⟨m.1, m.2.1, m.2.2.1, m.2.2.2.1⟩
theorem mx_nil {N : List Nat} {n : Nat} (m : Mx N n []) : n = 0 := m.2
end Go.Proofs.Ytaiccmbhdgecgaa

namespace Go.Proofs.Ytaiccmbhdgecgaa
open Go.RowKit
set_option maxRecDepth 100000
attribute [local go_sem ↓] mki_op

/-- between two picks of Rank -/
structure RP (n : Nat) (B : Nat) (w1 wx : World) (rb g : Nat) (T N' : List Nat) (n' r : Nat) : Prop where
  nx : NX wx rb g 16 16 N'
  mx : Mx N' n' T
  sum : r + n' = n
  tt : tN2 N' ≤ 24
  mm : mN N' ≤ 4611686018427387904
  be : Below B w1 wx
set_option maxHeartbeats 4000000 in
theorem rankX (v : Value) (L N : List Nat) (n : Nat) (w : World) (hr : RI w v (iN L)) (hx : Mx N n L) (h0 : 1 ≤ N.length) (hl : N.length ≤ 16) (hs : tN2 N ≤ 24) (hm : mN N ≤ 4611686018427387904) (hc : cntA (iN N) = ((mN N : Int), 0)) (hn : n < mN N) :
    Calls Try.prog 12 #[v] w fun e w' => e = .returned (.tuple #[.int .i64 (n : Int), .int .i64 0]) ∧ Below w.heap.size w w' := by
  have hin : ∀ x ∈ L, x < 16 := fun x h => Nat.lt_of_lt_of_le (mx_in hx x h) hl
  have hLl := mx_len hx hs
  have HAb := hid (areBelow_any v (iN L) 16 w hr (by rw [iN_len]; omega))
  rw [show inB (iN L) 16 = true from (inB_iff _ _).2 (fun i h => by rw [iN_len] at h; rw [iN_at L i _ h]; have := hin L[i] (List.getElem_mem _); omega)] at HAb
  have hp := pad16 hx hl
  have HCnt := hid (hp.cnt (by rw [C16_len]; omega) h0 hs (cOk_of hc) hm)
  have HMx := hid (mx_pad hx _ hp)
  have HT := hid (show tN2 (C16 L) = L.length by rw [hp.t, hLl])
  have HMm := hid hp.m
  have HcR := hid (cR_is L hin)
  have HIn := hid hin
  have HN := hid (And.intro hm hn)
  obtain ⟨ao, cap, rfl, hcc, hn0, hcell⟩ := hr
  rw [iN_len] at hcc
  have HC := hid (show ∀ j (hj : j < L.length), ∃ g off, ao = some ⟨g, off, none⟩ ∧ w.cell? ⟨g, off + j, none⟩ = some (.int .i64 ((L[j] : Nat) : Int)) from fun j hj => by
    obtain ⟨g, off, e, c⟩ := hcell j (by rw [iN_len]; exact hj)
    rw [iN_at L j _ hj] at c
    exact ⟨g, off, e, c⟩)
  have hm16 : ∀ w : World, (mkI (.int .i64 16) (.int .i64 16)).run Try.prog w = .ok (.slice (some ⟨w.heap.size, 0, none⟩) 16 16) (w.alloc (.cells (ic (List.replicate 16 0)).toArray 3)) := run_mkI 16 (by omega)
  obtain ⟨Z, hZ⟩ : ∃ Z, (ic (List.replicate 16 0)).toArray = Z := ⟨_, rfl⟩
  rw [hZ] at hm16
  have HZ := hid hZ
  rw [iN_len] at HAb ⊢
  have hL24 : L.length ≤ 24 := by omega
  have hL24I : ¬ (24 : Int) < (L.length : Int) := by omega
  have hmI : (mN N : Int) ≤ 4611686018427387904 := Int.ofNat_le.2 hm
  clear hcell hn0 hZ hx hin hp hc hn hm h0 hl hLl
  obtain ⟨MM, hMM⟩ : ∃ MM, mN N = MM := ⟨_, rfl⟩
  rw [hMM] at HCnt hmI HMm
  have HMM := hid hMM
  clear hMM
  go_enter Try.func12, Try.ntmps12
  go_wp2_with fail
  refine Calls.mono HAb.out ?_
  rintro e w1 ⟨rfl, rfl⟩
  clear HAb
  go_wp2_with fail
  obtain ⟨W, hW⟩ : ∃ W, w1.alloc (.cells Z 3) = W := ⟨_, rfl⟩
  rw [hW]
  have HB := hid (show Below w1.heap.size w1 W by rw [← hW]; exact (Below.refl _ _).alloc (Nat.le_refl _) _)
  have HRo := hid (show RowI W w1.heap.size (cR L 0) by rw [← hW, ← HZ.out]; exact heap_alloc_new w1 _)
  clear hW hm16 HZ
  generalize hgg : w1.heap.size = g at *
  go_loopw [6, 25] (fun _ vi wx => ∃ j : Nat, j ≤ L.length ∧ vi = .int .i64 (j : Int) ∧ RowI wx g (cR L j) ∧ Below g w1 wx) (fun _ vi _ => L.length - (intOf vi).toNat)
  case atStart => exact ⟨0, Nat.zero_le _, rfl, HRo.out, HB.out⟩
  case round =>
    obtain ⟨j, hj, rfl, hro, hB⟩ := hrel
    have HRo := hid hro
    have HB := hid hB
    clear hro hB
    by_cases h : j < L.length
    · have hI : (j : Int) < (L.length : Int) := by omega
      obtain ⟨g', off, e, c⟩ := HC.out j h
      subst e
      have c0 := below_cells (hgg ▸ HB.out) _ _ c
      have hx := HIn.out L[j] (List.getElem_mem _)
      have HS := hid (show cR L (j + 1) = (cR L j).set L[j] ((cR L j).getD L[j] 0 + 1) by rw [← gN L j h]; rfl)
      have hy := cR_le L j L[j]
      have k0 := HRo.out.cell L[j] (by rw [cR_len]; exact hx)
      have k1 := HRo.out.frozen L[j]
      have HPu := hid (HRo.out.put L[j] ((cR L j).getD L[j] 0 + 1))
      have HB2 := hid (show Below g w1 (wr.setCell ⟨g, L[j], none⟩ (.int .i64 ((cR L j).getD L[j] 0 + 1))) from HB.out.setCell (Nat.le_refl _) _)
      rw [← HS.out] at HPu
      clear c
      generalize (cR L j).getD L[j] 0 = y at *
      generalize L[j] = x at *
      have hxI : (x : Int) < 16 := by omega
      have hyI : y ≤ 24 := by omega
      go_wp2
      go_roundw
      case rel => exact ⟨j + 1, by omega, by go_num, HPu.out, HB2.out⟩
      case measure => simp [intOf]; omega
    · have hI : ¬ (j : Int) < (L.length : Int) := by omega
      obtain rfl : j = L.length := by omega
      have HRo2 := hid (show RowI wr g (iN (C16 L)) by have := HRo.out; rw [HcR.out _ (Nat.le_refl _), List.take_length] at this; exact this)
      have HCo := hid (show Calls Try.prog 9 #[.slice (some ⟨g, 0, none⟩) 16 16] wr fun e w' => e = .returned (.tuple #[.int .i64 (MM : Int), .int .i64 0]) ∧ w' = wr by
        have h1 := HRo2.out.reads
        rw [iN_len, C16_len] at h1
        have := countR_any _ (iN (C16 L)) wr h1 (by rw [iN_len, C16_len]; decide)
        rw [HCnt.out] at this
        exact this)
      have hgs := HRo.out.lt
      go_wp2_with fail
      refine Calls.mono HCo.out ?_
      rintro e w3 ⟨rfl, rfl⟩
      clear HCo
      go_wp2_with fail
      obtain ⟨W2, hW2⟩ : ∃ W2, w3.alloc (.cells #[.slice (some ⟨g, 0, none⟩) 16 16, .int .i64 (L.length : Int), .int .i64 (MM : Int)] 63) = W2 := ⟨_, rfl⟩
      rw [hW2]
      have HNX := hid (show NX W2 w3.heap.size g 16 16 (C16 L) from ⟨C16_len L, _, ⟨by rw [← hW2, HT.out, HMm.out]; exact heap_alloc_new w3 _, by rw [← hW2]; exact (((Below.refl w3.heap.size w3).alloc (Nat.le_refl _) _).block g hgs).trans HRo2.out⟩, fun i hi => by
        have e1 := HRo2.out.cell i (by rw [iN_len, C16_len]; exact hi)
        rw [iN_getD] at e1
        rw [cell_of_row w3 g i _ _ _ HRo2.out] at e1
        simpa using e1⟩)
      have HB3 := hid (show Below g w1 W2 by rw [← hW2]; exact HB.out.alloc (by omega) _)
      clear hW2 HB HRo
      generalize w3.heap.size = rb at *
      have hgr : g ≠ rb := by omega
      have HP0 := hid (show RP n g w1 W2 rb g L (C16 L) n 0 from ⟨HNX.out, HMx.out, by omega, by rw [HT.out]; exact hL24, by rw [HMm.out]; omega, HB3.out⟩)
      have hnI : (n : Int) ≤ 4611686018427387904 := by have := HN.out; omega
      clear HNX HB3 HMx HT HMm HMM HN HCnt HRo2
      go_loopw [10, 12, 13, 51, 55, 56] (fun vr _ _ vi _ _ wx => ∃ (k r n' : Nat) (N' : List Nat), k ≤ L.length ∧ vi = .int .i64 (k : Int) ∧ vr = .int .i64 (r : Int) ∧ RP n g w1 wx rb g (L.drop k) N' n' r) (fun _ _ _ vi _ _ _ => L.length - (intOf vi).toNat)
      case atStart => exact ⟨0, 0, n, _, Nat.zero_le _, rfl, rfl, HP0.out⟩
      case round =>
        obtain ⟨k, r, n', N', hk, rfl, rfl, hp⟩ := hrel
        have HP := hid hp
        clear hp HP0
        by_cases hkl : k < L.length
        · have hkI : (k : Int) < (L.length : Int) := by omega
          obtain ⟨g', off, e, c⟩ := HC.out k hkl
          subst e
          have c0 := below_cells (hgg ▸ HP.out.be) _ _ c
          have HX := hid (show RP n g w1 wr rb g (L[k] :: L.drop (k + 1)) N' n' r by rw [← List.drop_eq_getElem_cons hkl]; exact HP.out)
          have hx := HIn.out L[k] (List.getElem_mem _)
          clear c HP
          generalize L[k] = p at *
          obtain ⟨t1, t2, t3, t4⟩ := mx_tail HX.out.mx
          have H1 := hid t1
          have H2 := hid t2
          have H3 := hid t3
          have H4 := hid t4
          have HS1 := hid (show 1 ≤ tN2 N' by have := getD_le N' p H1.out; have := H2.out; omega)
          have hpI : (p : Int) < 16 := by omega
          have hSn := HX.out.sum
          clear t1 t2 t3 t4
          obtain ⟨wo, hwo⟩ : ∃ wo, wo = wr := ⟨_, rfl⟩
          subst hwo
          go_wp2_with fail
          go_loopw [10, 13, 56] (fun vr _ vh wx => ∃ h q : Nat, h ≤ p ∧ vr = .int .i64 ((r + bS N' h : Nat) : Int) ∧ vh = .int .i64 (h : Int) ∧ wx = wo.drewN q) (fun _ _ vh _ => p - (intOf vh).toNat)
          case atStart => exact ⟨0, 0, by omega, rfl, rfl, rfl⟩
          case round =>
            obtain ⟨h, q, hh, rfl, rfl, rfl⟩ := hrel
            by_cases hlt : h < p
            · have hlI : (h : Int) < (p : Int) := by omega
              have HB1 := hid ((HX.out.nx.drewN q).beg h (by omega) HS1.out HX.out.tt HX.out.mm)
              have hle := bS_mono N' (show h + 1 ≤ p from hlt)
              have he : bS N' (h + 1) = bS N' h + bg N' h := rfl
              have h3 := H3.out
              have HE := hid he
              obtain ⟨x, hx2⟩ : ∃ x, r + bS N' h = x := ⟨_, rfl⟩
              obtain ⟨b, hb2⟩ : ∃ b, bg N' h = b := ⟨_, rfl⟩
              have HX2 := hid hx2
              have HB2 := hid hb2
              rw [hb2] at HB1
              rw [hx2]
              have hxb : (x : Int) + (b : Int) ≤ 4611686018427387904 := by omega
              clear hle he h3 hx2 hb2 hlt
              go_wp2_with fail
              refine Calls.mono HB1.out ?_
              rintro e w5 ⟨rfl, n5, rfl⟩
              clear HB1
              go_wp2
              go_roundw
              case rel =>
                refine ⟨h + 1, q + n5, by omega, ?_, by go_num, by first | rfl | (simp only [World.drewN_drewN])⟩
                have := HE.out
                have := HX2.out
                have := HB2.out
                rw [show ((r + bS N' (h + 1) : Nat) : Int) = (x : Int) + (b : Int) by omega]
              case measure => simp [intOf]; omega
            · have hlI : ¬ (h : Int) < (p : Int) := by omega
              obtain rfl : h = p := by omega
              have HTk := hid ((HX.out.nx.drewN q).take hgr h (by omega) HS1.out HX.out.tt HX.out.mm H2.out)
              obtain ⟨wp, hwp⟩ : ∃ wp, wo.drewN q = wp := ⟨_, rfl⟩
              have HBp := hid (show Below g w1 wp by rw [← hwp]; exact below_drewN HX.out.be q)
              rw [hwp] at HTk ⊢
              clear hwp hlt
              go_wp2_with fail
              refine Calls.mono HTk.out ?_
              rintro e w6 ⟨rfl, hn6, ho6⟩
              have HN6 := hid hn6
              have HB6 := hid (HBp.out.trans (ho6.below (by omega) (Nat.le_refl _)))
              clear hn6 ho6 HTk HBp
              go_wp2
              go_roundw
              case rel =>
                have hp2 := HX.out.tt
                have ht := (mN_less N' h H1.out H2.out hp2).2
                have h3 := H3.out
                exact ⟨k + 1, r + bS N' h, n' - bS N' h, less N' h, by omega, by go_num, rfl, ⟨HN6.out, H4.out, by omega, by omega, Nat.le_trans (mN_less_le N' h H1.out HS1.out hp2 H2.out) HX.out.mm, HB6.out⟩⟩
              case measure => simp [intOf]; omega
        · have hkI : ¬ (k : Int) < (L.length : Int) := by omega
          obtain rfl : k = L.length := by omega
          have h0 : n' = 0 := by
            have := HP.out.mx
            rw [List.drop_length] at this
            exact mx_nil this
          have hrn : r = n := by have := HP.out.sum; omega
          subst hrn
          go_wp2
          go_ret2
          exact ⟨rfl, hgg ▸ HP.out.be⟩
end Go.Proofs.Ytaiccmbhdgecgaa

namespace Go.Proofs.Ytaiccmbhdgecgaa
open Go.RowKit
set_option maxRecDepth 100000

theorem mx_of : ∀ (L : List Nat) (N : List Nat), (∀ i, L.count i = N.getD i 0) → (∀ x ∈ L, x < N.length) → tN2 N ≤ 24 → ∃ n, Mx N n L ∧ n < mN N
  | [], N, hc, _, hs => by
    have hz : ∀ j, sN N j = 0 := by
      intro j
      induction j with
      | zero => rfl
      | succ j ih => show sN N j + N.getD j 0 = 0; rw [ih, ← hc j]; rfl
    exact ⟨0, ⟨hz _, rfl⟩, mN_pos N hs⟩
  | h :: T, N, hc, hin, hs => by
    have hh := hin h (by simp)
    have h1 : 1 ≤ N.getD h 0 := by rw [← hc h]; simp
    have hp : 1 ≤ tN2 N := by have := getD_le N h hh; omega
    obtain ⟨n, hn, hlt⟩ := mx_of T (less N h) (fun i => by
      rw [less_at N h i hh]
      have := hc i
      rw [List.count_cons] at this
      by_cases e : i = h
      · subst e
        rw [if_pos rfl]
        rw [if_pos (by simp)] at this
        omega
      · rw [if_neg e]
        rw [if_neg (by simpa using fun e2 => e e2.symm)] at this
        omega) (fun x hx => by rw [less_len]; exact hin x (by simp [hx])) (by have := (mN_less N h hh h1 hs).2; omega)
    have hb := (bg_mul N h hh hs hp).2.2 h1
    have e1 : bS N (h + 1) = bS N h + bg N h := rfl
    have hall := bS_all N hs hp
    have hm := bS_mono N (show h + 1 ≤ N.length from hh)
    refine ⟨bS N h + n, ⟨hh, h1, Nat.le_add_right _ _, ?_, by omega⟩, by omega⟩
    rw [Nat.add_sub_cancel_left]
    exact hn
theorem mx_same : ∀ (L : List Nat) (N : List Nat) (n : Nat) (M : List Nat), Mx N n L → Mx N n M → L = M
  | [], N, n, [], _, _ => rfl
  | [], N, n, k :: M, a, b => by
    have h1 := a.1
    have h2 := getD_le N k b.1
    have h3 := b.2.1
    omega
  | p :: L, N, n, [], a, b => by
    have h1 := b.1
    have h2 := getD_le N p a.1
    have h3 := a.2.1
    omega
  | p :: L, N, n, k :: M, a, b => by
    obtain ⟨a1, a2, a3, a4, a5⟩ := a
    obtain ⟨b1, b2, b3, b4, b5⟩ := b
    have hpk : p = k := by
      rcases Nat.lt_trichotomy p k with hc | hc | hc
      · have := bS_mono N (show p + 1 ≤ k from hc)
        omega
      · exact hc
      · have := bS_mono N (show k + 1 ≤ p from hc)
        omega
    subst hpk
    rw [mx_same L (less N p) (n - bS N p) M a4 b4]
theorem mx_num : ∀ (L : List Nat) (N : List Nat) (n m : Nat), Mx N n L → Mx N m L → n = m
  | [], N, n, m, a, b => by rw [a.2, b.2]
  | p :: L, N, n, m, a, b => by
    obtain ⟨a1, a2, a3, a4, a5⟩ := a
    obtain ⟨b1, b2, b3, b4, b5⟩ := b
    have := mx_num L (less N p) _ _ a4 b4
    omega
/-- the counts of a list, for numbers below 16 -/
def CtOf (L N : List Nat) : Prop := (∀ i, N.getD i 0 = L.count i) ∧ N.length ≤ 16 ∧ ∀ x ∈ L, x < N.length
theorem ctof16 (L : List Nat) (h : ∀ x ∈ L, x < 16) : CtOf L (C16 L) := ⟨fun i => by
  rw [C16_at]
  by_cases hi : i < 16
  · rw [if_pos hi]
  · rw [if_neg hi]
    exact (List.count_eq_zero.2 (fun hm => hi (h i hm))).symm, by rw [C16_len]; decide, fun x hx => by rw [C16_len]; exact h x hx⟩
theorem sum_count (L : List Nat) : ∀ (N : List Nat), (∀ i, N.getD i 0 = L.count i) → (∀ x ∈ L, x < N.length) → tN2 N = L.length := by
  induction L with
  | nil =>
    intro N hc _
    have hz : ∀ j, sN N j = 0 := by
      intro j
      induction j with
      | zero => rfl
      | succ j ih => show sN N j + N.getD j 0 = 0; rw [ih, hc j]; rfl
    exact hz _
  | cons h T ih =>
    intro N hc hin
    have hh := hin h (by simp)
    have h1 : 1 ≤ N.getD h 0 := by rw [hc h]; simp
    have hl := less_sN N h hh h1 N.length
    rw [if_pos hh] at hl
    have h9 := ih (less N h) (fun i => by
      rw [less_at N h i hh]
      have := hc i
      rw [List.count_cons] at this
      by_cases e : i = h
      · subst e
        rw [if_pos rfl]
        rw [if_pos (by simp)] at this
        omega
      · rw [if_neg e]
        rw [if_neg (by simpa using fun e2 => e e2.symm)] at this
        omega) (fun x hx => by rw [less_len]; exact hin x (by simp [hx]))
    unfold tN2 at h9 ⊢
    rw [less_len] at h9
    rw [List.length_cons]
    omega
theorem CtOf.pad {L N : List Nat} (h : CtOf L N) (h16 : ∀ x ∈ L, x < 16) : Pad N (C16 L) := ⟨by rw [C16_len]; exact h.2.1, fun i => by rw [(ctof16 L h16).1 i, h.1 i]⟩
theorem CtOf.t {L N : List Nat} (h : CtOf L N) : tN2 N = L.length := sum_count L N h.1 h.2.2
/-- what Rank answers -/
def RkA (R : List Int) (e : Ending) : Prop :=
  ((¬ inB R 16 = true ∨ 24 < R.length) ∧ e = .returned (.tuple #[.int .i64 0, .int .i64 2])) ∨
  (∃ L, R = iN L ∧ (∀ x ∈ L, x < 16) ∧ L.length ≤ 24 ∧ 4611686018427387904 < mN (C16 L) ∧ e = .returned (.tuple #[.int .i64 0, .int .i64 26])) ∨
  (∃ L n, R = iN L ∧ (∀ x ∈ L, x < 16) ∧ L.length ≤ 24 ∧ mN (C16 L) ≤ 4611686018427387904 ∧ Mx (C16 L) n L ∧ e = .returned (.tuple #[.int .i64 (n : Int), .int .i64 0]))
theorem RkA.same {R : List Int} {e f : Ending} (h : RkA R e) (k : RkA R f) : e = f := by
  have i1 : ∀ {L M : List Nat}, iN L = iN M → L = M := by
    intro L M h
    have := congrArg nats h
    rwa [iN_nats, iN_nats] at this
  have bad : ∀ {L : List Nat}, R = iN L → (∀ x ∈ L, x < 16) → L.length ≤ 24 → (¬ inB R 16 = true ∨ 24 < R.length) → False := by
    intro L e hx hl hb
    subst e
    rw [iN_len] at hb
    rcases hb with hb | hb
    · exact hb ((inB_iff _ _).2 (fun i hi => by rw [iN_at L i hi (by rw [iN_len] at hi; exact hi)]; have := hx _ (List.getElem_mem (by rw [iN_len] at hi; exact hi)); omega))
    · omega
  rcases h with ⟨h1, rfl⟩ | ⟨L, h1, h2, h3, h4, rfl⟩ | ⟨L, n, h1, h2, h3, h4, h5, rfl⟩ <;> rcases k with ⟨k1, rfl⟩ | ⟨M, k1, k2, k3, k4, rfl⟩ | ⟨M, m, k1, k2, k3, k4, k5, rfl⟩
  · rfl
  · exact (bad k1 k2 k3 h1).elim
  · exact (bad k1 k2 k3 h1).elim
  · exact (bad h1 h2 h3 k1).elim
  · rfl
  · obtain rfl := i1 (h1.symm.trans k1)
    omega
  · exact (bad h1 h2 h3 k1).elim
  · obtain rfl := i1 (h1.symm.trans k1)
    omega
  · obtain rfl := i1 (h1.symm.trans k1)
    rw [mx_num _ _ _ _ h5 k5]
theorem nat_list {R : List Int} (h : inB R 16 = true) : ∃ L, R = iN L ∧ ∀ x ∈ L, x < 16 := by
  refine ⟨nats R, ?_, ?_⟩
  · apply List.ext_getElem
    · rw [iN_len]; simp [nats]
    · intro i h1 h2
      have := (inB_iff R 16).1 h i h1
      rw [iN_at _ i h2 (by rw [iN_len] at h2; exact h2)]
      simp only [nats, List.getElem_map]
      omega
  · intro x hx
    unfold nats at hx
    rw [List.mem_map] at hx
    obtain ⟨y, hy, rfl⟩ := hx
    obtain ⟨i, hi, rfl⟩ := List.getElem_of_mem hy
    have := (inB_iff R 16).1 h i hi
    omega
def SoA (L : List Nat) (w w' : World) (e : Ending) : Prop := ∃ v' N, e = .returned v' ∧ OI w' w.heap.size v' (iN N) ∧ CtOf L N
theorem ctof_up {L M : List Nat} {x : Nat} (hc : ∀ i, M.getD i 0 = L.count i) (h16 : M.length ≤ 16) (hin : ∀ y ∈ L, y < M.length) (hx : x < M.length) : CtOf (L ++ [x]) (M.set x (M.getD x 0 + 1)) := by
  refine ⟨fun i => ?_, by rw [List.length_set]; exact h16, fun y hy => ?_⟩
  · rw [List.count_append, List.count_singleton, ← hc i, List.getD_eq_getElem?_getD, List.getElem?_set]
    by_cases e : x = i
    · subst e
      simp [hx]
    · rw [if_neg e, ← List.getD_eq_getElem?_getD]
      simp [e]
  · rw [List.length_set]
    rcases List.mem_append.1 hy with hy | hy
    · exact hin y hy
    · rw [List.mem_singleton.1 hy]; exact hx
theorem getD_app0 (M : List Nat) (i : Nat) : (M ++ [0]).getD i 0 = M.getD i 0 := by
  rw [List.getD_eq_getElem?_getD, List.getElem?_append]
  split
  · rw [← List.getD_eq_getElem?_getD]
  · rw [List.getD_eq_getElem?_getD, List.getElem?_eq_none (l := M) (by omega)]
    cases h : ([0] : List Nat)[i - M.length]? with
    | none => rfl
    | some y =>
      have := List.mem_of_getElem? h
      rw [List.mem_singleton.1 this]
      rfl
theorem cell_ltB {w : World} {p : Addr} {u : Value} (h : w.cell? p = some u) : p.block < w.heap.size := by
  rcases Nat.lt_or_ge p.block w.heap.size with c | c
  · exact c
  · have : w.heap[p.block]? = none := Array.getElem?_eq_none c
    simp [World.cell?, this] at h
set_option maxHeartbeats 2000000 in
theorem stepsOf_any (v : Value) (L : List Nat) (w : World) (hr : RI w v (iN L)) (hx : ∀ x ∈ L, x < 16) (hl : L.length ≤ 24) :
    Calls Try.prog 54 #[v] w fun e w' => SoA L w w' e ∧ Below w.heap.size w w' := by
  obtain ⟨ao, cap, rfl, hcc, hn0, hcell⟩ := hr
  rw [iN_len] at hcc
  have HC := hid (show ∀ j (hj : j < L.length), ∃ g off, ao = some ⟨g, off, none⟩ ∧ w.cell? ⟨g, off + j, none⟩ = some (.int .i64 ((L[j] : Nat) : Int)) from fun j hj => by
    obtain ⟨g, off, e, c⟩ := hcell j (by rw [iN_len]; exact hj)
    rw [iN_at L j _ hj] at c
    exact ⟨g, off, e, c⟩)
  rw [iN_len]
  have HX := hid hx
  clear hcell hn0 hx
  go_enter Try.func54, Try.ntmps54
  go_wp2_with fail
  go_loopw [3, 4] (fun vs vi wx => ∃ (i : Nat) (M : List Nat), i ≤ L.length ∧ vi = .int .i64 (i : Int) ∧ OI wx w.heap.size vs (iN M) ∧ CtOf (L.take i) M ∧ Below w.heap.size w wx) (fun _ vi _ => L.length - (intOf vi).toNat)
  case atStart => exact ⟨0, [], Nat.zero_le _, rfl, OI.nil _ _, ⟨fun i => rfl, by simp, by simp⟩, Below.refl _ _⟩
  case round =>
    obtain ⟨i, M, hi, rfl, ho, hct, hB⟩ := hrel
    have HO := hid ho
    have HCt := hid hct
    have HB := hid hB
    clear ho hct hB
    by_cases h : i < L.length
    · have hI : (i : Int) < (L.length : Int) := by omega
      obtain ⟨g, off, e, c⟩ := HC.out i h
      subst e
      have HC0 := hid c
      have hx := HX.out L[i] (List.getElem_mem _)
      have HT := hid (show L.take (i + 1) = L.take i ++ [L[i]] by rw [List.take_add_one, List.getElem?_eq_getElem h]; rfl)
      clear c
      generalize L[i] = x at *
      have hxI : (x : Int) < 16 := by omega
      obtain ⟨wo, hwo⟩ : ∃ wo, wo = wr := ⟨_, rfl⟩
      subst hwo
      go_wp2_with fail
      go_loopw [3] (fun vs wx => ∃ M : List Nat, OI wx w.heap.size vs (iN M) ∧ (∀ i', M.getD i' 0 = (L.take i).count i') ∧ M.length ≤ 16 ∧ (∀ x ∈ L.take i, x < M.length) ∧ Below w.heap.size w wx) (fun vs _ => 16 - slen vs)
      case atStart => exact ⟨M, HO.out, HCt.out.1, HCt.out.2.1, HCt.out.2.2, HB.out⟩
      case round =>
        obtain ⟨M', ho, hc1, hc2, hc3, hB⟩ := hrel
        have HO2 := hid ho
        have HC1 := hid hc1
        have HC3 := hid hc3
        have HB2 := hid hB
        have hsz := hB.size
        have c0 := below_cells hB _ _ HC0.out
        obtain ⟨a9, c9, hv9⟩ := ho.reads.len0
        rw [iN_len] at hv9
        subst hv9
        clear ho hc1 hc3 hB
        by_cases hle : M'.length ≤ x
        · have hleI : (M'.length : Int) ≤ (x : Int) := by omega
          go_wp2_with (at_builtin; refine wpList_appI rfl _ _ rfl w.heap.size _ (iN M') rfl (HO2.out.alloc _) _ [(0 : Int)] rfl (ri_one _ _) (by simp [iN_len]; omega) (by simp; omega) ?hnext)
          case hnext =>
            intro v7 w7 ho7 hg7
            have HO7 := hid (show OI w7 w.heap.size v7 (iN (M' ++ [0])) by rw [show iN (M' ++ [0]) = iN M' ++ [(0 : Int)] by simp [iN]]; exact ho7)
            have hsl : slen v7 = M'.length + 1 := by
              obtain ⟨ao8, c8, e8⟩ := HO7.out.reads.len0
              rw [e8, iN_len, List.length_append]
              rfl
            have HB7 := hid ((HB2.out.alloc hsz (.cells #[.int .i64 0] 3)).grown hg7 (by simp; omega) (fun k' hk' => HO2.out.block_ge k' hk'))
            clear ho7 hg7
            go_wp2
            go_roundw
            case rel => exact ⟨M' ++ [0], HO7.out, fun i' => by rw [getD_app0]; exact HC1.out i', by rw [List.length_append, List.length_singleton]; omega, fun y hy => by rw [List.length_append]; have := HC3.out y hy; omega, HB7.out⟩
            case measure => rw [hsl]; show _ < 16 - M'.length; omega
        · have hleI : ¬ (M'.length : Int) ≤ (x : Int) := by omega
          have hxM : x < M'.length := by omega
          have hxMI : (x : Int) < (M'.length : Int) := by omega
          obtain ⟨gm, cm, hvm, hcm, hmm, hcl⟩ := HO2.out.form (by rw [iN_len]; omega)
          rw [iN_len] at hvm
          injection hvm with e1 e2 e3
          subst e1 e3
          have k0 := hcl x (by rw [iN_len]; exact hxM)
          rw [iN_at M' x _ hxM, ← gN M' x hxM] at k0
          have f0 := HO2.out.own x
          have hgb : w.heap.size ≤ gm := HO2.out.block_ge gm rfl
          have hy16 : M'.getD x 0 ≤ 24 := by
            rw [HC1.out x]
            exact Nat.le_trans List.count_le_length (by rw [List.length_take]; omega)
          have HO9 := hid (show OI (wr.setCell ⟨gm, x, none⟩ (.int .i64 (((M'.getD x 0 : Nat) : Int) + 1))) w.heap.size (.slice (some ⟨gm, 0, none⟩) M'.length c9) (iN (M'.set x (M'.getD x 0 + 1))) by
            have := HO2.out.set (i := x) (((M'.getD x 0 : Nat) : Int) + 1)
            rw [show ((M'.getD x 0 : Nat) : Int) + 1 = ((M'.getD x 0 + 1 : Nat) : Int) by omega, iN_set] at this
            rw [show ((M'.getD x 0 : Nat) : Int) + 1 = ((M'.getD x 0 + 1 : Nat) : Int) by omega]
            exact this)
          have HB9 := hid (HB2.out.setCell (p := ⟨gm, x, none⟩) hgb (.int .i64 (((M'.getD x 0 : Nat) : Int) + 1)))
          have HCt9 := hid (show CtOf (L.take (i + 1)) (M'.set x (M'.getD x 0 + 1)) by rw [HT.out]; exact ctof_up HC1.out hc2 HC3.out hxM)
          have hne : ¬ g = gm := by
            have : g < w.heap.size := cell_ltB HC0.out
            omega
          clear hcl hle e2
          generalize M'.getD x 0 = y at *
          go_wp2
          go_roundw
          case rel => exact ⟨i + 1, _, by omega, by go_num, HO9.out, HCt9.out, HB9.out⟩
          case measure => simp [intOf]; omega
    · have hI : ¬ (i : Int) < (L.length : Int) := by omega
      obtain rfl : i = L.length := by omega
      have HC2 := hid (show CtOf L M by have := HCt.out; rwa [List.take_length] at this)
      go_wp2
      go_ret
      exact ⟨⟨_, M, rfl, HO.out, HC2.out⟩, HB.out⟩
end Go.Proofs.Ytaiccmbhdgecgaa

namespace Go.Proofs.Ytaiccmbhdgecgaa
set_option maxRecDepth 100000

/-- what is spared behind a pick of h -/
def spr (N : List Nat) (last sp : Int) (h : Nat) : Int := if asd (iN N) last h then sp - 1 else sp
/-- may h be picked -/
def may (N : List Nat) (last sp : Int) (h : Nat) : Bool := !decide (N.getD h 0 = 0) && !decide (spr N last sp h < 0)
/-- the mixes of what is left, behind a pick of last, with at most sp switches; s: how many steps are left -/
def FL : Nat → List Nat → Int → Int → List (List Nat)
  | 0, _, _, _ => [[]]
  | s + 1, N, last, sp => (List.range N.length).flatMap fun h => if may N last sp h then (FL s (less N h) (h : Int) (spr N last sp h)).map (h :: ·) else []
/-- those that begin with one of the first handlers -/
def FP (s : Nat) (N : List Nat) (last sp : Int) (h : Nat) : List (List Nat) := (List.range h).flatMap fun h => if may N last sp h then (FL s (less N h) (h : Int) (spr N last sp h)).map (h :: ·) else []
theorem FP_zero (s : Nat) (N : List Nat) (last sp : Int) : FP s N last sp 0 = [] := rfl
theorem FP_up (s : Nat) (N : List Nat) (last sp : Int) (h : Nat) : FP s N last sp (h + 1) = FP s N last sp h ++ (if may N last sp h then (FL s (less N h) (h : Int) (spr N last sp h)).map (h :: ·) else []) := by
  unfold FP
  rw [List.range_succ, List.flatMap_append]
  simp
theorem FP_all (s : Nat) (N : List Nat) (last sp : Int) : FP s N last sp N.length = FL (s + 1) N last sp := rfl
theorem FP_skip (s : Nat) (N : List Nat) (last sp : Int) (h : Nat) (hm : may N last sp h = false) : FP s N last sp (h + 1) = FP s N last sp h := by
  rw [FP_up, hm]
  simp
theorem FP_go (s : Nat) (N : List Nat) (last sp : Int) (h : Nat) (hm : may N last sp h = true) : FP s N last sp (h + 1) = FP s N last sp h ++ (FL s (less N h) (h : Int) (spr N last sp h)).map (h :: ·) := by
  rw [FP_up, hm]
  simp
/-- the first ones are a beginning of them all -/
theorem FP_pre (s : Nat) (N : List Nat) (last sp : Int) : ∀ {i j : Nat}, i ≤ j → ∃ T, FP s N last sp j = FP s N last sp i ++ T := by
  intro i j h
  induction h with
  | refl => exact ⟨[], by simp⟩
  | step _ ih =>
    obtain ⟨T, hT⟩ := ih
    exact ⟨_, by rw [FP_up, hT, List.append_assoc]⟩
/-- a list stands in another from a place on, each behind P -/
def Stnd (G : List (List Nat)) (k : Nat) (P : List Nat) (F : List (List Nat)) : Prop := ∀ i x, F[i]? = some x → G[k + i]? = some (P ++ x)
end Go.Proofs.Ytaiccmbhdgecgaa
