/-
  A mix: its counts; steps with noughts behind them (pure).
-/
import Derived.Test.YtaiccmbhdgecgaaMn5
namespace Go.Proofs.Ytaiccmbhdgecgaa
set_option maxRecDepth 100000

theorem mx_count {N : List Nat} {n : Nat} {L : List Nat} (h : Mx N n L) : ∀ i, L.count i = N.getD i 0 := by
  refine Mx.on (P := fun N n L => ∀ i, L.count i = N.getD i 0) ?_ ?_ L N n h
  · intro N h i
    rw [List.count_nil]
    by_cases hi : i < N.length
    · have := getD_le N i hi
      omega
    · rw [List.getD_eq_getElem?_getD, List.getElem?_eq_none (by omega)]
      rfl
  · intro N n h L hh h1 hn ht h2 ih i
    rw [List.count_cons, ih i, less_at N h i hh]
    by_cases e : i = h
    · subst e
      rw [if_pos rfl, if_pos (by simp)]
      omega
    · rw [if_neg e, if_neg (by simpa using fun e2 => e e2.symm)]
      omega
theorem mx_in {N : List Nat} {n : Nat} {L : List Nat} (h : Mx N n L) : ∀ x ∈ L, x < N.length := by
  refine Mx.on (P := fun N n L => ∀ x ∈ L, x < N.length) ?_ ?_ L N n h
  · intro N h x hx; cases hx
  · intro N n h L hh h1 hn ht h2 ih x hx
    rcases List.mem_cons.1 hx with rfl | hx
    · exact hh
    · have := ih x hx
      rw [less_len] at this
      exact this
theorem mx_len {N : List Nat} {n : Nat} {L : List Nat} (h : Mx N n L) (hs : tN2 N ≤ 24) : L.length = tN2 N := by
  revert hs
  refine Mx.on (P := fun N n L => tN2 N ≤ 24 → L.length = tN2 N) ?_ ?_ L N n h
  · intro N h _; rw [h]; rfl
  · intro N n h L hh h1 hn ht h2 ih hs
    have := (mN_less N h hh h1 hs).2
    rw [List.length_cons, ih (by omega)]
    exact this
theorem sN_eq {N N' : List Nat} (h : ∀ i, N'.getD i 0 = N.getD i 0) : ∀ j, sN N' j = sN N j
  | 0 => rfl
  | j + 1 => by show sN N' j + _ = sN N j + _; rw [sN_eq h j, h j]
theorem cN_eq {N N' : List Nat} (h : ∀ i, N'.getD i 0 = N.getD i 0) : ∀ j, cN N' j = cN N j
  | 0 => rfl
  | j + 1 => by
    show cN N' j * chs (sN N' (j + 1)) (N'.getD j 0) (N'.getD j 0) = cN N j * chs (sN N (j + 1)) (N.getD j 0) (N.getD j 0)
    rw [cN_eq h j, sN_eq h, h j]
theorem cOk_eq {N N' : List Nat} (h : ∀ i, N'.getD i 0 = N.getD i 0) : ∀ j, cOk N' j = cOk N j
  | 0 => rfl
  | j + 1 => by
    show (cOk N' j && decide (cN N' (j + 1) ≤ _)) = (cOk N j && decide (cN N (j + 1) ≤ _))
    rw [cOk_eq h j, cN_eq h]
theorem getD_out (N : List Nat) (i : Nat) (h : N.length ≤ i) : N.getD i 0 = 0 := by rw [List.getD_eq_getElem?_getD, List.getElem?_eq_none h]; rfl
theorem sN_past (N : List Nat) : ∀ d, sN N (N.length + d) = sN N N.length
  | 0 => rfl
  | d + 1 => by show sN N (N.length + d) + N.getD (N.length + d) 0 = _; rw [getD_out N _ (by omega), sN_past N d]; rfl
theorem cN_past (N : List Nat) : ∀ d, cN N (N.length + d) = cN N N.length
  | 0 => rfl
  | d + 1 => by
    show cN N (N.length + d) * chs _ (N.getD (N.length + d) 0) (N.getD (N.length + d) 0) = _
    rw [getD_out N _ (by omega), cN_past N d]
    exact Nat.mul_one _
theorem cOk_past (N : List Nat) (h0 : cOk N N.length = true) (hm : mN N ≤ 4611686018427387904) : ∀ d, cOk N (N.length + d) = true
  | 0 => h0
  | d + 1 => by
    show (cOk N (N.length + d) && decide (cN N (N.length + (d + 1)) ≤ _)) = true
    rw [cOk_past N h0 hm d, cN_past N (d + 1), Bool.true_and]
    exact decide_eq_true hm
/-- noughts behind them change nothing -/
structure Pad (N N' : List Nat) : Prop where
  le : N.length ≤ N'.length
  eq : ∀ i, N'.getD i 0 = N.getD i 0
theorem Pad.t {N N' : List Nat} (h : Pad N N') : tN2 N' = tN2 N := by
  unfold tN2
  obtain ⟨d, hd⟩ : ∃ d, N'.length = N.length + d := ⟨N'.length - N.length, by have := h.le; omega⟩
  rw [sN_eq h.eq, hd, sN_past]
theorem Pad.m {N N' : List Nat} (h : Pad N N') : mN N' = mN N := by
  unfold mN
  obtain ⟨d, hd⟩ : ∃ d, N'.length = N.length + d := ⟨N'.length - N.length, by have := h.le; omega⟩
  rw [cN_eq h.eq, hd, cN_past]
theorem Pad.sums {N N' : List Nat} (h : Pad N N') : ∀ j, bS N' j = bS N j
  | 0 => rfl
  | j + 1 => by
    show bS N' j + bg N' j = bS N j + bg N j
    rw [h.sums j]
    unfold bg
    rw [h.m, h.t, h.eq]
theorem Pad.lessP {N N' : List Nat} (h : Pad N N') (i : Nat) (hi : i < N.length) : Pad (less N i) (less N' i) := ⟨by rw [less_len, less_len]; exact h.le, fun j => by rw [less_at N' i j (by have := h.le; omega), less_at N i j hi, h.eq, h.eq]⟩
theorem mx_pad {N : List Nat} {n : Nat} {L : List Nat} (h : Mx N n L) : ∀ N', Pad N N' → Mx N' n L := by
  refine Mx.on (P := fun N n L => ∀ N', Pad N N' → Mx N' n L) ?_ ?_ L N n h
  · exact fun N h N' p => .nil N' (by rw [p.t]; exact h)
  · intro N n h L hh h1 hn ht h2 ih
    exact fun N' p => .cons N' n h L (by have := p.le; omega) (by rw [p.eq]; exact h1) (by rw [p.sums]; exact hn) (by rw [p.sums]; exact ih _ (p.lessP h hh)) (by rw [p.sums]; exact h2)
theorem Pad.cnt {N N' : List Nat} (h : Pad N N') (hl : N'.length ≤ 16) (h0 : 1 ≤ N.length) (hs : tN2 N ≤ 24) (hc : cOk N N.length = true) (hm : mN N ≤ 4611686018427387904) : cntA (iN N') = ((mN N : Int), 0) := by
  have key : ∀ (T : List Nat) (room : Nat), tN2 T ≤ room → chk (iN T) (room : Int) = true := by
    intro T
    induction T with
    | nil => intro room _; rfl
    | cons x t ih =>
      intro room hr
      have sc : ∀ j, sN (x :: t) (j + 1) = x + sN t j := by
        intro j
        induction j with
        | zero => simp [sN]
        | succ j ihj =>
          show sN (x :: t) (j + 1) + (x :: t).getD (j + 1) 0 = x + (sN t j + t.getD j 0)
          rw [ihj]
          simp
          omega
      have hr2 : x + tN2 t ≤ room := by
        have : tN2 (x :: t) = x + tN2 t := sc t.length
        omega
      show (if (x : Int) < 0 ∨ (room : Int) < (x : Int) then false else chk (iN t) ((room : Int) - (x : Int))) = true
      rw [if_neg (by omega), show (room : Int) - (x : Int) = ((room - x : Nat) : Int) by omega]
      exact ih (room - x) (by omega)
  have h1 : stOk (iN N') = true := by
    unfold stOk
    rw [show chk (iN N') 24 = true from key N' 24 (by rw [h.t]; exact hs), Bool.and_true]
    exact (okN_iff _).2 (by rw [iN_len]; have := h.le; omega)
  obtain ⟨d, hd⟩ : ∃ d, N'.length = N.length + d := ⟨N'.length - N.length, by have := h.le; omega⟩
  unfold cntA
  rw [if_pos h1, iN_nats, if_pos (by rw [cOk_eq h.eq, hd]; exact cOk_past N hc hm d), h.m]
end Go.Proofs.Ytaiccmbhdgecgaa
