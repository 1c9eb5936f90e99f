/-
  CalShop: the plain mathematics of open days counted one by one.
-/
import Derived.Test.YtipgmiblphfboaaDoorShp
import Derived.Test.YtipgmiblphfboaaDoorShf
namespace Go.Proofs.YtipgmiblphfboaaDoor
open Go.RowKit
set_option maxRecDepth 100000

theorem dT_is {n : Int} (h : 0 ≤ n ∧ n ≤ 3652424) : VT (dT n) ∧ nbT (dT n) = n := dt_is n h
theorem QOk.nums {Q : List Int} {o : Int} (h : QOk Q o) : (Q.map dT).map nbT = Q := by
  rw [List.map_map]
  have : ∀ n ∈ Q, (nbT ∘ dT) n = n := fun n hn => (dT_is (by have := h.2.2 n hn; omega)).2
  exact (List.map_congr_left this).trans (List.map_id Q)
theorem QOk.ro {Q : List Int} {o : Int} (h : QOk Q o) : RO (Q.map dT) := by
  refine ⟨by rw [List.length_map]; exact h.1, fun i hi hl => ?_⟩
  rw [List.length_map] at hi hl
  have hm := h.2.2 Q[i] (List.getElem_mem hl)
  refine ⟨?_, fun h0 => ?_⟩
  · rw [List.getElem_map]; exact (dT_is (by omega)).1
  · have hm2 := h.2.2 Q[i - 1] (List.getElem_mem (by omega))
    rw [List.getElem_map, List.getElem_map, (dT_is (by omega)).2, (dT_is (by omega)).2]
    exact (List.pairwise_iff_getElem.1 h.2.1) (i - 1) i (by omega) hl (by omega)
theorem rule_right {Q1 Q2 : List Int} (h1 : QOk Q1 0) (h2 : QOk Q2 1) : ∃ A, rlA (Q1.map dT) (Q2.map dT) = some A := by
  rw [rlA_yes h1.ro h2.ro, h1.nums, h2.nums]
  cases hm : mrg Q1 Q2 with
  | some A => exact ⟨A, rfl⟩
  | none =>
    obtain ⟨d, ha, hb⟩ := mrg_none _ _ hm
    have := h1.2.2 d ha
    have := h2.2.2 d hb
    omega
section
variable (wk : Nat → Bool) (A : List (Int × Bool))
theorem mcn_first (a s : Int) (j : Nat) : mcn wk A a s (j + 1) = (if isOp wk A (a + s) = true then 1 else 0) + mcn wk A (a + s) s j := by
  induction j with
  | zero => rw [mcn_succ]; simp [mcn]
  | succ j ih =>
    rw [mcn_succ, ih, mcn_succ, show a + s + ((j : Int) + 1) * s = a + (((j + 1 : Nat) : Int) + 1) * s by rw [Int.natCast_add, Int.add_mul, Int.add_mul, Int.add_mul]; omega]
    omega
theorem mcn_both (x : Int) (d : Nat) : mcn wk A (x + d) (-1) d + (if isOp wk A (x + d) = true then 1 else 0) = mcn wk A x 1 d + (if isOp wk A x = true then 1 else 0) := by
  induction d with
  | zero => simp [mcn]
  | succ d ih =>
    rw [mcn_first, mcn_succ, show x + ((d + 1 : Nat) : Int) + (-1) = x + d by omega, show x + ((d : Int) + 1) * 1 = x + ((d + 1 : Nat) : Int) by omega]
    omega
theorem mcn_gap (a s : Int) (j k : Nat) (h : j ≤ k) (hg : ∀ i : Nat, j < i → i ≤ k → isOp wk A (a + (i : Int) * s) = false) : mcn wk A a s k = mcn wk A a s j := by
  obtain ⟨e, rfl⟩ : ∃ e, k = j + e := ⟨k - j, by omega⟩
  clear h
  induction e with
  | zero => rfl
  | succ e ih =>
    rw [← Nat.add_assoc, mcn_succ, ih (fun i h1 h2 => hg i h1 (by omega))]
    have := hg (j + e + 1) (by omega) (by omega)
    rw [show a + (((j + e : Nat) : Int) + 1) * s = a + ((j + e + 1 : Nat) : Int) * s by rw [Int.natCast_add (j + e) 1]; rfl, this]
    simp
theorem mcn_uniq (a s : Int) (j k : Nat) (h1 : 1 ≤ j) (h2 : 1 ≤ k) (he : mcn wk A a s j = mcn wk A a s k) (hj : isOp wk A (a + (j : Int) * s) = true) (hk : isOp wk A (a + (k : Int) * s) = true) : j = k := by
  have key : ∀ p q : Nat, 1 ≤ q → p < q → isOp wk A (a + (q : Int) * s) = true → mcn wk A a s p < mcn wk A a s q := by
    intro p q h0 hpq ho
    obtain ⟨r, rfl⟩ : ∃ r, q = r + 1 := ⟨q - 1, by omega⟩
    have hm := mcn_mono wk A a s p r (by omega)
    rw [mcn_succ, show a + ((r : Int) + 1) * s = a + ((r + 1 : Nat) : Int) * s by rw [Int.natCast_add r 1]; rfl, ho]
    simp
    omega
  rcases Nat.lt_trichotomy j k with h | h | h
  · have := key j k h2 h hk; omega
  · exact h
  · have := key k j h1 h hj; omega
end
theorem movR_hit {wk : Nat → Bool} {D E : List (Int × Int × Int)} {A : List (Int × Bool)} {y m d n er : Int} {X : Int × Int × Int} (h : MovR wk D E y m d n X er) (hA : rlA D E = some A) (hv : VD y m d) (s : Int) (hs : s = 1 ∨ s = -1) (j : Nat) (hj : 1 ≤ j)
    (hr : 0 ≤ nb y m d + j * s ∧ nb y m d + j * s ≤ 3652424) (hm : (mcn wk A (nb y m d) s j : Int) = n * s) (ho : isOp wk A (nb y m d + j * s) = true) (hN : 1 ≤ n * s) (hn : n * s ≤ 100000) : X = dT (nb y m d + j * s) ∧ er = 0 := by
  rcases h with ⟨h, _⟩ | ⟨A', hA', h⟩
  · rw [hA] at h; cases h
  rw [hA] at hA'
  cases hA'
  rcases h with ⟨h, _⟩ | ⟨_, h⟩
  · exact absurd hv h
  rcases h with ⟨h, _⟩ | ⟨h, _⟩ | ⟨s', hs', h⟩
  · rcases hs with rfl | rfl <;> omega
  · rcases hs with rfl | rfl <;> omega
  have hss : s' = s := by
    rcases hs with rfl | rfl
    · rcases hs' with ⟨_, _, h⟩ | ⟨h1, _, _⟩
      · exact h
      · omega
    · rcases hs' with ⟨h1, _, _⟩ | ⟨_, _, h⟩
      · omega
      · exact h
  subst hss
  rcases h with ⟨k, h1, h2, h3, h4, h5, h6, h7⟩ | ⟨h1, _⟩
  · have hk : k = j := mcn_uniq wk A (nb y m d) s' k j h1 hj (by omega) h5 ho
    subst hk
    exact ⟨h6, h7⟩
  · have := h1 j hr.1 hr.2
    omega
/-- what the law has counted over the first k days -/
def StI (wk : Nat → Bool) (A : List (Int × Bool)) (a : Int) (k : Nat) (m f l : Int) : Prop :=
  m = (((List.range k).filter fun i : Nat => isOp wk A (a + i)).length : Int) ∧ ((m = 0 ∧ f = -1 ∧ l = -1 ∧ ∀ j : Nat, j < k → isOp wk A (a + j) = false) ∨
    ∃ p q : Nat, p ≤ q ∧ q < k ∧ f = a + p ∧ l = a + q ∧ isOp wk A (a + p) = true ∧ isOp wk A (a + q) = true ∧ (∀ j : Nat, j < p → isOp wk A (a + j) = false) ∧ (∀ j : Nat, q < j → j < k → isOp wk A (a + j) = false) ∧ m = 1 + (mcn wk A (a + p) 1 (q - p) : Int))
theorem StI.zero (wk : Nat → Bool) (A : List (Int × Bool)) (a : Int) : StI wk A a 0 0 (-1) (-1) := ⟨rfl, .inl ⟨rfl, rfl, rfl, fun j h => by omega⟩⟩
theorem StI.no {wk : Nat → Bool} {A : List (Int × Bool)} {a : Int} {k : Nat} {m f l : Int} (h : StI wk A a k m f l) (ho : isOp wk A (a + k) = false) : StI wk A a (k + 1) m f l := by
  obtain ⟨h1, h2⟩ := h
  refine ⟨?_, ?_⟩
  · rw [h1, List.range_succ, List.filter_append, List.length_append]
    simp [ho]
  · rcases h2 with ⟨e1, e2, e3, e4⟩ | ⟨p, q, e1, e2, e3, e4, e5, e6, e7, e8, e9⟩
    · exact .inl ⟨e1, e2, e3, fun j hj => by
        by_cases e : j = k
        · subst e; exact ho
        · exact e4 j (by omega)⟩
    · exact .inr ⟨p, q, e1, by omega, e3, e4, e5, e6, e7, fun j hj hk => by
        by_cases e : j = k
        · subst e; exact ho
        · exact e8 j hj (by omega), e9⟩
theorem StI.yes {wk : Nat → Bool} {A : List (Int × Bool)} {a : Int} {k : Nat} {m f l : Int} (h : StI wk A a k m f l) (ha : 0 ≤ a) (ho : isOp wk A (a + k) = true) : StI wk A a (k + 1) (m + 1) (if f < 0 then a + k else f) (a + k) := by
  obtain ⟨h1, h2⟩ := h
  refine ⟨?_, ?_⟩
  · rw [h1, List.range_succ, List.filter_append, List.length_append]
    simp [ho]
  · rcases h2 with ⟨e1, e2, e3, e4⟩ | ⟨p, q, e1, e2, e3, e4, e5, e6, e7, e8, e9⟩
    · rw [if_pos (by omega)]
      refine .inr ⟨k, k, Nat.le_refl _, by omega, rfl, rfl, ho, ho, e4, fun j h1 h2 => by omega, ?_⟩
      rw [e1, Nat.sub_self]
      simp [mcn]
    · rw [if_neg (by omega)]
      refine .inr ⟨p, k, by omega, by omega, e3, rfl, e5, ho, e7, fun j h1 h2 => by omega, ?_⟩
      have hk : k - p = (k - 1 - p) + 1 := by omega
      rw [hk, mcn_succ, mcn_gap wk A (a + p) 1 (q - p) (k - 1 - p) (by omega) (fun i h1 h2 => by
        have := e8 (p + i) (by omega) (by omega)
        rw [show a + (p : Int) + (i : Int) * 1 = a + ((p + i : Nat) : Int) by omega]
        exact this), show a + (p : Int) + (((k - 1 - p : Nat) : Int) + 1) * 1 = a + (k : Int) by omega, ho, e9]
      simp
      omega
end Go.Proofs.YtipgmiblphfboaaDoor
