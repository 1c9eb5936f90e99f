/-
  Gwe: SchedMixes: the mix behind a mix, by its number (pure).
  Gwg: SchedMixes: the next mix, its list between two swaps (pure).
  Gwh: SchedMixes: the document's NextMix, walked.
  Gwi: SchedMixes: the document's FirstMix; NextMix by the list of all mixes.
  Gwj: SchedMixes: what lies in memory while a sequence is gone over.
  Gwf: SchedMixes: the document's CanMixes.
  Gwk: SchedMixes: all mixes and those that are told.
  LawSMx: SchedMixes: 'goes': a sequence is gone over beside all mixes. Laid by mkgoes.py.
  LawSMl: SchedMixes: the law's walk.
-/
import Derived.Test.YtaiccmbhdgecgaaSmB
import Derived.Test.YtaiccmbhdgecgaaAl2
import Derived.Test.YtaiccmbhdgecgaaNt1
import Derived.BigQuiet
import Derived.Test.YtaiccmbhdgecgaaAl3
import Derived.Test.YtaiccmbhdgecgaaBk3
import Derived.RangeFuncBox
import Derived.Test.YtaiccmbhdgecgaaRgC
import Derived.Test.YtaiccmbhdgecgaaSmG
import Derived.Test.YtaiccmbhdgecgaaSmY
import Derived.Sort.LoopGhostIn
import Derived.Sort.CutIn
namespace Go.Proofs.Ytaiccmbhdgecgaa
open Go.RowKit
set_option maxRecDepth 100000

theorem bS_step (N : List Nat) (h : Nat) (hh : h < N.length) (hs : tN2 N ≤ 24) (h1 : 1 ≤ N.getD h 0) (h0 : 1 ≤ tN2 N) : bS N (h + 1) = bS N h + mN (less N h) := by
  show bS N h + bg N h = _
  rw [(bg_mul N h hh hs h0).2.2 h1]
theorem bS_flat (N : List Nat) (hs : tN2 N ≤ 24) (h0 : 1 ≤ tN2 N) : ∀ (k h : Nat), h + k ≤ N.length → (∀ z, h ≤ z → z < h + k → N.getD z 0 = 0) → bS N (h + k) = bS N h
  | 0, h, _, _ => rfl
  | k + 1, h, hl, hz => by
    have e : bS N (h + k + 1) = bS N (h + k) + bg N (h + k) := rfl
    have := (bg_mul N (h + k) (by omega) hs h0).2.1 (hz (h + k) (by omega) (by omega))
    show bS N (h + k + 1) = _
    rw [e, this, bS_flat N hs h0 k h (by omega) fun z a b => hz z a (by omega)]
    rfl
/-- the next one begins alike -/
theorem mx_in_step {N : List Nat} {n h : Nat} {x x' : List Nat} (hm : Mx N n (h :: x)) (hs : tN2 N ≤ 24) (h0 : 1 ≤ tN2 N) (hlt : n - bS N h + 1 < mN (less N h)) (hx : Mx (less N h) (n - bS N h + 1) x') : Mx N (n + 1) (h :: x') := by
  obtain ⟨hh, h1, hn, ht, h2⟩ := hm
  refine Mx.cons N (n + 1) h x' hh h1 (by omega) ?_ ?_
  · rw [show n + 1 - bS N h = n - bS N h + 1 by omega]
    exact hx
  · rw [bS_step N h hh hs h1 h0]
    omega
/-- the next one begins with the next handler that has a step -/
theorem mx_out_step {N : List Nat} {n h y : Nat} {x L : List Nat} (hm : Mx N n (h :: x)) (hs : tN2 N ≤ 24) (h0 : 1 ≤ tN2 N) (hlast : n - bS N h + 1 = mN (less N h)) (hhy : h < y) (hy : y < N.length) (hy1 : 1 ≤ N.getD y 0) (hz : ∀ z, h < z → z < y → N.getD z 0 = 0) (hL : Mx (less N y) 0 L) (hp : 0 < mN (less N y)) : Mx N (n + 1) (y :: L) := by
  obtain ⟨hh, h1, hn, ht, h2⟩ := hm
  have e1 := bS_step N h hh hs h1 h0
  have e2 := bS_flat N hs h0 (y - (h + 1)) (h + 1) (by omega) fun z a b => hz z (by omega) (by omega)
  rw [show h + 1 + (y - (h + 1)) = y by omega] at e2
  have e3 := bS_step N y hy hs hy1 h0
  refine Mx.cons N (n + 1) y L hy hy1 (by omega) ?_ (by omega)
  rw [show n + 1 - bS N y = 0 by omega]
  exact hL
/-- there is none behind it -/
theorem mx_end_step {N : List Nat} {n h : Nat} {x : List Nat} (hm : Mx N n (h :: x)) (hs : tN2 N ≤ 24) (h0 : 1 ≤ tN2 N) (hlast : n - bS N h + 1 = mN (less N h)) (hz : ∀ z, h < z → z < N.length → N.getD z 0 = 0) : n + 1 = mN N := by
  obtain ⟨hh, h1, hn, ht, h2⟩ := hm
  have e1 := bS_step N h hh hs h1 h0
  have e2 := bS_flat N hs h0 (N.length - (h + 1)) (h + 1) (by omega) fun z a b => hz z (by omega) (by omega)
  rw [show h + 1 + (N.length - (h + 1)) = N.length by omega, bS_all N hs h0] at e2
  omega
theorem mx_lt {N : List Nat} {n : Nat} {L : List Nat} (h : Mx N n L) (hs : tN2 N ≤ 24) : n < mN N := by
  obtain ⟨m, h1, h2⟩ := mx_of L N (mx_count h) (mx_in h) hs
  rw [mx_num L N n m h h1]
  exact h2
/-- a list that falls is the last -/
theorem mx_falls : ∀ (L : List Nat) (N : List Nat) (n : Nat), Mx N n L → tN2 N ≤ 24 → L.Pairwise (fun a b => b ≤ a) → n + 1 = mN N
  | [], N, n, h, hs, _ => by
    have h1 := mx_nil h
    have h2 := mx_lt h hs
    have h3 := AL_len 0 N (h.1) (by omega)
    have h4 : (AL 0 N).length = 1 := rfl
    omega
  | h :: x, N, n, hm, hs, hd => by
    have hl := mx_len hm hs
    rw [List.length_cons] at hl
    obtain ⟨hh, h1, hn, ht⟩ := mx_tail hm
    rw [List.pairwise_cons] at hd
    have e := (mN_less N h hh h1 hs).2
    refine mx_end_step hm hs (by omega) (mx_falls x _ _ ht (by omega) hd.2) fun z hz hlt => ?_
    rw [← mx_count hm z]
    refine List.count_eq_zero.2 fun hmem => ?_
    rcases List.mem_cons.1 hmem with e | e
    · omega
    · have := hd.1 z e
      omega
/-- a list that rises is the first -/
theorem mx_rises : ∀ (L : List Nat) (N : List Nat) (n : Nat), Mx N n L → tN2 N ≤ 24 → L.Pairwise (fun a b => a ≤ b) → n = 0
  | [], N, n, h, _, _ => mx_nil h
  | h :: x, N, n, hm, hs, hd => by
    have hl := mx_len hm hs
    rw [List.length_cons] at hl
    obtain ⟨hh, h1, hn, ht⟩ := mx_tail hm
    rw [List.pairwise_cons] at hd
    have e := (mN_less N h hh h1 hs).2
    have e1 := mx_rises x _ _ ht (by omega) hd.2
    have e2 := bS_flat N hs (by omega) h 0 (by omega) fun z _ hz => by
      rw [← mx_count hm z]
      refine List.count_eq_zero.2 fun hmem => ?_
      rcases List.mem_cons.1 hmem with e | e
      · omega
      · have := hd.1 z e
        omega
    rw [Nat.zero_add] at e2
    have e3 : bS N 0 = 0 := rfl
    omega
/-- the last rise, its head given over to the least that is above it, and what is behind it turned round -/
structure NxR (L L' : List Nat) (p : List Nat) (x : Nat) (a : List Nat) (y : Nat) (b : List Nat) : Prop where
  l : L = p ++ x :: (a ++ y :: b)
  fall : (a ++ y :: b).Pairwise fun i j => j ≤ i
  up : x < y
  lo : ∀ z ∈ b, z ≤ x
  r : L' = p ++ y :: (a ++ x :: b).reverse
theorem mx_next : ∀ (p : List Nat) (L L' : List Nat) (N : List Nat) (n x y : Nat) (a b : List Nat), NxR L L' p x a y b → Mx N n L → tN2 N ≤ 24 → Mx N (n + 1) L'
  | h :: p, L, L', N, n, x, y, a, b, hx, hm, hs => by
    obtain ⟨rfl, h1, h2, h3, rfl⟩ := hx
    have hm : Mx N n (h :: (p ++ x :: (a ++ y :: b))) := hm
    have hl := mx_len hm hs
    rw [List.length_cons] at hl
    obtain ⟨hh, k1, hn, ht⟩ := mx_tail hm
    have e := (mN_less N h hh k1 hs).2
    have ih := mx_next p _ _ _ _ x y a b ⟨rfl, h1, h2, h3, rfl⟩ ht (by omega)
    exact mx_in_step hm hs (by omega) (mx_lt ih (by omega)) ih
  | [], L, L', N, n, x, y, a, b, hx, hm, hs => by
    obtain ⟨rfl, h1, h2, h3, rfl⟩ := hx
    have hm : Mx N n (x :: (a ++ y :: b)) := hm
    have hl := mx_len hm hs
    rw [List.length_cons] at hl
    have hc := mx_count hm
    have hi := mx_in hm
    obtain ⟨hh, k1, hn, ht⟩ := mx_tail hm
    have e := (mN_less N x hh k1 hs).2
    have hfa := List.pairwise_append.1 h1
    have hfb := List.pairwise_cons.1 hfa.2.1
    have hy : y < N.length := hi y (by simp)
    have hy1 : 1 ≤ N.getD y 0 := by
      rw [← hc y]
      exact List.count_pos_iff.2 (by simp)
    have ey := (mN_less N y hy hy1 hs).2
    -- what is behind the new head rises, and has the counts that are left
    have hri : (a ++ x :: b).reverse.Pairwise fun i j => i ≤ j := by
      rw [List.pairwise_reverse]
      refine List.pairwise_append.2 ⟨hfa.1, List.pairwise_cons.2 ⟨h3, hfb.2⟩, fun i hi' j hj => ?_⟩
      rcases List.mem_cons.1 hj with e1 | e1
      · have := hfa.2.2 i hi' y (by simp)
        omega
      · exact hfa.2.2 i hi' j (List.mem_cons_of_mem _ e1)
    have hcn : ∀ i, (a ++ x :: b).reverse.count i = (less N y).getD i 0 := fun i => by
      rw [less_at N y i hy, List.count_reverse]
      have q := hc i
      have qy := hc y
      simp only [List.count_append, List.count_cons] at q qy ⊢
      by_cases e1 : i = y
      · subst e1
        have hne : ¬ x = i := by omega
        simp [hne] at q ⊢
        omega
      · have hne : ¬ y = i := fun e2 => e1 e2.symm
        simp [e1, hne] at q ⊢
        omega
    obtain ⟨m, hm2, _⟩ := mx_of (a ++ x :: b).reverse (less N y) hcn (fun z hz => by
      rw [less_len]
      refine hi z ?_
      rw [List.mem_reverse] at hz
      simp only [List.mem_append, List.mem_cons] at hz ⊢
      rcases hz with h | h | h
      · exact .inr (.inl h)
      · exact .inl h
      · exact .inr (.inr (.inr h))) (by omega)
    have hm0 := mx_rises _ _ _ hm2 (by omega) hri
    rw [hm0] at hm2
    refine mx_out_step hm hs (by omega) (mx_falls _ _ _ ht (by omega) h1) h2 hy hy1 (fun z hz1 hz2 => ?_) hm2 (mN_pos _ (by omega))
    rw [← hc z]
    refine List.count_eq_zero.2 fun hmem => ?_
    simp only [List.mem_append, List.mem_cons] at hmem
    rcases hmem with e1 | e1 | e1 | e1
    · omega
    · have := hfa.2.2 z e1 y (by simp)
      omega
    · omega
    · have := h3 z e1
      omega
/-- the last rise, by its places -/
theorem nxr_at (L : List Nat) (i j : Nat) (hij : i < j) (hj : j < L.length) (hf : (L.drop (i + 1)).Pairwise fun a b => b ≤ a) (hu : L.getD i 0 < L.getD j 0) (hlo : ∀ k, j < k → k < L.length → L.getD k 0 ≤ L.getD i 0) :
    NxR L (L.take i ++ L.getD j 0 :: ((L.drop (i + 1)).take (j - (i + 1)) ++ L.getD i 0 :: L.drop (j + 1)).reverse) (L.take i) (L.getD i 0) ((L.drop (i + 1)).take (j - (i + 1))) (L.getD j 0) (L.drop (j + 1)) := by
  have gi : L.getD i 0 = L[i]'(by omega) := by rw [List.getD_eq_getElem?_getD, List.getElem?_eq_getElem (by omega)]; rfl
  have gj : L.getD j 0 = L[j] := by rw [List.getD_eq_getElem?_getD, List.getElem?_eq_getElem hj]; rfl
  have hD : L.drop (i + 1) = (L.drop (i + 1)).take (j - (i + 1)) ++ L.getD j 0 :: L.drop (j + 1) := by
    have e1 := (List.take_append_drop (j - (i + 1)) (L.drop (i + 1))).symm
    rw [List.drop_drop, show i + 1 + (j - (i + 1)) = j by omega, List.drop_eq_getElem_cons hj, ← gj] at e1
    exact e1
  refine ⟨?_, ?_, hu, fun z hz => ?_, rfl⟩
  · rw [← hD, gi, ← List.drop_eq_getElem_cons (by omega), List.take_append_drop]
  · rw [← hD]
    exact hf
  · obtain ⟨k, hk, rfl⟩ := List.getElem_of_mem hz
    rw [List.length_drop] at hk
    have := hlo (j + 1 + k) (by omega) (by omega)
    rw [List.getD_eq_getElem?_getD, List.getElem?_eq_getElem (by omega)] at this
    rw [List.getElem_drop]
    exact this
/-- one place further to the left that does not rise -/
theorem falls_up (L : List Nat) (i : Nat) (hi : i + 1 < L.length) (hf : (L.drop (i + 1)).Pairwise fun a b => b ≤ a) (hd : L.getD (i + 1) 0 ≤ L.getD i 0) : (L.drop i).Pairwise fun a b => b ≤ a := by
  have gi : L.getD i 0 = L[i]'(by omega) := by rw [List.getD_eq_getElem?_getD, List.getElem?_eq_getElem (by omega)]; rfl
  have gj : L.getD (i + 1) 0 = L[i + 1] := by rw [List.getD_eq_getElem?_getD, List.getElem?_eq_getElem hi]; rfl
  rw [List.drop_eq_getElem_cons (by omega), List.pairwise_cons]
  refine ⟨fun z hz => ?_, hf⟩
  rw [List.drop_eq_getElem_cons hi] at hz hf
  rw [List.pairwise_cons] at hf
  rw [gi, gj] at hd
  rcases List.mem_cons.1 hz with e | e
  · rw [e]; exact hd
  · have := hf.1 z e
    omega
/-- the first mix: all picks of the first handlers, in order -/
def fmx (N : List Nat) : Nat → List Nat
  | 0 => []
  | h + 1 => fmx N h ++ List.replicate (N.getD h 0) h
theorem fmx_in (N : List Nat) : ∀ h, ∀ x ∈ fmx N h, x < h
  | 0, x, hx => by cases hx
  | h + 1, x, hx => by
    rcases List.mem_append.1 hx with e | e
    · have := fmx_in N h x e
      omega
    · rw [(List.mem_replicate.1 e).2]
      omega
theorem fmx_rises (N : List Nat) : ∀ h, (fmx N h).Pairwise fun a b => a ≤ b
  | 0 => List.Pairwise.nil
  | h + 1 => by
    refine List.pairwise_append.2 ⟨fmx_rises N h, List.pairwise_replicate.2 (.inr (Nat.le_refl _)), fun a ha b hb => ?_⟩
    rw [(List.mem_replicate.1 hb).2]
    have := fmx_in N h a ha
    omega
theorem fmx_count (N : List Nat) : ∀ h i, (fmx N h).count i = if i < h then N.getD i 0 else 0
  | 0, i => by simp [fmx]
  | h + 1, i => by
    show (fmx N h ++ List.replicate (N.getD h 0) h).count i = _
    rw [List.count_append, fmx_count N h i, List.count_replicate]
    by_cases e : i = h
    · subst e
      simp
    · by_cases e2 : i < h
      · rw [if_pos e2, if_pos (show i < h + 1 by omega)]
        have : ¬ h = i := fun e3 => e e3.symm
        simp [this]
      · rw [if_neg e2, if_neg (show ¬ i < h + 1 by omega)]
        have : ¬ h = i := fun e3 => e e3.symm
        simp [this]
theorem mx_first (N : List Nat) (hs : tN2 N ≤ 24) : Mx N 0 (fmx N N.length) := by
  obtain ⟨m, h1, _⟩ := mx_of (fmx N N.length) N (fun i => by
    rw [fmx_count]
    by_cases h : i < N.length
    · rw [if_pos h]
    · rw [if_neg h, List.getD_eq_getElem?_getD, List.getElem?_eq_none (by omega)]
      rfl) (fmx_in N N.length) hs
  rw [mx_rises _ _ _ h1 hs (fmx_rises N _)] at h1
  exact h1
end Go.Proofs.Ytaiccmbhdgecgaa

namespace Go.Proofs.Ytaiccmbhdgecgaa
open Go.RowKit
set_option maxRecDepth 100000

/-- the list between two swaps of the tail behind place i -/
structure Rv (S Y : List Nat) (i a : Nat) : Prop where
  len : Y.length = S.length
  val : ∀ q, q < S.length → Y.getD q 0 = if i < q ∧ (q < a ∨ S.length + i < q + a) then S.getD (S.length + i - q) 0 else S.getD q 0
theorem Rv.start (S : List Nat) (i : Nat) : Rv S S i (i + 1) := ⟨rfl, fun q hq => by rw [if_neg (by omega)]⟩
theorem getD_set2 (Y : List Nat) (a q x : Nat) (ha : a < Y.length) : (Y.set a x).getD q 0 = if q = a then x else Y.getD q 0 := by
  rw [List.getD_eq_getElem?_getD, List.getElem?_set]
  by_cases h : a = q
  · subst h
    simp [ha]
  · rw [if_neg h, if_neg (fun e => h e.symm), List.getD_eq_getElem?_getD]
theorem Rv.step {S Y : List Nat} {i a b : Nat} (h : Rv S Y i a) (hi : i < a) (hb : a + b = S.length + i) (hab : a < b) : Rv S ((Y.set a (Y.getD b 0)).set b (Y.getD a 0)) i (a + 1) := by
  have hl := h.len
  refine ⟨by simp [hl], fun q hq => ?_⟩
  rw [getD_set2 _ _ _ _ (by simp; omega), getD_set2 _ _ _ _ (by omega)]
  by_cases h1 : q = b
  · subst h1
    rw [if_pos rfl, h.val a (by omega), if_neg (by omega), if_pos (by omega), show S.length + i - q = a by omega]
  · rw [if_neg h1]
    by_cases h2 : q = a
    · subst h2
      rw [if_pos rfl, h.val b (by omega), if_neg (by omega), if_pos (by omega), show S.length + i - q = b by omega]
    · rw [if_neg h2, h.val q hq]
      by_cases h3 : i < q ∧ (q < a ∨ S.length + i < q + a)
      · rw [if_pos h3, if_pos (by omega)]
      · rw [if_neg h3, if_neg (by omega)]
theorem Rv.end {S Y : List Nat} {i a : Nat} (h : Rv S Y i a) (ha : S.length + i ≤ a + a) (hi : i < S.length) : Y = S.take (i + 1) ++ (S.drop (i + 1)).reverse := by
  have hl := h.len
  refine List.ext_getElem (by simp [hl]; omega) fun q h1 h2 => ?_
  have hq : q < S.length := by omega
  have e := h.val q hq
  rw [List.getD_eq_getElem?_getD, List.getElem?_eq_getElem h1, Option.getD_some] at e
  rw [e]
  by_cases h3 : i < q
  · rw [List.getElem_append_right (by simp; omega), List.getElem_reverse, List.getElem_drop]
    have e2 : S.getD (S.length + i - q) 0 = S[i + 1 + ((S.drop (i + 1)).length - 1 - (q - (S.take (i + 1)).length))]'(by simp; omega) := by
      rw [List.getD_eq_getElem?_getD, List.getElem?_eq_getElem (by omega), Option.getD_some]
      congr 1
      simp
      omega
    rw [← e2]
    by_cases h4 : q < a ∨ S.length + i < q + a
    · rw [if_pos ⟨h3, h4⟩]
    · rw [if_neg (fun x => h4 x.2), show S.length + i - q = q by omega]
  · rw [if_neg (fun x => h3 x.1), List.getElem_append_left (by simp; omega), List.getElem_take, List.getD_eq_getElem?_getD, List.getElem?_eq_getElem hq]
    rfl
theorem iN_setN (Y : List Nat) (a x : Nat) : (iN Y).set a ((x : Nat) : Int) = iN (Y.set a x) := by
  unfold iN
  rw [List.map_set]
theorem falls_at (L : List Nat) (i : Nat) (hi : i + 1 < L.length) (hf : (L.drop (i + 1)).Pairwise fun a b => b ≤ a) (hd : L.getD (i + 1) 0 ≤ L.getD i 0) : (L.drop i).Pairwise fun a b => b ≤ a := by
  have gi : L.getD i 0 = L[i]'(by omega) := by rw [List.getD_eq_getElem?_getD, List.getElem?_eq_getElem (by omega)]; rfl
  have gj : L.getD (i + 1) 0 = L[i + 1] := by rw [List.getD_eq_getElem?_getD, List.getElem?_eq_getElem hi]; rfl
  rw [List.drop_eq_getElem_cons (by omega), List.pairwise_cons]
  refine ⟨fun z hz => ?_, hf⟩
  rw [List.drop_eq_getElem_cons hi] at hz hf
  rw [List.pairwise_cons] at hf
  rw [gi, gj] at hd
  rcases List.mem_cons.1 hz with e | e
  · rw [e]; exact hd
  · have := hf.1 z e
    omega
theorem drop_one_falls (L : List Nat) : (L.drop (L.length - 1)).Pairwise fun a b => b ≤ a := by
  have h : (L.drop (L.length - 1)).length ≤ 1 := by simp; omega
  match L.drop (L.length - 1), h with
  | [], _ => exact List.Pairwise.nil
  | [x], _ => exact List.pairwise_singleton _ _
  | _ :: _ :: _, h => simp at h
/-- the list that NextMix makes -/
def turned (L : List Nat) (i j : Nat) : List Nat := ((L.set i (L.getD j 0)).set j (L.getD i 0)).take (i + 1) ++ (((L.set i (L.getD j 0)).set j (L.getD i 0)).drop (i + 1)).reverse
structure Last (L : List Nat) (i j : Nat) : Prop where
  ij : i < j
  jl : j < L.length
  fall : (L.drop (i + 1)).Pairwise fun a b => b ≤ a
  up : L.getD i 0 < L.getD j 0
  lo : ∀ k, j < k → k < L.length → L.getD k 0 ≤ L.getD i 0
def NmR (L : List Nat) (w : World) (e : Ending) (w' : World) : Prop := ∃ v ok, e = .returned (.tuple #[v, .bool ok]) ∧ ((ok = true ∧ ∃ i j, Last L i j ∧ OwI w' w.heap.size v (iN (turned L i j))) ∨ (ok = false ∧ v = .slice none 0 0 ∧ L.Pairwise fun a b => b ≤ a)) ∧ Below w.heap.size w w'
theorem OwI.cells {w : World} {base g n cap : Nat} {Y : List Nat} (h : OwI w base (.slice (some ⟨g, 0, none⟩) n cap) (iN Y)) : base ≤ g ∧ ∀ i, i < Y.length → w.cell? ⟨g, i, none⟩ = some (.int .i64 ((Y.getD i 0 : Nat) : Int)) ∧ w.frozen? ⟨g, i, none⟩ = false := by
  refine ⟨(h.lt g rfl).1, fun i hi => ?_⟩
  obtain ⟨g', cp, e, _, hc, hf, _⟩ := h.atI i (by rw [iN_len]; exact hi)
  injection e with e1
  injection e1 with e1
  injection e1 with e1
  subst e1
  rw [iN_at Y i _ hi] at hc
  rw [gN Y i hi]
  exact ⟨hc, hf⟩
theorem OwI.put {w : World} {base g n cap : Nat} {Y : List Nat} (h : OwI w base (.slice (some ⟨g, 0, none⟩) n cap) (iN Y)) (i x : Nat) (hi : i < Y.length) : OwI (w.setCell ⟨g, i, none⟩ (.int .i64 ((x : Nat) : Int))) base (.slice (some ⟨g, 0, none⟩) n cap) (iN (Y.set i x)) := by
  have := h.set1 eN_len i (by rw [iN_len]; exact hi) ((x : Nat) : Int) rfl rfl
  rwa [iN_setN] at this
end Go.Proofs.Ytaiccmbhdgecgaa

namespace Go.Proofs.Ytaiccmbhdgecgaa
open Go.RowKit
set_option maxRecDepth 100000
set_option linter.unusedVariables false
set_option linter.unusedSimpArgs false
attribute [local go_sem] Oper.semAt_some
attribute [local go_sem ↓] apN_op

set_option maxHeartbeats 4000000 in
theorem nextMix_raw (l : Value) (L : List Nat) (w : World) (hL : L.length ≤ 1000000) (hl : RI w l (iN L)) :
    Calls Try.prog 67 #[l] w fun e w' => NmR L w e w' := by
  obtain ⟨v1, w1, col1, hap, ho1, _, hg1, _, _⟩ := run_appD (enc := eN) (col := fun _ => 0) (c := 0) (base := w.heap.size) (v := .slice none 0 0) (L := []) iinf Try.underlying22 rfl (by decide) eN_len (Ow.nil _ _ w _) l (iN L) hl.src (fun x hx => eN_one x) (by rw [iN_len]; simp; omega) (by rw [iN_len]; simp [maxLen]; omega) (Nat.le_refl _) 22
  rw [List.nil_append] at ho1
  have ho : OwI w1 w.heap.size v1 (iN L) := ⟨ho1.1, fun _ _ => rfl⟩
  have hB1 : Below w.heap.size w w1 := gb_below (Below.refl _ _) (Nat.le_refl _) hg1 (fun g e => by simp [Value.ownBlock] at e)
  rw [apN_op] at hap
  obtain ⟨lo, lc, hlv⟩ := hl.len0
  rw [iN_len] at hlv
  subst hlv
  obtain ⟨n, hn⟩ : ∃ n, L.length = n := ⟨_, rfl⟩
  rw [hn] at hap hL ⊢
  rcases Nat.eq_zero_or_pos n with hn0 | hn0
  · -- nothing
    subst hn0
    have HE := hid (show L.Pairwise fun a b => b ≤ a by rw [List.eq_nil_of_length_eq_zero hn]; exact List.Pairwise.nil)
    obtain ⟨o1, c1, hv1⟩ := ho.sl
    rw [iN_len, hn] at hv1
    subst hv1
    have HB1 := hid hB1
    have hI : decide ((0 : Int) ≤ -2) = false := by decide
    clear hl ho1 hg1 ho hB1 hn
    go_enter Try.func67, Try.ntmps67
    go_wp2_with fail
    go_loopw [5] (fun s5 wr => s5 = .int .i64 (-2) ∧ wr = w1) (fun _ _ => 0)
    case atStart => exact ⟨rfl, rfl⟩
    case round =>
      obtain ⟨h5, hw⟩ := hrel
      subst h5
      replace hw := hw.symm
      subst hw
      go_wp2_with fail
      go_quiet (fail)
      go_wp2
      go_ret2
      exact ⟨_, false, rfl, .inr ⟨rfl, rfl, HE.out⟩, below_drewN2 HB1.out _⟩
  · obtain ⟨g, cN, hv1, -⟩ := ho.at' eN_len 0 (by rw [iN_len]; omega)
    rw [iN_len, hn] at hv1
    subst hv1
    have HO1 := hid ho
    have HB1 := hid hB1
    have HN := hid hn
    have hnI : (n : Int) ≤ 1000000 := by omega
    clear hl ho1 hg1 ho hB1 hn
    go_enter Try.func67, Try.ntmps67
    go_wp2_with fail
    go_loopw [5] (fun s5 wr => ∃ (j : Nat) (z : Int), j + 1 ≤ n ∧ s5 = .int .i64 z ∧ Hid (z = (j : Int) - 1) ∧ Hid ((L.drop j).Pairwise fun a b => b ≤ a) ∧ Hid (OwI wr w.heap.size (.slice (some ⟨g, 0, none⟩) n cN) (iN L)) ∧ Hid (Below w.heap.size w wr)) (fun s5 _ => (intOf s5 + 1).toNat)
    case atStart => exact ⟨n - 1, _, by omega, rfl, hid (by omega), hid (by rw [show L.drop (n - 1) = L.drop (L.length - 1) by rw [HN.out]]; exact drop_one_falls L), HO1, HB1⟩
    case round =>
      obtain ⟨j, z, hj, h5, HZ, HF, HO, HB⟩ := hrel
      clear HO1 HB1
      subst h5
      rcases Nat.eq_zero_or_pos j with hj0 | hj0
      · subst hj0
        have hz : z = -1 := by have := HZ.out; omega
        subst hz
        have hI : decide ((0 : Int) ≤ -1) = false := by decide
        go_wp2_with fail
        go_quiet (fail)
        go_wp2
        go_ret2
        exact ⟨_, false, rfl, .inr ⟨rfl, rfl, HF.out⟩, below_drewN2 HB.out _⟩
      · obtain ⟨i, rfl⟩ : ∃ i, j = i + 1 := ⟨j - 1, by omega⟩
        have hz : z = (i : Int) := by have := HZ.out; omega
        subst hz
        clear HZ
        have hI : decide ((0 : Int) ≤ (i : Int)) = true := decide_eq_true (by omega)
        have hI0 : (0 : Int) ≤ (i : Int) := by omega
        have hI1 : (i : Int) < (n : Int) := by omega
        have hI2 : (i : Int) + 1 < (n : Int) := by omega
        have hcs := HO.out.cells.2
        have ci := (hcs i (by rw [HN.out]; omega)).1
        have cj := (hcs (i + 1) (by rw [HN.out]; omega)).1
        clear hcs
        obtain ⟨x, hx⟩ : ∃ x, L.getD i 0 = x := ⟨_, rfl⟩
        obtain ⟨y, hy⟩ : ∃ y, L.getD (i + 1) 0 = y := ⟨_, rfl⟩
        rw [hx] at ci
        rw [hy] at cj
        have HX := hid hx
        have HY := hid hy
        clear hx hy
        by_cases hle : y ≤ x
        · have hd : decide ((y : Int) ≤ (x : Int)) = true := decide_eq_true (by omega)
          have hdN : decide (y ≤ x) = true := decide_eq_true hle
          have HF2 := hid (falls_at L i (by rw [HN.out]; omega) HF.out (by rw [HX.out, HY.out]; exact hle))
          clear hle
          go_wp2_with fail
          go_quiet (fail)
          have HO2 := hid (show OwI (wr.drewN nq) w.heap.size (.slice (some ⟨g, 0, none⟩) n cN) (iN L) from HO.out.later (below_drewN2 (Below.refl _ _) nq))
          have HB2 := hid (below_drewN2 HB.out nq)
          go_wp2
          go_roundw
          case rel => exact ⟨i, _, by omega, rfl, hid rfl, HF2, HO2, HB2⟩
          case measure => first | (simp [intOf]; done) | (simp [intOf]; omega)
        · have hd : decide ((y : Int) ≤ (x : Int)) = false := decide_eq_false (by omega)
          have hdN : decide (y ≤ x) = false := decide_eq_false hle
          have hup : x < y := by omega
          have HUp := hid hup
          clear hle hup
          go_wp2_with fail
          go_quiet (fail)
          have HO2 := hid (show OwI (wr.drewN nq) w.heap.size (.slice (some ⟨g, 0, none⟩) n cN) (iN L) from HO.out.later (below_drewN2 (Below.refl _ _) nq))
          have HB2 := hid (below_drewN2 HB.out nq)
          clear HO HB ci cj
          generalize wr.drewN nq = wq at *
          go_wp2_with fail
          go_loopw [6] (fun s6 wr => ∃ (j : Nat), i + 1 ≤ j ∧ j < n ∧ s6 = .int .i64 (j : Int) ∧ Hid (∀ k, j < k → k < L.length → L.getD k 0 ≤ L.getD i 0) ∧ Hid (OwI wr w.heap.size (.slice (some ⟨g, 0, none⟩) n cN) (iN L)) ∧ Hid (Below w.heap.size w wr)) (fun s6 _ => (intOf s6).toNat)
          case atStart => exact ⟨n - 1, by omega, by omega, by first | rfl | go_num | (congr 1; omega), hid (fun k h1 h2 => by have := HN.out; omega), HO2, HB2⟩
          case round =>
            obtain ⟨j, hj1, hj2, h6, HLo, HO, HB⟩ := hrel
            clear HO2 HB2
            subst h6
            have hcs := HO.out.cells.2
            have ci := (hcs i (by rw [HN.out]; omega)).1
            have cj := (hcs j (by rw [HN.out]; omega)).1
            clear hcs
            rw [HX.out] at ci
            obtain ⟨q, hq⟩ : ∃ q, L.getD j 0 = q := ⟨_, rfl⟩
            rw [hq] at cj
            have HQ := hid hq
            clear hq
            have hJ0 : (0 : Int) ≤ (j : Int) := by omega
            have hJ1 : (j : Int) < (n : Int) := by omega
            by_cases hle : q ≤ x
            · have hd : decide ((q : Int) ≤ (x : Int)) = true := decide_eq_true (by omega)
              have hdN : decide (q ≤ x) = true := decide_eq_true hle
              have hne : i + 1 < j := by
                rcases Nat.lt_or_ge (i + 1) j with h9 | h9
                · exact h9
                · have e : j = i + 1 := by omega
                  have := HQ.out
                  rw [e, HY.out] at this
                  have := HUp.out
                  omega
              have HLo2 := hid (show ∀ k, j - 1 < k → k < L.length → L.getD k 0 ≤ L.getD i 0 from fun k h1 h2 => by
                by_cases e : k = j
                · rw [e, HQ.out, HX.out]; exact hle
                · exact HLo.out k (by omega) h2)
              clear hle
              go_wp2_with fail
              go_quiet (fail)
              have HO2 := hid (show OwI (wr.drewN nq) w.heap.size (.slice (some ⟨g, 0, none⟩) n cN) (iN L) from HO.out.later (below_drewN2 (Below.refl _ _) nq))
              have HB2 := hid (below_drewN2 HB.out nq)
              go_wp2
              go_roundw
              case rel => exact ⟨j - 1, by omega, by omega, by first | rfl | go_num | (congr 1; omega), HLo2, HO2, HB2⟩
              case measure => first | (simp [intOf]; done) | (simp [intOf]; omega)
            · have hd : decide ((q : Int) ≤ (x : Int)) = false := decide_eq_false (by omega)
              have hdN : decide (q ≤ x) = false := decide_eq_false hle
              have HLa := hid (show Last L i j from ⟨by omega, by rw [HN.out]; omega, HF.out, by rw [HX.out, HQ.out]; omega, HLo.out⟩)
              go_wp2_with fail
              go_quiet (fail)
              have HO2 := hid (show OwI (wr.drewN nq) w.heap.size (.slice (some ⟨g, 0, none⟩) n cN) (iN L) from HO.out.later (below_drewN2 (Below.refl _ _) nq))
              have HB2 := hid (below_drewN2 HB.out nq)
              clear HO HB ci cj hd
              generalize wr.drewN nq = wq2 at *
              have hcs2 := HO2.out.cells
              have hBg := hcs2.1
              have ci := hcs2.2 i (by rw [HN.out]; omega)
              have cj := hcs2.2 j (by rw [HN.out]; omega)
              rw [HX.out] at ci
              rw [HQ.out] at cj
              have HOa := hid (HO2.out.put i q (by rw [HN.out]; omega))
              have hbj := (HOa.out.cells.2 j (by rw [List.length_set, HN.out]; omega))
              have HOb := hid (HOa.out.put j x (by rw [List.length_set, HN.out]; omega))
              have HBb := hid ((HB2.out.setCell (p := ⟨g, i, none⟩) hBg (.int .i64 (q : Int))).setCell (p := ⟨g, j, none⟩) hBg (.int .i64 (x : Int)))
              have c1 := ci.1
              have f1 := ci.2
              have c2 := cj.1
              have f3 := hbj.2
              obtain ⟨y3, hy3⟩ : ∃ y3, (((L.set i q).getD j 0 : Nat) : Int) = y3 := ⟨_, rfl⟩
              have c3 := hbj.1
              rw [hy3] at c3
              have HTu := hid (show turned L i j = ((L.set i q).set j x).take (i + 1) ++ (((L.set i q).set j x).drop (i + 1)).reverse by unfold turned; rw [HX.out, HQ.out])
              obtain ⟨S, hS⟩ : ∃ S, (L.set i q).set j x = S := ⟨_, rfl⟩
              rw [hS] at HOb HTu
              have HSl := hid (show S.length = n by rw [← hS, List.length_set, List.length_set, HN.out])
              clear hcs2 ci cj hbj hy3 hS HO2 HB2 HOa hd hdN hle
              go_wp2_with fail
              go_loopw [7, 8, 9] (fun s7 s8 s9 wr => ∃ (Y : List Nat) (a b : Nat), i < a ∧ a + b = n + i ∧ b < n ∧ s8 = .int .i64 (a : Int) ∧ s9 = .int .i64 (b : Int) ∧ Hid (Rv S Y i a) ∧ Hid (OwI wr w.heap.size (.slice (some ⟨g, 0, none⟩) n cN) (iN Y)) ∧ Hid (Below w.heap.size w wr)) (fun _ s8 _ _ => n - (intOf s8).toNat)
              case atStart => exact ⟨S, i + 1, n - 1, by omega, by omega, by omega, by first | rfl | go_num | (congr 1; omega), by first | rfl | go_num | (congr 1; omega), hid (Rv.start S i), HOb, HBb⟩
              case round =>
                obtain ⟨Y, a, b, ha, hab, hb, h8, h9, HRv, HO, HB⟩ := hrel
                clear HOb HBb c1 f1 c2 c3 f3
                subst h8 h9
                by_cases hlt : a < b
                · have hI3 : (a : Int) < (b : Int) := by omega
                  have ha0 : (0 : Int) ≤ (a : Int) := by omega
                  have hb0 : (0 : Int) ≤ (b : Int) := by omega
                  have haI : (a : Int) < (n : Int) := by omega
                  have hbI : (b : Int) < (n : Int) := by omega
                  have hYl : Y.length = n := by rw [HRv.out.len, HSl.out]
                  have hcs := HO.out.cells.2
                  have ca := hcs a (by omega)
                  have cb := hcs b (by omega)
                  obtain ⟨p, hp⟩ : ∃ p, Y.getD a 0 = p := ⟨_, rfl⟩
                  obtain ⟨r, hr⟩ : ∃ r, Y.getD b 0 = r := ⟨_, rfl⟩
                  have HRv2 := hid (HRv.out.step ha (by rw [HSl.out]; exact hab) hlt)
                  rw [hp, hr] at HRv2
                  rw [hp] at ca
                  rw [hr] at cb
                  have HOa := hid (HO.out.put a r (by omega))
                  have cb2 := HOa.out.cells.2 b (by rw [List.length_set]; omega)
                  have HOb := hid (HOa.out.put b p (by rw [List.length_set]; omega))
                  have HBb := hid ((HB.out.setCell (p := ⟨g, a, none⟩) hBg (.int .i64 (r : Int))).setCell (p := ⟨g, b, none⟩) hBg (.int .i64 (p : Int)))
                  obtain ⟨y3, hy3⟩ : ∃ y3, (((Y.set a r).getD b 0 : Nat) : Int) = y3 := ⟨_, rfl⟩
                  have c1 := ca.1
                  have f1 := ca.2
                  have c2 := cb.1
                  have c3 := cb2.1
                  have f3 := cb2.2
                  rw [hy3] at c3
                  have HL := hid (And.intro hab (And.intro hb hlt))
                  clear hcs ca cb hp hr cb2 hy3 HOa hYl HO HB hlt hb
                  go_wp2
                  go_roundw
                  case rel => exact ⟨_, a + 1, b - 1, by omega, by have := HL.out; omega, by have := HL.out; omega, by go_num, by first | rfl | go_num | (congr 1; have := HL.out; omega), HRv2, HOb, HBb⟩
                  case measure => simp [intOf]; have := HL.out; omega
                · have hI3 : ¬ (a : Int) < (b : Int) := by omega
                  have HE := hid (HRv.out.end (by rw [HSl.out]; omega) (by rw [HSl.out]; omega))
                  clear hlt
                  go_wp2
                  go_ret2
                  refine ⟨_, true, rfl, .inl ⟨rfl, i, j, HLa.out, ?_⟩, HB.out⟩
                  rw [HTu.out, ← HE.out]
                  exact HO.out
end Go.Proofs.Ytaiccmbhdgecgaa

namespace Go.Proofs.Ytaiccmbhdgecgaa
open Go.RowKit
set_option maxRecDepth 100000
set_option linter.unusedVariables false
set_option linter.unusedSimpArgs false
attribute [local go_sem] Oper.semAt_some

theorem iN_app2 (P Q : List Nat) : iN (P ++ Q) = iN P ++ iN Q := by unfold iN; exact List.map_append
theorem fmx_len (N : List Nat) : ∀ h, (fmx N h).length = sN N h
  | 0 => rfl
  | h + 1 => by
    show (fmx N h ++ List.replicate (N.getD h 0) h).length = sN N h + N.getD h 0
    rw [List.length_append, fmx_len N h, List.length_replicate]
theorem oi_ow {w : World} {base : Nat} {v : Value} {R : List Int} (h : OI w base v R) : OwI w base v R := by
  refine ⟨?_, fun _ _ => rfl⟩
  rw [fl_ic]
  exact h
set_option maxHeartbeats 1000000 in
theorem firstMix_any (v : Value) (N : List Nat) (w : World) (hr : RI w v (iN N)) (hs : tN2 N ≤ 24) (hl : N.length ≤ 16) :
    Calls Try.prog 66 #[v] w fun e w' => (∃ v', e = .returned v' ∧ OwI w' w.heap.size v' (iN (fmx N N.length))) ∧ Below w.heap.size w w' := by
  obtain ⟨ao, cap, rfl, hc, hn0, hcell⟩ := hr
  have hlI : (N.length : Int) ≤ 16 := by omega
  rw [iN_len]
  have HC := hid (show ∀ i, i < N.length → ∃ g off, ao = some ⟨g, off, none⟩ ∧ w.cell? ⟨g, off + i, none⟩ = some (.int .i64 ((N.getD i 0 : Nat) : Int)) from fun i hi => by
    obtain ⟨g, off, h1, h2⟩ := hcell i (by rw [iN_len]; exact hi)
    rw [iN_at N i _ hi] at h2
    exact ⟨g, off, h1, by rw [gN N i hi]; exact h2⟩)
  have hsum : ∀ h, h ≤ N.length → sN N h ≤ 24 := fun h hh => Nat.le_trans (sN_mono N hh) hs
  have HS := hid hsum
  clear hcell hn0 hsum hc
  go_enter Try.func66, Try.ntmps66
  go_wp2_with fail
  go_loopw [3, 4, 5] (fun vl vh _ wx => ∃ h : Nat, h ≤ N.length ∧ vh = .int .i64 (h : Int) ∧ Hid (OI wx w.heap.size vl (iN (fmx N h))) ∧ Hid (Below w.heap.size w wx)) (fun _ vh _ _ => N.length - (intOf vh).toNat)
  case atStart => exact ⟨0, Nat.zero_le _, rfl, hid (OI.nil _ _), hid (Below.refl _ _)⟩
  case round =>
    obtain ⟨h, hh, rfl, HO, HB⟩ := hrel
    by_cases hlt : h < N.length
    · have hI : (h : Int) < (N.length : Int) := by omega
      have hh0 : (0 : Int) ≤ (h : Int) := by omega
      obtain ⟨g, off, hao, c0⟩ := HC.out h hlt
      subst hao
      obtain ⟨t, ht⟩ : ∃ t, N.getD h 0 = t := ⟨_, rfl⟩
      rw [ht] at c0
      have HC0 := hid c0
      have HT := hid ht
      have ht24 : t ≤ 24 := by
        have := HS.out (h + 1) hlt
        have e : sN N (h + 1) = sN N h + N.getD h 0 := rfl
        omega
      have HLn := hid (show (fmx N h).length + t ≤ 24 by
        have := HS.out (h + 1) hlt
        have e : sN N (h + 1) = sN N h + N.getD h 0 := rfl
        rw [fmx_len]
        omega)
      obtain ⟨wo, hwo⟩ : ∃ wo, wo = wr := ⟨_, rfl⟩
      subst hwo
      clear c0 ht
      go_wp2_with fail
      go_loopw [3, 5] (fun vl vi wx => ∃ i : Nat, i ≤ t ∧ vi = .int .i64 (i : Int) ∧ Hid (OI wx w.heap.size vl (iN (fmx N h ++ List.replicate i h))) ∧ Hid (Below w.heap.size w wx)) (fun _ vi _ => t - (intOf vi).toNat)
      case atStart => exact ⟨0, Nat.zero_le _, rfl, hid (by simpa using HO.out), HB⟩
      case round =>
        obtain ⟨i, hi, rfl, HO2, HB2⟩ := hrel
        have c0 := below_cells HB2.out _ _ HC0.out
        by_cases hit : i < t
        · have hI2 : (i : Int) < (t : Int) := by omega
          have hz := HB2.out.size
          have HZ := hid hz
          clear hz
          go_wp2_with (at_builtin; refine wpList_appI rfl _ _ rfl w.heap.size _ (iN (fmx N h ++ List.replicate i h)) rfl (HO2.out.alloc _) _ [(h : Int)] rfl (ri_one _ _) (by have := HLn.out; simp [iN_len]; omega) (by have := HZ.out; simp; omega) ?hnext)
          case hnext =>
            intro v2 w2 ho2 hg2
            have HO3 := hid (show OI w2 w.heap.size v2 (iN (fmx N h ++ List.replicate (i + 1) h)) by
              rw [List.replicate_succ', ← List.append_assoc, iN_app2]
              exact ho2)
            have HB3 := hid ((HB2.out.alloc (by have := HZ.out; omega) _).grown hg2 (by have := HZ.out; simp; omega) HO2.out.block_ge)
            clear ho2 hg2 HO2 HB2 HO HB
            go_wp2
            go_roundw
            case rel => exact ⟨i + 1, by omega, by go_num, HO3, HB3⟩
            case measure => simp [intOf]; omega
        · have hI2 : ¬ (i : Int) < (t : Int) := by omega
          have hit2 : i = t := by omega
          have hz3 := HO2.out
          rw [hit2, ← HT.out] at hz3
          have HO3 := hid hz3
          clear hz3
          clear hit2 hit HO HB
          go_wp2
          go_roundw
          case rel => exact ⟨h + 1, by omega, by go_num, HO3, HB2⟩
          case measure => simp [intOf]; omega
    · have hI : ¬ (h : Int) < (N.length : Int) := by omega
      have e : h = N.length := by omega
      have hz3 := HO.out
      rw [e] at hz3
      have HO3 := hid hz3
      clear hz3
      clear e hlt
      go_wp2
      go_ret
      exact ⟨⟨_, rfl, oi_ow HO3.out⟩, HB.out⟩
/-- the list behind the swap -/
theorem nxr_swap {L L' p a b : List Nat} {x y : Nat} (h : NxR L L' p x a y b) : ((L.set p.length y).set (p.length + 1 + a.length) x).take (p.length + 1) ++ (((L.set p.length y).set (p.length + 1 + a.length) x).drop (p.length + 1)).reverse = L' := by
  have e : (L.set p.length y).set (p.length + 1 + a.length) x = p ++ y :: (a ++ x :: b) := by
    rw [h.l, List.set_append_right _ _ (Nat.le_refl _), Nat.sub_self, List.set_cons_zero, List.set_append_right _ _ (by omega), show p.length + 1 + a.length - p.length = a.length + 1 by omega, List.set_cons_succ, List.set_append_right _ _ (Nat.le_refl _), Nat.sub_self, List.set_cons_zero]
  rw [e, h.r, show p ++ y :: (a ++ x :: b) = (p ++ [y]) ++ (a ++ x :: b) by simp, List.take_left' (by simp), List.drop_left' (by simp)]
  simp
theorem turned_is {L : List Nat} {i j : Nat} (h : Last L i j) : NxR L (turned L i j) (L.take i) (L.getD i 0) ((L.drop (i + 1)).take (j - (i + 1))) (L.getD j 0) (L.drop (j + 1)) := by
  have h1 := nxr_at L i j h.ij h.jl h.fall h.up h.lo
  have h2 := nxr_swap h1
  have hij := h.ij
  have hjl := h.jl
  have e1 : (L.take i).length = i := by simp; omega
  have e2 : ((L.drop (i + 1)).take (j - (i + 1))).length = j - (i + 1) := by simp; omega
  rw [e1, e2, show i + 1 + (j - (i + 1)) = j by omega] at h2
  unfold turned
  rw [h2]
  exact h1
/-- what NextMix answers to the m-th of all mixes -/
def NmA (A : List (List Nat)) (m : Nat) (w : World) (e : Ending) (w' : World) : Prop := ∃ v ok, e = .returned (.tuple #[v, .bool ok]) ∧ ((m + 1 < A.length ∧ ok = true ∧ OwI w' w.heap.size v (iN (A.getD (m + 1) []))) ∨ (m + 1 = A.length ∧ ok = false ∧ v = .slice none 0 0)) ∧ Below w.heap.size w w'
theorem nextMix_any (N : List Nat) (hs : tN2 N ≤ 24) (m : Nat) (hm : m < (AL (tN2 N) N).length) (l : Value) (w : World) (hl : RI w l (iN ((AL (tN2 N) N).getD m []))) :
    Calls Try.prog 67 #[l] w fun e w' => NmA (AL (tN2 N) N) m w e w' := by
  have e0 : (AL (tN2 N) N)[m]? = some ((AL (tN2 N) N).getD m []) := by rw [List.getD_eq_getElem?_getD, List.getElem?_eq_getElem hm]; rfl
  have hM := AL_mx _ N rfl hs m _ e0
  have hA := (AL_len _ N rfl hs).1
  refine (nextMix_raw l _ w (by rw [mx_len hM hs]; omega) hl).mono ?_
  rintro e w' ⟨v, ok, rfl, h | h, hb⟩
  · obtain ⟨rfl, i, j, hl2, ho⟩ := h
    have h3 := mx_next _ _ _ N m _ _ _ _ (turned_is hl2) hM hs
    have h4 := mx_lt h3 hs
    have h5 := AL_at _ N (m + 1) _ rfl hs h3
    refine ⟨v, true, rfl, .inl ⟨by omega, rfl, ?_⟩, hb⟩
    rw [List.getD_eq_getElem?_getD, h5]
    exact ho
  · obtain ⟨rfl, rfl, hf⟩ := h
    exact ⟨_, false, rfl, .inr ⟨by rw [hA]; exact mx_falls _ N m hM hs hf, rfl, rfl⟩, hb⟩
/-- the first of all -/
theorem al_first (N : List Nat) (hs : tN2 N ≤ 24) : 0 < (AL (tN2 N) N).length ∧ (AL (tN2 N) N).getD 0 [] = fmx N N.length := by
  have h := AL_at _ N 0 _ rfl hs (mx_first N hs)
  refine ⟨(List.getElem?_eq_some_iff.1 h).1, ?_⟩
  rw [List.getD_eq_getElem?_getD, h]
  rfl
end Go.Proofs.Ytaiccmbhdgecgaa

namespace Go.Proofs.Ytaiccmbhdgecgaa
open Go.RowKit Go.Shelf
set_option maxRecDepth 100000
set_option linter.unusedVariables false
set_option linter.unusedSimpArgs false

theorem Ow.keep {α : Type} {enc : α → List Value} {k : Nat} {t : TypeId} {col : Nat → Nat} {c : Nat} {w w' : World} {B : Nat} {v : Value} {L : List α} (h : Ow enc k t col c w B v L) (hk : ∀ g, v.ownBlock = some g → w'.heap[g]? = w.heap[g]?) : Ow enc k t col c w' B v L := by
  refine ⟨⟨h.1.1, ?_⟩, h.2⟩
  rcases h.1.2 with hn | ⟨g, cap, cur, rfl, h0, hg, h1⟩
  · exact .inl hn
  · exact .inr ⟨g, cap, cur, rfl, h0, (hk g rfl).trans hg, h1⟩
/-- books of lists of ints, a list that is wanted, whatever else lies there: P the blocks that are no list's -/
structure SX (w1 : World) (bb : Nat) (P : Nat → Prop) (X : Nat → List Int) (col : Nat → Nat) (iv iv0 : Value) (V V0 : List Value) (wv : Value) (wl : List Int) (W : World) : Prop where
  bk : BkI col W w1.heap.size bb iv iv0 V V0 X
  wl : Ow eN 1 3 col 18 W w1.heap.size wv wl
  c14 : ∀ g, P g → col g = 14
  be : Below w1.heap.size w1 W
structure PX (w1 : World) (bb : Nat) (P : Nat → Prop) : Prop where
  lo : ∀ g, g < w1.heap.size → P g
  b : P bb
  ge : w1.heap.size ≤ bb
section
variable {w1 : World} {bb : Nat} {P : Nat → Prop} {X : Nat → List Int} {col : Nat → Nat} {iv iv0 : Value} {V V0 : List Value} {wv : Value} {wl : List Int} {W W' : World}
theorem SX.keep (h : SX w1 bb P X col iv iv0 V V0 wv wl W) (Z : Nat → Prop) (hZ : ∀ g, Z g → P g ∧ g ≠ bb ∧ w1.heap.size ≤ g) (ho : W'.os = W.os) (ht : W'.tape = W.tape) (hu : W'.output = W.output) (hz : W.heap.size ≤ W'.heap.size) (hk : ∀ g, g < W.heap.size → ¬ Z g → W'.heap[g]? = W.heap[g]?) : SX w1 bb P X col iv iv0 V V0 wv wl W' := by
  have hw : ∀ {α : Type} {enc : α → List Value} {k : Nat} {ty : TypeId} {c : Nat} {v : Value} {L : List α}, Ow enc k ty col c W w1.heap.size v L → c ≠ 14 → Ow enc k ty col c W' w1.heap.size v L := fun ho hc => ho.keep fun g hg => hk g (ho.lt g hg).2 (fun z => by have := h.c14 g (hZ g z).1; rw [ho.2 g hg] at this; exact hc this)
  have hb : W'.heap[bb]? = W.heap[bb]? := hk _ h.bk.bb.lt (fun z => (hZ _ z).2.1 rfl)
  refine ⟨⟨hb.trans h.bk.bb, ⟨hw h.bk.i1.1 (by decide), fun j hj hp => hw (h.bk.i1.2 j hj hp) (by (try dsimp only); omega)⟩, hw h.bk.o0 (by decide), fun j hj hp => hw (h.bk.r0 j hj hp) (by (try dsimp only); omega), h.bk.len, h.bk.cb, h.bk.few, h.bk.sh⟩, hw h.wl (by decide), h.c14, ?_⟩
  exact h.be.trans ⟨ho, ht, hu, hz, fun k hk' => hk k (by have := h.be.size; omega) (fun z => by have := (hZ k z).2.2; omega)⟩
theorem SX.later (h : SX w1 bb P X col iv iv0 V V0 wv wl W) (hb : Below W.heap.size W W') : SX w1 bb P X col iv iv0 V V0 wv wl W' := h.keep (fun _ => False) (fun _ z => z.elim) hb.os hb.tape hb.output hb.size fun g hg _ => hb.block g hg
theorem SX.chg {Bq n : Nat} (h : SX w1 bb P X col iv iv0 V V0 wv wl W) (hZ : ∀ g, Bq ≤ g ∧ g < Bq + n → P g ∧ g ≠ bb ∧ w1.heap.size ≤ g) (hb : Chg Bq n W W') : SX w1 bb P X col iv iv0 V V0 wv wl W' := h.keep (fun g => Bq ≤ g ∧ g < Bq + n) hZ hb.os hb.tape hb.output hb.size fun g hg hn => hb.block g hg hn
theorem SX.put (h : SX w1 bb P X col iv iv0 V V0 wv wl W) (b : Nat) (hb : P b ∧ b ≠ bb ∧ w1.heap.size ≤ b) (u : Value) : SX w1 bb P X col iv iv0 V V0 wv wl (W.setCell ⟨b, 0, none⟩ u) := by
  have gb := gb_set W b 0 u
  exact h.keep (fun g => g = b) (fun g e => by rw [e]; exact hb) gb.os gb.tape gb.output gb.size fun g hg hn => gb.block g hg (fun e => by injection e with e; exact hn e)
theorem SX.recol {col' : Nat → Nat} (h : SX w1 bb P X col iv iv0 V V0 wv wl W) (hq : ∀ g, P g → g < W.heap.size) (hc : ∀ g, g < W.heap.size → col' g = col g) : SX w1 bb P X col' iv iv0 V V0 wv wl W :=
  ⟨h.bk.recol hc, h.wl.recol hc, fun g hg => by rw [hc g (hq g hg)]; exact h.c14 g hg, h.be⟩
theorem SX.setw {wv' : Value} {wl' : List Int} (h : SX w1 bb P X col iv iv0 V V0 wv wl W) (ho : Ow eN 1 3 col 18 W w1.heap.size wv' wl') : SX w1 bb P X col iv iv0 V V0 wv' wl' W := ⟨h.bk, ho, h.c14, h.be⟩
/-- a list that is new gets its colour -/
theorem SX.fresh (h : SX w1 bb P X col iv iv0 V V0 wv wl W) (hq : ∀ g, P g → g < W.heap.size) (hb : Below W.heap.size W W') (x : Value) (L : List Int) (ho : OwI W' W.heap.size x L) (c : Nat) : ∃ col', SX w1 bb P X col' iv iv0 V V0 wv wl W' ∧ Ow eN 1 3 col' c W' w1.heap.size x L ∧ ∀ g, g < W.heap.size → col' g = col g := by
  refine ⟨fun g => if W.heap.size ≤ g then c else col g, ?_, ?_, fun g hg => by show (if W.heap.size ≤ g then c else col g) = col g; rw [if_neg (by omega)]⟩
  · refine (h.recol hq fun g hg => ?_).later hb
    show (if W.heap.size ≤ g then c else col g) = col g
    rw [if_neg (by omega)]
  · have h1 : Ow eN 1 3 (fun g => if W.heap.size ≤ g then c else col g) c W' W.heap.size x L := ⟨ho.1, fun g hg => by
      show (if W.heap.size ≤ g then c else col g) = c
      rw [if_pos (ho.lt g hg).1]⟩
    exact h1.lower h.be.size
/-- behind Ints -/
theorem SX.ints (h : SX w1 bb P X col iv iv0 V V0 wv wl W) (hp : PX w1 bb P) (hq : ∀ g, P g → g < W.heap.size) {x : Value} {e : Ending} (hi : IntsA col W w1.heap.size bb V X x (X V.length) e W') : e = .returned (.tuple #[]) ∧ (∃ col' iv' iv0' V0', SX w1 bb P X col' iv' iv0' (V ++ [x]) V0' wv wl W') ∧ (∀ g, P g → g ≠ bb → W'.heap[g]? = W.heap[g]?) ∧ W.heap.size ≤ W'.heap.size := by
  obtain ⟨col', iv', iv0', V0', rfl, hB, hc, hF⟩ := hi
  have hX : (fun j => if j = V.length then X V.length else X j) = X := by
    funext j
    by_cases e : j = V.length
    · rw [if_pos e, e]
    · rw [if_neg e]
  rw [hX] at hB
  have k14 : ∀ g, P g → col g ≠ 2 ∧ col g ≠ 6 := fun g hg => by rw [h.c14 g hg]; decide
  have hx : ∀ g, P g → g ≠ bb → W'.heap[g]? = W.heap[g]? := fun g hg hn => hF.block g (hq g hg) hn (k14 g hg).1 (k14 g hg).2
  refine ⟨rfl, ⟨col', iv', iv0', V0', hB, ?_, fun g hg => ?_, ?_⟩, hx, hF.size⟩
  · refine (h.wl.recol hc).keep fun g hg => ?_
    have hcg := h.wl.2 g hg
    exact hF.block g (h.wl.lt g hg).2 (fun e => by rw [e, h.bk.cb] at hcg; exact absurd hcg (by decide)) (by rw [hcg]; decide) (by rw [hcg]; decide)
  · rw [hc g (hq g hg)]
    exact h.c14 g hg
  · exact h.be.trans ⟨hF.os, hF.tape, hF.output, hF.size, fun k hk => hx k (hp.lo k hk) (fun e => by have := hp.ge; omega)⟩
end
/-- the variables of 'goes': most, stop, the result, more, want, n, left -/
structure GX (B bn : Nat) (mo st : Int) (mr : Bool) (wv : Value) (k : Nat) (lf : Bool) (W : World) : Prop where
  m6 : IBox W B mo
  m7 : IBox W (B + 1) st
  r8 : Boxed W (B + 2) 4 (.bool false)
  m10 : Boxed W (B + 4) 4 (.bool mr)
  w11 : Boxed W (B + 5) 22 wv
  n12 : IBox W bn (k : Int)
  l13 : Boxed W (bn + 1) 4 (.bool lf)
section
variable {B bn : Nat} {mo st : Int} {mr : Bool} {wv : Value} {k : Nat} {lf : Bool} {W W' : World}
theorem GX.keep (h : GX B bn mo st mr wv k lf W) (hk : ∀ g, ((B ≤ g ∧ g < B + 6 ∧ g ≠ B + 3) ∨ g = bn ∨ g = bn + 1) → g < W.heap.size → W'.heap[g]? = W.heap[g]?) : GX B bn mo st mr wv k lf W' :=
  ⟨(hk _ (.inl ⟨by omega, by omega, by omega⟩) h.m6.facts.2.2).trans h.m6, (hk _ (.inl ⟨by omega, by omega, by omega⟩) h.m7.facts.2.2).trans h.m7, (hk _ (.inl ⟨by omega, by omega, by omega⟩) h.r8.lt).trans h.r8, (hk _ (.inl ⟨by omega, by omega, by omega⟩) h.m10.lt).trans h.m10, (hk _ (.inl ⟨by omega, by omega, by omega⟩) h.w11.lt).trans h.w11, (hk _ (.inr (.inl rfl)) h.n12.facts.2.2).trans h.n12, (hk _ (.inr (.inr rfl)) h.l13.lt).trans h.l13⟩
theorem GX.setm (h : GX B bn mo st mr wv k lf W) (hb : B + 6 ≤ bn) (b : Bool) : GX B bn mo st b wv k lf (W.setCell ⟨B + 4, 0, none⟩ (.bool b)) := by
  have gb := gb_set W (B + 4) 0 (.bool b)
  have hk : ∀ g, g ≠ B + 4 → g < W.heap.size → (W.setCell ⟨B + 4, 0, none⟩ (.bool b)).heap[g]? = W.heap[g]? := fun g hn hg => gb.block g hg (fun e => by injection e with e; exact hn e)
  exact ⟨(hk _ (by omega) h.m6.facts.2.2).trans h.m6, (hk _ (by omega) h.m7.facts.2.2).trans h.m7, (hk _ (by omega) h.r8.lt).trans h.r8, h.m10.set _, (hk _ (by omega) h.w11.lt).trans h.w11, (hk _ (by omega) h.n12.facts.2.2).trans h.n12, (hk _ (by omega) h.l13.lt).trans h.l13⟩
theorem GX.setw (h : GX B bn mo st mr wv k lf W) (hb : B + 6 ≤ bn) (v : Value) : GX B bn mo st mr v k lf (W.setCell ⟨B + 5, 0, none⟩ v) := by
  have gb := gb_set W (B + 5) 0 v
  have hk : ∀ g, g ≠ B + 5 → g < W.heap.size → (W.setCell ⟨B + 5, 0, none⟩ v).heap[g]? = W.heap[g]? := fun g hn hg => gb.block g hg (fun e => by injection e with e; exact hn e)
  exact ⟨(hk _ (by omega) h.m6.facts.2.2).trans h.m6, (hk _ (by omega) h.m7.facts.2.2).trans h.m7, (hk _ (by omega) h.r8.lt).trans h.r8, (hk _ (by omega) h.m10.lt).trans h.m10, h.w11.set _, (hk _ (by omega) h.n12.facts.2.2).trans h.n12, (hk _ (by omega) h.l13.lt).trans h.l13⟩
theorem GX.setn (h : GX B bn mo st mr wv k lf W) (hb : B + 6 ≤ bn) (k' : Nat) : GX B bn mo st mr wv k' lf (W.setCell ⟨bn, 0, none⟩ (.int .i64 (k' : Int))) := by
  have gb := gb_set W bn 0 (.int .i64 (k' : Int))
  have hk : ∀ g, g ≠ bn → g < W.heap.size → (W.setCell ⟨bn, 0, none⟩ (.int .i64 (k' : Int))).heap[g]? = W.heap[g]? := fun g hn hg => gb.block g hg (fun e => by injection e with e; exact hn e)
  exact ⟨(hk _ (by omega) h.m6.facts.2.2).trans h.m6, (hk _ (by omega) h.m7.facts.2.2).trans h.m7, (hk _ (by omega) h.r8.lt).trans h.r8, (hk _ (by omega) h.m10.lt).trans h.m10, (hk _ (by omega) h.w11.lt).trans h.w11, h.n12.put _, (hk _ (by omega) h.l13.lt).trans h.l13⟩
theorem GX.setl (h : GX B bn mo st mr wv k lf W) (hb : B + 6 ≤ bn) (b : Bool) : GX B bn mo st mr wv k b (W.setCell ⟨bn + 1, 0, none⟩ (.bool b)) := by
  have gb := gb_set W (bn + 1) 0 (.bool b)
  have hk : ∀ g, g ≠ bn + 1 → g < W.heap.size → (W.setCell ⟨bn + 1, 0, none⟩ (.bool b)).heap[g]? = W.heap[g]? := fun g hn hg => gb.block g hg (fun e => by injection e with e; exact hn e)
  exact ⟨(hk _ (by omega) h.m6.facts.2.2).trans h.m6, (hk _ (by omega) h.m7.facts.2.2).trans h.m7, (hk _ (by omega) h.r8.lt).trans h.r8, (hk _ (by omega) h.m10.lt).trans h.m10, (hk _ (by omega) h.w11.lt).trans h.w11, (hk _ (by omega) h.n12.facts.2.2).trans h.n12, h.l13.set _⟩
end
/-- the blocks that are no list's: all older ones, the variables, what the iterator writes -/
def PG (B bn Bq c g : Nat) : Prop := g < B + 6 ∨ g = bn ∨ g = bn + 1 ∨ (Bq ≤ g ∧ g < Bq + c)
structure PrG (B bn Bq c : Nat) (z : Nat) : Prop where
  n : B + 6 ≤ bn
  q : bn + 2 ≤ Bq
  z : Bq + c ≤ z
/-- all that holds between two statements of a round: the m-th of all mixes is wanted, k lists were told -/
structure GS (w1 : World) (bn Bq c : Nat) (mo st : Int) (X : Nat → List Int) (A : List (List Nat)) (col : Nat → Nat) (iv iv0 : Value) (V V0 : List Value) (wv : Value) (m k : Nat) (lf : Bool) (W : World) : Prop where
  sx : SX w1 (w1.heap.size + 3) (PG w1.heap.size bn Bq c) X col iv iv0 V V0 wv (if m < A.length then iN (A.getD m []) else []) W
  gx : GX w1.heap.size bn mo st (decide (m < A.length)) wv k lf W
section
variable {w1 : World} {bn Bq c : Nat} {mo st : Int} {X : Nat → List Int} {A : List (List Nat)} {col : Nat → Nat} {iv iv0 : Value} {V V0 : List Value} {wv : Value} {m k : Nat} {lf : Bool} {W W' : World}
theorem PrG.px {z : Nat} (hp : PrG w1.heap.size bn Bq c z) : PX w1 (w1.heap.size + 3) (PG w1.heap.size bn Bq c) := ⟨fun g hg => .inl (by omega), .inl (by omega), by omega⟩
theorem PrG.lt {B z : Nat} (hp : PrG B bn Bq c z) {x : Nat} (hx : z ≤ x) : ∀ g, PG B bn Bq c g → g < x := fun g hg => by
  have h1 := hp.n
  have h2 := hp.q
  have h3 := hp.z
  unfold PG at hg
  omega
theorem GS.later (h : GS w1 bn Bq c mo st X A col iv iv0 V V0 wv m k lf W) (hb : Below W.heap.size W W') : GS w1 bn Bq c mo st X A col iv iv0 V V0 wv m k lf W' := ⟨h.sx.later hb, h.gx.keep fun g _ hg => hb.block g hg⟩
theorem GS.chg {z : Nat} (h : GS w1 bn Bq c mo st X A col iv iv0 V V0 wv m k lf W) (hp : PrG w1.heap.size bn Bq c z) {n : Nat} (hn : n ≤ c) (hb : Chg Bq n W W') : GS w1 bn Bq c mo st X A col iv iv0 V V0 wv m k lf W' := by
  have h1 := hp.n
  have h2 := hp.q
  exact ⟨h.sx.chg (fun g hg => ⟨.inr (.inr (.inr ⟨hg.1, by omega⟩)), by omega, by omega⟩) hb, h.gx.keep fun g hg hlt => hb.block g hlt (by omega)⟩
theorem GS.fresh {z : Nat} (h : GS w1 bn Bq c mo st X A col iv iv0 V V0 wv m k lf W) (hp : PrG w1.heap.size bn Bq c z) (hz : z ≤ W.heap.size) (hb : Below W.heap.size W W') (x : Value) (L : List Int) (ho : OwI W' W.heap.size x L) (cc : Nat) : ∃ col', GS w1 bn Bq c mo st X A col' iv iv0 V V0 wv m k lf W' ∧ Ow eN 1 3 col' cc W' w1.heap.size x L ∧ ∀ g, g < W.heap.size → col' g = col g := by
  obtain ⟨col', h1, h2, h3⟩ := h.sx.fresh (hp.lt hz) hb x L ho cc
  exact ⟨col', ⟨h1, h.gx.keep fun g _ hg => hb.block g hg⟩, h2, h3⟩
theorem GS.ints {z : Nat} (h : GS w1 bn Bq c mo st X A col iv iv0 V V0 wv m k lf W) (hp : PrG w1.heap.size bn Bq c z) (hz : z ≤ W.heap.size) {x : Value} {e : Ending} (hi : IntsA col W w1.heap.size (w1.heap.size + 3) V X x (X V.length) e W') : e = .returned (.tuple #[]) ∧ (∃ col' iv' iv0' V0', GS w1 bn Bq c mo st X A col' iv' iv0' (V ++ [x]) V0' wv m k lf W') ∧ KpW w1.heap.size Bq c W W' := by
  obtain ⟨rfl, ⟨col', iv', iv0', V0', h1⟩, h2, h3⟩ := h.sx.ints hp.px (hp.lt hz) hi
  have hn := hp.n
  have hq := hp.q
  refine ⟨rfl, ⟨col', iv', iv0', V0', h1, h.gx.keep fun g hg _ => h2 g (by unfold PG; omega) (by omega)⟩, h3, fun g hg => h2 g (by unfold PG; omega) (by omega)⟩
theorem PG.put {z : Nat} (hp : PrG w1.heap.size bn Bq c z) (b : Nat) (hb : b = w1.heap.size + 4 ∨ b = w1.heap.size + 5 ∨ b = bn ∨ b = bn + 1) : PG w1.heap.size bn Bq c b ∧ b ≠ w1.heap.size + 3 ∧ w1.heap.size ≤ b := by
  have hn := hp.n
  have hq := hp.q
  unfold PG
  omega
theorem kpw_put {B z : Nat} (hp : PrG B bn Bq c z) (b : Nat) (hb : b = B + 4 ∨ b = B + 5 ∨ b = bn ∨ b = bn + 1) (u : Value) : KpW B Bq c W (W.setCell ⟨b, 0, none⟩ u) := by
  have hn := hp.n
  have hq := hp.q
  refine ⟨by simp, fun k hk => ?_⟩
  by_cases hlt : k < W.heap.size
  · exact (gb_set W b 0 u).block k hlt (fun e => by injection e with e; omega)
  · rw [Array.getElem?_eq_none (by simp; omega), Array.getElem?_eq_none (by omega)]
theorem kpw_later {B z : Nat} (hp : PrG B bn Bq c z) (hz : z ≤ W.heap.size) (hb : Below W.heap.size W W') : KpW B Bq c W W' := by
  have hn := hp.n
  have hq := hp.q
  have hz2 := hp.z
  exact ⟨hb.size, fun k hk => hb.block k (by omega)⟩
theorem GS.narrow {c' : Nat} (h : GS w1 bn Bq c mo st X A col iv iv0 V V0 wv m k lf W) (hc : c' ≤ c) : GS w1 bn Bq c' mo st X A col iv iv0 V V0 wv m k lf W := ⟨⟨h.sx.bk, h.sx.wl, fun g hg => h.sx.c14 g (by unfold PG at hg ⊢; omega), h.sx.be⟩, h.gx⟩
/-- the next one is wanted -/
theorem GS.want {z : Nat} (h : GS w1 bn Bq c mo st X A col iv iv0 V V0 wv m k lf W) (hp : PrG w1.heap.size bn Bq c z) (v : Value) (ho : Ow eN 1 3 col 18 W w1.heap.size v (if m + 1 < A.length then iN (A.getD (m + 1) []) else [])) : GS w1 bn Bq c mo st X A col iv iv0 V V0 v (m + 1) k lf ((W.setCell ⟨w1.heap.size + 5, 0, none⟩ v).setCell ⟨w1.heap.size + 4, 0, none⟩ (.bool (decide (m + 1 < A.length)))) := by
  have hn := hp.n
  exact ⟨((h.sx.setw ho).put _ (PG.put hp _ (.inr (.inl rfl))) _).put _ (PG.put hp _ (.inl rfl)) _, (h.gx.setw hn v).setm hn _⟩
theorem GS.setn {z : Nat} (h : GS w1 bn Bq c mo st X A col iv iv0 V V0 wv m k lf W) (hp : PrG w1.heap.size bn Bq c z) (k' : Nat) : GS w1 bn Bq c mo st X A col iv iv0 V V0 wv m k' lf (W.setCell ⟨bn, 0, none⟩ (.int .i64 (k' : Int))) := ⟨h.sx.put _ (PG.put hp _ (.inr (.inr (.inl rfl)))) _, h.gx.setn hp.n k'⟩
theorem GS.setl {z : Nat} (h : GS w1 bn Bq c mo st X A col iv iv0 V V0 wv m k lf W) (hp : PrG w1.heap.size bn Bq c z) (b : Bool) : GS w1 bn Bq c mo st X A col iv iv0 V V0 wv m k b (W.setCell ⟨bn + 1, 0, none⟩ (.bool b)) := ⟨h.sx.put _ (PG.put hp _ (.inr (.inr (.inr rfl)))) _, h.gx.setl hp.n b⟩
end
/-- k of the filtered list were told where m of the whole are passed -/
def Gat (A : List (List Nat)) (p : List Nat → Bool) (G : List (List Nat)) (m k : Nat) : Prop := m ≤ A.length ∧ k ≤ G.length ∧ G.drop k = (A.drop m).filter p
theorem Gat.start {A : List (List Nat)} {p : List Nat → Bool} {G : List (List Nat)} (h : G = A.filter p) : Gat A p G 0 0 := ⟨Nat.zero_le _, Nat.zero_le _, h⟩
theorem Gat.lt {A : List (List Nat)} {p : List Nat → Bool} {G : List (List Nat)} {m k : Nat} (h : Gat A p G m k) (hk : k < G.length) : m < A.length := by
  rcases Nat.lt_or_ge m A.length with h1 | h1
  · exact h1
  · have h2 := h.2.2
    rw [List.drop_eq_nil_of_le h1] at h2
    have := congrArg List.length h2
    simp at this
    omega
theorem Gat.skip {A : List (List Nat)} {p : List Nat → Bool} {G : List (List Nat)} {m k : Nat} (h : Gat A p G m k) (hm : m < A.length) (hp : p (A.getD m []) = false) : Gat A p G (m + 1) k := by
  refine ⟨hm, h.2.1, ?_⟩
  have h2 := h.2.2
  have e : A.getD m [] = A[m] := by rw [List.getD_eq_getElem?_getD, List.getElem?_eq_getElem hm]; rfl
  rw [List.drop_eq_getElem_cons hm, ← e, List.filter_cons_of_neg (by rw [hp]; decide)] at h2
  exact h2
theorem Gat.take {A : List (List Nat)} {p : List Nat → Bool} {G : List (List Nat)} {m k : Nat} (h : Gat A p G m k) (hk : k < G.length) (hp : p (A.getD m []) = true) : A.getD m [] = G.getD k [] ∧ Gat A p G (m + 1) (k + 1) := by
  have hm := h.lt hk
  have h2 := h.2.2
  have e : A.getD m [] = A[m] := by rw [List.getD_eq_getElem?_getD, List.getElem?_eq_getElem hm]; rfl
  have e2 : G.getD k [] = G[k] := by rw [List.getD_eq_getElem?_getD, List.getElem?_eq_getElem hk]; rfl
  rw [List.drop_eq_getElem_cons hm, ← e, List.filter_cons_of_pos hp, List.drop_eq_getElem_cons hk, ← e2] at h2
  injection h2 with h3 h4
  exact ⟨h3.symm, hm, hk, h4⟩
theorem Gat.none {A : List (List Nat)} {p : List Nat → Bool} {G : List (List Nat)} {m : Nat} (h : Gat A p G m G.length) (hm : m < A.length) : p (A.getD m []) = false := by
  have h2 := h.2.2
  have e : A.getD m [] = A[m] := by rw [List.getD_eq_getElem?_getD, List.getElem?_eq_getElem hm]; rfl
  rw [List.drop_length, List.drop_eq_getElem_cons hm, ← e] at h2
  cases hp : p (A.getD m []) with
  | false => rfl
  | true =>
    rw [List.filter_cons_of_pos hp] at h2
    cases h2
end Go.Proofs.Ytaiccmbhdgecgaa

namespace Go.Proofs.Ytaiccmbhdgecgaa
open Go.RowKit Go.Shelf
set_option maxRecDepth 100000
attribute [local go_sem] Oper.semAt_some

theorem canMixes_any (v : Value) (R : List Int) (w : World) (hr : RI w v R) (hl : R.length ≤ 9223372036854775807) :
    Calls Try.prog 65 #[v] w fun e w' => e = .returned (.bool (smR R)) ∧ w' = w := by
  have HC := hid (count7_any v R w hr hl)
  obtain ⟨cn, hcn⟩ : ∃ cn, (cntA R).1 = cn := ⟨_, rfl⟩
  obtain ⟨ce, hce⟩ : ∃ ce, (cntA R).2 = ce := ⟨_, rfl⟩
  have HS := hid (show smR R = (decide (ce = 0) && decide (cn ≤ 1048576)) by unfold smR; rw [hcn, hce])
  rw [hcn, hce] at HC
  obtain ⟨sm, hsm⟩ : ∃ sm, smR R = sm := ⟨_, rfl⟩
  rw [hsm] at HS ⊢
  obtain ⟨ao, cap, hv⟩ := hr.len0
  subst hv
  clear hr hcn hce hsm
  go_enter Try.func65, Try.ntmps65
  go_wp2_with fail
  refine Calls.mono HC.out ?_
  rintro e wz ⟨rfl, hwz⟩
  replace hwz := hwz.symm
  subst hwz
  by_cases he : ce = 0
  · have heb : (ce == 0) = true := by simpa using he
    by_cases hn : cn ≤ 1048576
    · have HE := hid (show sm = true by rw [HS.out]; simp [he, hn])
      clear HS he
      go_wp2
      go_ret
      exact ⟨by rw [HE.out]; rfl, rfl⟩
    · have HE := hid (show sm = false by rw [HS.out]; simp [he, hn])
      have HN := hid hn
      clear HS he
      go_wp2
      go_ret
      exact ⟨by rw [HE.out, decide_eq_false (show ¬ cn ≤ 1048576 by have := HN.out; omega)]; rfl, rfl⟩
  · have heb : (ce == 0) = false := by simpa using he
    have HE := hid (show sm = false by rw [HS.out]; simp [he])
    clear HS he
    go_wp2
    go_ret
    exact ⟨by rw [HE.out]; rfl, rfl⟩
end Go.Proofs.Ytaiccmbhdgecgaa

namespace Go.Proofs.Ytaiccmbhdgecgaa
open Go.RowKit Go.Shelf
set_option maxRecDepth 100000
set_option linter.unusedVariables false
set_option linter.unusedSimpArgs false

/-- few enough switches -/
def fewS (mo : Int) (x : List Nat) : Bool := decide (((cS x x.length : Nat) : Int) ≤ mo)
/-- A: all mixes, if they are gone over at all -/
structure AGs (R : List Int) (mo : Int) (A : List (List Nat)) : Prop where
  fil : GL R mo = A.filter (fewS mo)
  each : ∀ m, (∀ y ∈ A.getD m [], y < 16) ∧ (A.getD m []).length ≤ 24
  len : A.length ≤ 1048576
  next : ∀ m, m < A.length → ∀ (l : Value) (w : World), RI w l (iN (A.getD m [])) → Calls Try.prog 67 #[l] w fun e w' => NmA A m w e w'
  first : ∀ (v : Value) (w : World), 0 < A.length → RI w v R → Calls Try.prog 66 #[v] w fun e w' => (∃ v', e = .returned v' ∧ OwI w' w.heap.size v' (iN (A.getD 0 []))) ∧ Below w.heap.size w w'
  cond : (decide (0 ≤ mo) && smR R) = decide (0 < A.length)
theorem agx (R : List Int) (mo : Int) : ∃ A, AGs R mo A := by
  by_cases hc : (decide (0 ≤ mo) && smR R) = true
  · have h1 : 0 ≤ mo := by have := (Bool.and_eq_true _ _ ▸ hc).1; exact of_decide_eq_true this
    have h2 : smR R = true := (Bool.and_eq_true _ _ ▸ hc).2
    have h3 := h2
    unfold smR at h3
    have h4 : (cntA R).2 = 0 := of_decide_eq_true (Bool.and_eq_true _ _ ▸ h3).1
    have h5 : (cntA R).1 ≤ 1048576 := of_decide_eq_true (Bool.and_eq_true _ _ ▸ h3).2
    obtain ⟨N, rfl, a1, a2, a3, a4, a5⟩ := cnt_ok h4
    have hM : mN N ≤ 1048576 := by rw [a5] at h5; exact Int.ofNat_le.1 h5
    have hL := (AL_len _ N rfl a3).1
    have hmx : ∀ m, m < (AL (tN2 N) N).length → Mx N m ((AL (tN2 N) N).getD m []) := fun m hm => AL_mx _ N rfl a3 m _ (by rw [List.getD_eq_getElem?_getD, List.getElem?_eq_getElem hm]; rfl)
    refine ⟨AL (tN2 N) N, ?_, fun m => ?_, by omega, fun m hm l w hl => nextMix_any N a3 m hm l w hl, fun v w h0 hr => ?_, ?_⟩
    · unfold GL
      rw [h2, decide_eq_false (by omega : ¬ mo < 0), iN_nats]
      show (if (true && !false) = true then FL (tN2 N) N (-1) mo else []) = _
      rw [if_pos (show (true && !false) = true from rfl), FL_is _ _ _ _ h1]
      refine List.filter_congr fun x hx => ?_
      obtain ⟨i, hi, rfl⟩ := List.getElem_of_mem hx
      have := hmx i hi
      rw [List.getD_eq_getElem?_getD, List.getElem?_eq_getElem hi, Option.getD_some] at this
      show decide (((swc N (-1) _ : Nat) : Int) ≤ mo) = decide (((cS _ _ : Nat) : Int) ≤ mo)
      rw [← swc_mx this a2]
    · by_cases hm : m < (AL (tN2 N) N).length
      · have := hmx m hm
        exact ⟨fun y hy => by have := mx_in this y hy; omega, by rw [mx_len this a3]; exact a3⟩
      · rw [List.getD_eq_getElem?_getD, List.getElem?_eq_none (by omega)]
        exact ⟨fun y hy => absurd hy List.not_mem_nil, Nat.zero_le _⟩
    · rw [(al_first N a3).2]
      exact firstMix_any v N w hr a3 a2
    · rw [hc, decide_eq_true (al_first N a3).1]
  · have hc2 : (decide (0 ≤ mo) && smR R) = false := by simpa using hc
    refine ⟨[], ?_, fun m => ⟨fun y hy => absurd hy List.not_mem_nil, Nat.zero_le _⟩, Nat.zero_le _, fun m hm => absurd hm (Nat.not_lt_zero _), fun v w h0 => absurd h0 (Nat.not_lt_zero _), ?_⟩
    · unfold GL
      rw [if_neg]
      · rfl
      · intro h
        apply hc
        have h1 := (Bool.and_eq_true _ _ ▸ h).1
        have h2 := (Bool.and_eq_true _ _ ▸ h).2
        rw [h1, Bool.and_true]
        simp at h2
        exact decide_eq_true h2
    · rw [hc2]; rfl
/-- how many switches the wanted one has -/
theorem sw_call {R : List Int} {mo : Int} {A : List (List Nat)} (hA : AGs R mo A) (m : Nat) (v : Value) (w : World) (hr : RI w v (iN (A.getD m []))) : Calls Try.prog 25 #[v] w fun e w' => e = .returned (.tuple #[.int .i64 (cS (A.getD m []) (A.getD m []).length : Int), .int .i64 0]) ∧ Below w.heap.size w w' :=
  (switches7_any v _ w hr (by rw [iN_len]; have := (hA.each m).2; omega)).mono fun e w' h => ⟨swA_mix (hA.each m).1 (hA.each m).2 h.1, h.2⟩
theorem same_call {R : List Int} {mo : Int} {A : List (List Nat)} (hA : AGs R mo A) (m : Nat) (v p : Value) (w : World) (hv : RI w v (iN (A.getD m []))) (hp : RI w p (iN (A.getD m []))) : Calls Try.prog 21 #[v, p] w fun e w' => e = .returned (.bool true) ∧ Below w.heap.size w w' :=
  (same_any v p _ _ w hv hp (by rw [iN_len]; have := (hA.each m).2; omega) (by rw [iN_len]; have := (hA.each m).2; omega)).mono fun e w' h => by
    obtain ⟨⟨b, rfl, hb⟩, hB⟩ := h
    have : b = true := hb.2 rfl
    subst this
    exact ⟨rfl, hB⟩
theorem range_c3 {g : Operand} {p q : Tmp} {assign body : Code} {Q0 : Exit → Act → World → Prop} {a : Act} {w w0 : World} {gf : Nat} {lb : Array Value} {c Lo B0 n : Nat} {D : Nat → World → Value → World → Prop} {id : Nat}
    (hg : a.eval g = .func (.func gf) #[] lb) (eg : ∀ args w, (callFunc gf args).run Try.prog w = .ok (.enter gf args) w) (hseq : SeqC gf lb c Lo B0 n D w0) (hkp : KpL Lo B0 w0 w) (hB0 : B0 ≤ w.heap.size)
    (I Ix : Nat → World → Prop) (hI : ∀ k A A', I k A → Chg w.heap.size (c + 2) A A' → I k A') (hIx : ∀ k A A', Ix k A → Chg w.heap.size (c + 2) A A' → Ix k A') (h0 : I 0 w)
    (hassign : ∀ (l : Nat) (x : Value) (W : World) (K : Act → World → Prop), K { tmps := (a.tmps.setIfInBounds p x).setIfInBounds q x, defers := [] } W → assign.wpIn (Fence.wide.inRound l) 3 Try.prog (Exit.then K (fun _ _ _ => False)) { tmps := a.tmps.setIfInBounds p x, defers := [] } W)
    (hbody : ∀ (l k : Nat) (x : Value) (A W1 W : World), I k A → k < n → Below A.heap.size A W1 → D k A x W1 → Chg w.heap.size 2 W1 W → W.heap.size = W1.heap.size → w.heap.size + 2 + c ≤ A.heap.size → body.wpIn (Fence.wide.inRound l) 3 Try.prog (endC id c Lo B0 w.heap.size I Ix (k + 1) W) { tmps := (a.tmps.setIfInBounds p x).setIfInBounds q x, defers := [] } W)
    (G : World → Prop) (hd : ∀ W, I n W → G W) (hs : ∀ k W, Ix k W → G W)
    (hgo : ∀ W, G W → W.heap[w.heap.size]? = some (.deferred (some [])) → Q0 .normal { a with defers := { target := .collected w.heap.size, args := #[] } :: a.defers } W) :
    (Code.rangeFunc g #[p] assign body).wpIn Fence.wide 5 Try.prog (Exit.inBlock id Q0) a w :=
  range_c2 hg eg hseq hkp hB0 I Ix hI hIx h0 (fun x => { tmps := (a.tmps.setIfInBounds p x).setIfInBounds q x, defers := [] }) hassign hbody G hd hs hgo
/-- between two lists of the range; behind the range -/
def RIg (w1 : World) (bn Bq c : Nat) (mo st : Int) (A G : List (List Nat)) (k : Nat) (W : World) : Prop := ∃ m col iv iv0 V V0 wv, GS w1 bn Bq c mo st (fun j => iN (G.getD j [])) A col iv iv0 V V0 wv m k false W ∧ Gat A (fewS mo) G m k ∧ V.length = min k 40
def RXg (w1 : World) (bn Bq c : Nat) (mo st : Int) (A G : List (List Nat)) (lf : Bool) (W : World) : Prop := ∃ m k col iv iv0 V V0 wv, GS w1 bn Bq c mo st (fun j => iN (G.getD j [])) A col iv iv0 V V0 wv m k lf W ∧ (lf = false → Gat A (fewS mo) G m G.length)
/-- the state ahead of the range -/
theorem gs_start {w1 Wb : World} {bn c : Nat} {mo st : Int} {R : List Int} {A : List (List Nat)} {wv : Value} (hA : AGs R mo A) (hb : BkB Wb (w1.heap.size + 3) (.slice none 0 0) (.slice none 0 0)) (hx : GX w1.heap.size bn mo st (decide (0 < A.length)) wv 0 false Wb) (hw : OwI Wb (w1.heap.size + 6) wv (if 0 < A.length then iN (A.getD 0 []) else [])) (hne : ∀ g, wv.ownBlock = some g → g ≠ bn ∧ g ≠ bn + 1) (hbe : Below w1.heap.size w1 Wb) (hn : bn + 2 ≤ Wb.heap.size) : RIg w1 bn Wb.heap.size c mo st A (GL R mo) 0 Wb := by
  refine ⟨0, fun g => if wv.ownBlock = some g then 18 else 14, _, _, [], [], wv, ⟨⟨⟨hb, ⟨Ow.nil _ _ _ _, RwG.nil _ _ _ _ _ _ _ _ _⟩, Ow.nil _ _ _ _, RwG.nil _ _ _ _ _ _ _ _ _, rfl, ?_, by simp, fun j => ?_⟩, ?_, fun g hg => ?_, hbe⟩, hx⟩, Gat.start hA.fil, by simp⟩
  · show (if wv.ownBlock = some (w1.heap.size + 3) then 18 else 14) = 14
    rw [if_neg (fun e => by have := (hw.lt _ e).1; omega)]
  · show (iN ((GL R mo).getD j [])).length ≤ _
    rw [iN_len]
    by_cases hj : j < (GL R mo).length
    · have hm : (GL R mo).getD j [] ∈ A := by
        have h1 : (GL R mo).getD j [] = (GL R mo)[j] := by rw [List.getD_eq_getElem?_getD, List.getElem?_eq_getElem hj]; rfl
        rw [h1]
        have h2 : (GL R mo)[j] ∈ A.filter (fewS mo) := by rw [← hA.fil]; exact List.getElem_mem _
        exact (List.mem_filter.1 h2).1
      obtain ⟨i, hi, e⟩ := List.getElem_of_mem hm
      have := (hA.each i).2
      rw [List.getD_eq_getElem?_getD, List.getElem?_eq_getElem hi] at this
      rw [← e]
      exact Nat.le_trans this (by decide)
    · rw [List.getD_eq_getElem?_getD, List.getElem?_eq_none (by omega)]
      exact Nat.zero_le _
  · have h2 : Ow eN 1 3 (fun g => if wv.ownBlock = some g then 18 else 14) 18 Wb (w1.heap.size + 6) wv (if 0 < A.length then iN (A.getD 0 []) else []) := ⟨hw.1, fun g hg => by show (if wv.ownBlock = some g then 18 else 14) = 18; rw [if_pos hg]⟩
    exact h2.lower (by omega)
  · show (if wv.ownBlock = some g then 18 else 14) = 14
    rw [if_neg (fun e => by
      have h1 := hw.lt _ e
      have h2 := hne _ e
      unfold PG at hg
      omega)]
end Go.Proofs.Ytaiccmbhdgecgaa

namespace Go.Proofs.Ytaiccmbhdgecgaa
open Go.RowKit Go.Shelf
set_option maxRecDepth 100000
set_option linter.unusedVariables false
set_option linter.unusedSimpArgs false
attribute [local go_sem] Oper.semAt_some
attribute [local go_sem ↓] apN_op

def zBk : Array Value := #[.slice none 0 0, .slice none 0 0, .slice none 0 0, .slice none 0 0, .slice none 0 0, .slice none 0 0, .slice none 0 0, .slice none 0 0, .slice none 0 0, .slice none 0 0, .slice none 0 0, .slice none 0 0, .slice none 0 0, .slice none 0 0]
/-- the six first variables -/
structure G0 (w1 Wb : World) (mo st : Int) (mr : Bool) (wv : Value) : Prop where
  b : BkB Wb (w1.heap.size + 3) (.slice none 0 0) (.slice none 0 0)
  m6 : IBox Wb w1.heap.size mo
  m7 : IBox Wb (w1.heap.size + 1) st
  r8 : Boxed Wb (w1.heap.size + 2) 4 (.bool false)
  m10 : Boxed Wb (w1.heap.size + 4) 4 (.bool mr)
  w11 : Boxed Wb (w1.heap.size + 5) 22 wv
  be : Below w1.heap.size w1 Wb
  sz : w1.heap.size + 6 ≤ Wb.heap.size
def W4 (w1 : World) (mo st : Int) : World := (((w1.alloc (.cells #[.int .i64 mo] 3)).alloc (.cells #[.int .i64 st] 3)).alloc (.cells #[.bool false] 4)).alloc (.cells zBk 53)
theorem w4_size (w1 : World) (mo st : Int) : (W4 w1 mo st).heap.size = w1.heap.size + 4 := by unfold W4; simp
theorem g0_new (w1 : World) (mo st : Int) (mr : Bool) : G0 w1 (((W4 w1 mo st).alloc (.cells #[.bool mr] 4)).alloc (.cells #[.slice none 0 0] 22)) mo st mr (.slice none 0 0) := by
  have h0 := heap_alloc_new w1 (.cells #[.int .i64 mo] 3)
  have h1 := heap_alloc_new (w1.alloc (.cells #[.int .i64 mo] 3)) (.cells #[.int .i64 st] 3)
  have h2 := heap_alloc_new ((w1.alloc (.cells #[.int .i64 mo] 3)).alloc (.cells #[.int .i64 st] 3)) (.cells #[.bool false] 4)
  have h3 := heap_alloc_new (((w1.alloc (.cells #[.int .i64 mo] 3)).alloc (.cells #[.int .i64 st] 3)).alloc (.cells #[.bool false] 4)) (.cells zBk 53)
  have h4 := heap_alloc_new (W4 w1 mo st) (.cells #[.bool mr] 4)
  have h5 := heap_alloc_new ((W4 w1 mo st).alloc (.cells #[.bool mr] 4)) (.cells #[.slice none 0 0] 22)
  have z4 := w4_size w1 mo st
  simp only [World.size_alloc] at h1 h2 h3 h5
  rw [z4] at h4 h5
  have o5 : ∀ g, g < w1.heap.size + 5 → (((W4 w1 mo st).alloc (.cells #[.bool mr] 4)).alloc (.cells #[.slice none 0 0] 22)).heap[g]? = ((W4 w1 mo st).alloc (.cells #[.bool mr] 4)).heap[g]? := fun g hg => Lib.alloc_old _ _ _ (by simp [z4]; omega)
  have o4 : ∀ g, g < w1.heap.size + 4 → ((W4 w1 mo st).alloc (.cells #[.bool mr] 4)).heap[g]? = (W4 w1 mo st).heap[g]? := fun g hg => Lib.alloc_old _ _ _ (by rw [z4]; omega)
  have o3 : ∀ g, g < w1.heap.size + 3 → (W4 w1 mo st).heap[g]? = (((w1.alloc (.cells #[.int .i64 mo] 3)).alloc (.cells #[.int .i64 st] 3)).alloc (.cells #[.bool false] 4)).heap[g]? := fun g hg => Lib.alloc_old _ _ _ (by simp; omega)
  have o2 : ∀ g, g < w1.heap.size + 2 → (((w1.alloc (.cells #[.int .i64 mo] 3)).alloc (.cells #[.int .i64 st] 3)).alloc (.cells #[.bool false] 4)).heap[g]? = ((w1.alloc (.cells #[.int .i64 mo] 3)).alloc (.cells #[.int .i64 st] 3)).heap[g]? := fun g hg => Lib.alloc_old _ _ _ (by simp; omega)
  have o1 : ∀ g, g < w1.heap.size + 1 → ((w1.alloc (.cells #[.int .i64 mo] 3)).alloc (.cells #[.int .i64 st] 3)).heap[g]? = (w1.alloc (.cells #[.int .i64 mo] 3)).heap[g]? := fun g hg => Lib.alloc_old _ _ _ (by simp; omega)
  refine ⟨?_, ?_, ?_, ?_, ?_, ?_, ?_, by simp [z4]⟩
  · exact ((o5 _ (by omega)).trans (o4 _ (by omega))).trans h3
  · exact ((((o5 _ (by omega)).trans (o4 _ (by omega))).trans (o3 _ (by omega))).trans ((o2 _ (by omega)).trans (o1 _ (by omega)))).trans h0
  · exact ((((o5 _ (by omega)).trans (o4 _ (by omega))).trans (o3 _ (by omega))).trans (o2 _ (by omega))).trans h1
  · exact (((o5 _ (by omega)).trans (o4 _ (by omega))).trans (o3 _ (by omega))).trans h2
  · exact (o5 _ (by omega)).trans h4
  · exact h5
  · have b4 : Below w1.heap.size w1 (W4 w1 mo st) := by unfold W4; exact ((((Below.refl _ _).alloc (Nat.le_refl _) _).alloc (by simp) _).alloc (by simp; omega) _).alloc (by simp; omega) _
    exact (b4.alloc (by rw [z4]; omega) _).alloc (by simp [z4]; omega) _
theorem results_cellG {fn : Func} {p : Tmp} (h : fn.results = #[.cell p 4]) (tmps : Array Value) (w : World) (g : Nat) (b : Bool) (hp : tmps.getD p undef = .pointer (some ⟨g, 0, none⟩)) (hc : w.cell? ⟨g, 0, none⟩ = some (.bool b)) : (results fn tmps).run Try.prog w = .ok (.bool b) w := by
  have hp' : tmps[p]?.getD undef = .pointer (some ⟨g, 0, none⟩) := by simpa using hp
  simp [results, h, hp', asAddr, go_sem, hc]
/-- n and left are new -/
theorem gx_new {w1 Wb : World} {mo st : Int} {mr : Bool} {wv : Value} (h : G0 w1 Wb mo st mr wv) : GX w1.heap.size Wb.heap.size mo st mr wv 0 false ((Wb.alloc (.cells #[.int .i64 0] 3)).alloc (.cells #[.bool false] 4)) ∧ Below Wb.heap.size Wb ((Wb.alloc (.cells #[.int .i64 0] 3)).alloc (.cells #[.bool false] 4)) := by
  have hb : Below Wb.heap.size Wb ((Wb.alloc (.cells #[.int .i64 0] 3)).alloc (.cells #[.bool false] 4)) := ((Below.refl _ _).alloc (Nat.le_refl _) _).alloc (by simp) _
  have h1 := heap_alloc_new Wb (.cells #[.int .i64 0] 3)
  have h2 := heap_alloc_new (Wb.alloc (.cells #[.int .i64 0] 3)) (.cells #[.bool false] 4)
  simp only [World.size_alloc] at h2
  have hz := h.sz
  exact ⟨⟨(hb.block _ (by omega)).trans h.m6, (hb.block _ (by omega)).trans h.m7, (hb.block _ (by omega)).trans h.r8, (hb.block _ (by omega)).trans h.m10, (hb.block _ (by omega)).trans h.w11, (Lib.alloc_old _ _ _ (by simp)).trans h1, h2⟩, hb⟩
theorem G0.want {w1 Wa Wb : World} {mo st : Int} {mr : Bool} {wv : Value} (h : G0 w1 Wa mo st mr wv) (hb : Below Wa.heap.size Wa Wb) (v : Value) : G0 w1 (Wb.setCell ⟨w1.heap.size + 5, 0, none⟩ v) mo st mr v := by
  have hz := h.sz
  have gb := gb_set Wb (w1.heap.size + 5) 0 v
  have hk : ∀ g, g < w1.heap.size + 5 → (Wb.setCell ⟨w1.heap.size + 5, 0, none⟩ v).heap[g]? = Wa.heap[g]? := fun g hg => (gb.block g (by have := hb.size; omega) (fun e => by injection e with e; omega)).trans (hb.block g (by omega))
  exact ⟨(hk _ (by omega)).trans h.b, (hk _ (by omega)).trans h.m6, (hk _ (by omega)).trans h.m7, (hk _ (by omega)).trans h.r8, (hk _ (by omega)).trans h.m10, (show Boxed Wb _ _ _ from (hb.block _ (by omega)).trans h.w11).set v, (h.be.trans (hb.mono (by have := h.be.size; omega))).setCell (p := ⟨w1.heap.size + 5, 0, none⟩) (Nat.le_add_right _ _) v, by have := hb.size; simp; omega⟩
theorem GS.next {w1 : World} {bn Bq c : Nat} {mo st : Int} {X : Nat → List Int} {A : List (List Nat)} {col : Nat → Nat} {iv iv0 : Value} {V V0 : List Value} {wv : Value} {m k z : Nat} {lf : Bool} {W W' : World} {e : Ending} (h : GS w1 bn Bq c mo st X A col iv iv0 V V0 wv m k lf W) (hp : PrG w1.heap.size bn Bq c z) (hz : z ≤ W.heap.size) (hN : NmA A m W e W') :
    ∃ wo wn wc col', e = .returned (.tuple #[.slice wo wn wc, .bool (decide (m + 1 < A.length))]) ∧ Below W.heap.size W W' ∧ GS w1 bn Bq c mo st X A col' iv iv0 V V0 wv m k lf W' ∧ GS w1 bn Bq c mo st X A col' iv iv0 V V0 (.slice wo wn wc) (m + 1) k lf ((W'.setCell ⟨w1.heap.size + 5, 0, none⟩ (.slice wo wn wc)).setCell ⟨w1.heap.size + 4, 0, none⟩ (.bool (decide (m + 1 < A.length)))) ∧ (∀ g, g < W.heap.size → col' g = col g) ∧ KpW w1.heap.size Bq c W ((W'.setCell ⟨w1.heap.size + 5, 0, none⟩ (.slice wo wn wc)).setCell ⟨w1.heap.size + 4, 0, none⟩ (.bool (decide (m + 1 < A.length)))) ∧ W'.cell? ⟨w1.heap.size + 5, 0, none⟩ = some wv ∧ W'.frozen? ⟨w1.heap.size + 5, 0, none⟩ = false ∧ (W'.setCell ⟨w1.heap.size + 5, 0, none⟩ (.slice wo wn wc)).cell? ⟨w1.heap.size + 4, 0, none⟩ = some (.bool (decide (m < A.length))) ∧ (W'.setCell ⟨w1.heap.size + 5, 0, none⟩ (.slice wo wn wc)).frozen? ⟨w1.heap.size + 4, 0, none⟩ = false := by
  obtain ⟨v, ok, rfl, hcase, hb⟩ := hN
  have hv : OwI W' W.heap.size v (if m + 1 < A.length then iN (A.getD (m + 1) []) else []) ∧ ok = decide (m + 1 < A.length) := by
    rcases hcase with ⟨a1, a2, a3⟩ | ⟨a1, a2, a3⟩
    · rw [if_pos a1, decide_eq_true a1]; exact ⟨a3, a2⟩
    · rw [if_neg (by omega), decide_eq_false (by omega), a3]; exact ⟨Ow.nil _ _ _ _, a2⟩
  obtain ⟨hv, rfl⟩ := hv
  obtain ⟨col', hs, ho, hc⟩ := h.fresh hp hz hb v _ hv 18
  obtain ⟨wo, wc, hvv⟩ := hv.sl
  generalize hn : (if m + 1 < A.length then iN (A.getD (m + 1) []) else []).length = wn at hvv
  subst hvv
  have hm := hs.gx.setw hp.n (.slice wo wn wc)
  refine ⟨wo, wn, wc, col', rfl, hb, hs, hs.want hp _ ho, hc, ((kpw_later hp hz hb).trans (kpw_put hp _ (.inr (.inl rfl)) _)).trans (kpw_put hp _ (.inl rfl) _), hs.gx.w11.cell, hs.gx.w11.frozen, hm.m10.cell, hm.m10.frozen⟩
theorem GS.wri {w1 : World} {bn Bq c : Nat} {mo st : Int} {X : Nat → List Int} {A : List (List Nat)} {col : Nat → Nat} {iv iv0 : Value} {V V0 : List Value} {wv : Value} {m k : Nat} {lf : Bool} {W : World} (h : GS w1 bn Bq c mo st X A col iv iv0 V V0 wv m k lf W) (hm : m < A.length) : RI W wv (iN (A.getD m [])) := by
  have := h.sx.wl
  rw [if_pos hm] at this
  exact this.ri
theorem ow_two {w1 : World} {bn Bq c : Nat} {X : Nat → List Int} {A : List (List Nat)} {mo st : Int} {col : Nat → Nat} {iv iv0 : Value} {V V0 : List Value} {wv x : Value} {m k : Nat} {lf : Bool} {W : World} {L : List Int} {q : Nat} (h : GS w1 bn Bq c mo st X A col iv iv0 V V0 wv m k lf W) (ho : Ow eN 1 3 col (4 * q) W w1.heap.size x L) (a b : Value) : Ow eN 1 3 col (4 * q) ((W.setCell ⟨w1.heap.size + 5, 0, none⟩ a).setCell ⟨w1.heap.size + 4, 0, none⟩ b) w1.heap.size x L :=
  (ho.other (gb_set W (w1.heap.size + 5) 0 a) (fun g e => by cases e; exact h.sx.c14 _ (.inl (by omega))) (by omega)).other (gb_set _ (w1.heap.size + 4) 0 b) (fun g e => by cases e; exact h.sx.c14 _ (.inl (by omega))) (by omega)
set_option maxHeartbeats 20000000 in
theorem goes_any (gf : Nat) (lb : Array Value) (c Lo B0 : Nat) (w0 w1 : World) (R : List Int) (v : Value) (mo st : Int) (hEg : ∀ args w, (callFunc gf args).run Try.prog w = .ok (.enter gf args) w) (hSq : SeqC gf lb c Lo B0 (GL R mo).length (FwV (GL R mo)) w0) (hkp : KpL Lo B0 w0 w1) (hB0 : B0 ≤ w1.heap.size) (hr : RI w1 v R) (hl : R.length ≤ 9223372036854775807) (hmo : -9223372036854775808 ≤ mo ∧ mo ≤ 9223372036854775807) (hst : -9223372036854775808 ≤ st ∧ st ≤ 9223372036854775807) :
    Calls Try.prog 30 #[.func (.func gf) #[] lb, v, .int .i64 mo, .int .i64 st] w1 fun e w' => e = .returned (.bool true) ∧ Below w1.heap.size w1 w' := by
  obtain ⟨A, hA⟩ := agx R mo
  have HAG := hid hA
  obtain ⟨G, hG⟩ : ∃ G, GL R mo = G := ⟨_, rfl⟩
  have HG := hid hG
  rw [hG] at hSq
  have HSq := hid hSq
  have HEg := hid hEg
  have HKp := hid hkp
  have HCm := hid (fun W (hb : Below w1.heap.size w1 W) => canMixes_any v R W (RI.below (w := w1) hr hb) hl)
  have HCc := hid hA.cond
  obtain ⟨sm, hsm⟩ : ∃ sm, smR R = sm := ⟨_, rfl⟩
  rw [hsm] at HCm HCc
  have HR := hid hr
  have HAl := hid hA.len
  obtain ⟨B, hB⟩ : ∃ B, w1.heap.size = B := ⟨_, rfl⟩
  have HBs := hid hB
  have HG0 := hid (fun mr => g0_new w1 mo st mr)
  obtain ⟨Wk, hWk⟩ : ∃ Wk, W4 w1 mo st = Wk := ⟨_, rfl⟩
  have HWz := hid (show Wk.heap.size = B + 4 by rw [← hWk, w4_size, hB])
  have HWb := hid (show Below w1.heap.size w1 Wk by rw [← hWk]; unfold W4; exact ((((Below.refl _ _).alloc (Nat.le_refl _) _).alloc (by simp) _).alloc (by simp; omega) _).alloc (by simp; omega) _)
  have cmo : Wk.cell? ⟨B, 0, none⟩ = some (.int .i64 mo) := by
    have h0 := (g0_new w1 mo st false).m6
    have h1 : (((W4 w1 mo st).alloc (.cells #[.bool false] 4)).alloc (.cells #[.slice none 0 0] 22)).heap[w1.heap.size]? = (W4 w1 mo st).heap[w1.heap.size]? := (Lib.alloc_old _ _ _ (by simp [w4_size]; omega)).trans (Lib.alloc_old _ _ _ (by rw [w4_size]; omega))
    have h2 : IBox (W4 w1 mo st) w1.heap.size mo := h1.symm.trans h0
    rw [hWk, hB] at h2
    exact h2.facts.1
  rw [hWk] at HG0
  unfold W4 zBk at hWk
  obtain ⟨ao, cap, hv⟩ := hr.len0
  subst hv
  clear hr hsm hG hSq hA hEg hkp
  refine (callsIn_wide (n := 5)).1 ?_
  refine callsIn_of_wp_marks Try.func30 rfl trivial ?_ rfl
  simp only [Try.ntmps30, List.size_toArray, List.length_cons, List.length_nil, Nat.reduceAdd, Nat.reduceSub, Array.replicate_succ, Array.replicate_zero, List.push_toArray, List.append_toArray, List.nil_append, List.cons_append]
  gi_upto_region 2 with fail
  simp only [Nat.add_assoc, Nat.reduceAdd]
  obtain ⟨mr, hmr⟩ : ∃ mr, decide (0 < A.length) = mr := ⟨_, rfl⟩
  rw [hmr] at HCc
  have HMr := hid hmr
  obtain ⟨Wl, hWl⟩ : ∃ Wl, Wk.alloc (.cells #[.bool mr] 4) = Wl := ⟨_, rfl⟩
  have HWl := hid hWl
  have wz := HWz.out
  clear hWk hB hmr hWl
  gi_cut [10] from 19 (fun s10 wx => s10 = .pointer (some ⟨B + 4, 0, none⟩) ∧ wx = Wl)
  case first =>
    by_cases h0 : 0 ≤ mo
    · have hd0 : decide (0 ≤ mo) = true := decide_eq_true h0
      gi_wp2_with fail
      refine ⟨trivial, (callsIn_wide.2 (HCm.out _ HWb.out)).mono ?_⟩
      rintro e wz ⟨rfl, hwz⟩
      replace hwz := hwz.symm
      subst hwz
      have hsm : sm = mr := by have := HCc.out; rw [hd0, Bool.true_and] at this; exact this
      subst hsm
      gi_wp2_with fail
      gi_meet
      exact ⟨by first | rfl | rw [wz], HWl.out⟩
    · have hd0 : decide (0 ≤ mo) = false := decide_eq_false h0
      have hsm : mr = false := by have := HCc.out; rw [hd0, Bool.false_and] at this; exact this.symm
      subst hsm
      gi_wp2_with fail
      refine ⟨trivial, ?_⟩
      gi_wp2_with fail
      gi_meet
      exact ⟨by first | rfl | rw [wz], HWl.out⟩
  obtain ⟨rfl, hwc⟩ := hcut
  rw [hwc]
  clear hwc wz
  have HG1 := hid (show G0 w1 (Wl.alloc (.cells #[.slice none 0 0] 22)) mo st mr (.slice none 0 0) by rw [← HWl.out]; exact HG0.out mr)
  have wz2 : Wl.heap.size = B + 5 := by rw [← HWl.out]; simp [HWz.out]
  clear HG0 cmo HCm HWb HWl
  obtain ⟨Wn, hWn⟩ : ∃ Wn, Wl.alloc (.cells #[.slice none 0 0] 22) = Wn := ⟨_, rfl⟩
  rw [hWn] at HG1
  have c10 := HG1.out.m10.cell
  rw [HBs.out] at c10
  gi_upto_if 25 with fail
  gi_cut [] from 26 (fun wx => Hid (∃ wv, G0 w1 wx mo st mr wv ∧ OwI wx (w1.heap.size + 6) wv (if 0 < A.length then iN (A.getD 0 []) else [])))
  case first =>
    cases mr with
    | true =>
      have h0 : 0 < A.length := of_decide_eq_true HMr.out
      have HFi := hid (HAG.out.first _ Wn h0 (RI.below HR.out HG1.out.be))
      gi_wp2_with fail
      refine ⟨trivial, (callsIn_wide.2 HFi.out).mono ?_⟩
      rintro e w2 ⟨⟨v2, rfl, ho⟩, hb2⟩
      have hw2 : Boxed w2 (B + 5) 22 (.slice none 0 0) := by rw [← HBs.out]; exact (hb2.block _ HG1.out.w11.lt).trans HG1.out.w11
      have f1 := hw2.frozen
      have f2 := hw2.cell
      have HE := hid (show ∃ wv, G0 w1 (w2.setCell ⟨B + 5, 0, none⟩ v2) mo st true wv ∧ OwI (w2.setCell ⟨B + 5, 0, none⟩ v2) (w1.heap.size + 6) wv (if 0 < A.length then iN (A.getD 0 []) else []) from ⟨v2, by rw [← HBs.out]; exact HG1.out.want hb2 v2, by
        rw [if_pos h0]
        exact (ho.keep fun g hg => (gb_set w2 (B + 5) 0 v2).block g (ho.lt g hg).2 (fun e => by injection e with e; have := (ho.lt g hg).1; have := HG1.out.sz; have := HBs.out; omega)).lower HG1.out.sz⟩)
      obtain ⟨vo, vc, hvv⟩ := ho.sl
      generalize (iN (A.getD 0 [])).length = vn at hvv
      subst hvv
      clear ho hb2 hw2 HFi
      gi_wp2_with fail
      gi_meet
      exact HE
    | false =>
      have h0 : ¬ 0 < A.length := of_decide_eq_false HMr.out
      gi_wp2_with fail
      gi_meet
      exact hid ⟨_, HG1.out, by rw [if_neg h0]; exact Ow.nil _ _ _ _⟩
  clear HG1 c10 hWn wz2
  have ⟨wv, hG0, hO0⟩ := hcut.out
  have HBn := hid hG0.sz
  obtain ⟨bn, hbn⟩ : ∃ bn, wc.heap.size = bn := ⟨_, rfl⟩
  obtain ⟨Wb, hWb⟩ : ∃ Wb, (wc.alloc (.cells #[.int .i64 0] 3)).alloc (.cells #[.bool false] 4) = Wb := ⟨_, rfl⟩
  have hgx := gx_new hG0
  rw [hWb, hbn, ← HMr.out] at hgx
  have hzb : Wb.heap.size = bn + 2 := by rw [← hWb]; simp [hbn]
  have hbk : BkB Wb (w1.heap.size + 3) (.slice none 0 0) (.slice none 0 0) := by
    have h1 : Below wc.heap.size wc Wb := by rw [hbn]; exact hgx.2
    exact hG0.b.later h1
  have hOb : OwI Wb (w1.heap.size + 6) wv (if 0 < A.length then iN (A.getD 0 []) else []) := hO0.later (by rw [hbn]; exact hgx.2)
  have hbe : Below w1.heap.size w1 Wb := hG0.be.trans (hgx.2.mono (by rw [← hbn]; have := hG0.be.size; omega))
  have hR0 := gs_start (c := c + 2) HAG.out hbk hgx.1 hOb (fun g hg => by have := (hO0.lt g hg).2; omega) hbe (by omega)
  rw [HG.out] at hR0
  obtain ⟨Bq, hBq⟩ : ∃ Bq, Wb.heap.size = Bq := ⟨_, rfl⟩
  rw [hBq] at hR0
  have HR0 := hid hR0
  have HPr := hid (show PrG w1.heap.size bn Bq (c + 2) (Bq + (c + 2)) from ⟨by rw [← hbn]; exact HBn.out, by omega, by omega⟩)
  have HBe := hid hbe
  have HBq := hid hBq
  have HWb := hid hWb
  have HBn2 := hid hbn
  clear hcut hG0 hO0 hgx hzb hbk hOb hbe hR0 HBn hWb hBq
  gi_wp2_with fail
  rw [HWb.out]
  have hB := HBs.out
  subst hB
  have HSw := hid (fun m v w hr => sw_call HAG.out m v w hr)
  have HSa := hid (fun m v p w hv hp => same_call HAG.out m v p w hv hp)
  have HNx := hid HAG.out.next
  have HIn := hid ints_any
  have HAp := hid apartI_any
  have HKq := hid (HKp.out.trans (KpL.of_below HBe.out hB0))
  have HB0q := hid (show B0 ≤ Wb.heap.size by have := HBe.out.size; omega)
  clear HWb
  refine range_c3 (q := 14) (w0 := w0) (gf := gf) (lb := lb) (c := c) (Lo := Lo) (B0 := B0) (n := G.length) (D := FwV G) rfl HEg.out HSq.out HKq.out HB0q.out (fun k W => RIg w1 bn Wb.heap.size (c + 2) mo st A G k W) (fun _ W => RXg w1 bn Wb.heap.size (c + 2) mo st A G true W) ?hI ?hIx (by rw [HBq.out]; exact HR0.out) ?assign ?body (fun W => ∃ lf, RXg w1 bn Wb.heap.size (c + 2) mo st A G lf W) ?hd ?hs ?go
  case hI =>
    rintro k X X' ⟨m, col, iv, iv0, V, V0, wv, hs, hg, hv⟩ hc
    rw [HBq.out] at hs hc ⊢
    exact ⟨m, col, iv, iv0, V, V0, wv, hs.chg HPr.out (Nat.le_refl _) hc, hg, hv⟩
  case hIx =>
    rintro k X X' ⟨m, k', col, iv, iv0, V, V0, wv, hs, hg⟩ hc
    rw [HBq.out] at hs hc ⊢
    exact ⟨m, k', col, iv, iv0, V, V0, wv, hs.chg HPr.out (Nat.le_refl _) hc, hg⟩
  case hd =>
    rintro W ⟨m, col, iv, iv0, V, V0, wv, hs, hg, hv⟩
    exact ⟨false, m, _, col, iv, iv0, V, V0, wv, hs, fun _ => hg⟩
  case hs =>
    rintro k W hh
    exact ⟨true, hh⟩
  case assign =>
    intro l x W K hK
    have HKK := hid hK
    clear hK
    gi_wp2
    exact HKK.out
  case body =>
    intro l k x Aw W1 W hI hk hAW hD hc hz hsz
    rw [HBq.out] at hI hc hsz ⊢
    obtain ⟨m, col, iv, iv0, V, V0, wv, hs, hg, hv⟩ := hI
    have hzA : Bq + (c + 2) ≤ Aw.heap.size := by omega
    have hD : OwI W1 Aw.heap.size x (iN (G.getD k [])) := oi_ow hD
    obtain ⟨col1, hs1, ho1, -⟩ := hs.fresh HPr.out hzA hAW x _ hD (4 * V.length)
    have hs2 := hs1.chg HPr.out (by omega : 2 ≤ c + 2) hc
    have ho2 : Ow eN 1 3 col1 (4 * V.length) W w1.heap.size x (iN (G.getD k [])) := ho1.keep (fun g hg => hc.block g (ho1.lt g hg).2 (by have := (hD.lt g hg).1; omega))
    obtain ⟨xo, xc, hxv⟩ := ho2.sl
    generalize hxn : (iN (G.getD k [])).length = xn at hxv
    subst hxv
    have hm := hg.lt hk
    obtain ⟨wo, wcp, hwv⟩ := hs2.sx.wl.sl
    generalize (if m < A.length then iN (A.getD m []) else []).length = wn at hwv
    subst hwv
    have c11 := hs2.gx.w11.cell
    have HS2 := hid hs2
    have HO2 := hid ho2
    have HG2 := hid hg
    have HV2 := hid hv
    have HK := hid hk
    have HM := hid hm
    have HZ := hid (show Bq + (c + 2) ≤ W.heap.size by have := hAW.size; omega)
    have hkI : (k : Int) ≤ 1048576 := by
      have h1 : G.length ≤ A.length := by rw [← HG.out, HAG.out.fil]; exact List.length_filter_le _ _
      have := HAl.out
      omega
    have HSw0 := hid (HSw.out m _ W (hs2.wri hm))
    clear hs hs1 ho1 hs2 ho2 hg hv hk hm hAW hD hc hz hsz hzA hxn
    simp only [List.setIfInBounds_toArray, List.set_cons_succ, List.set_cons_zero]
    gi_wp2_with fail
    refine ⟨trivial, ((callsIn_wide.2 HSw0.out).inRound l).mono ?_⟩
    rintro e w5 ⟨rfl, hb5⟩
    have HS5 := hid (HS2.out.later hb5)
    have HO5 := hid (show Ow eN 1 3 col1 (4 * V.length) w5 w1.heap.size (.slice xo xn xc) (iN (G.getD k [])) from HO2.out.later hb5)
    have HP5 := hid (kpw_later HPr.out HZ.out hb5)
    have HZ5 := hid (show Bq + (c + 2) ≤ w5.heap.size from Nat.le_trans HZ.out hb5.size)
    clear hb5 HSw0 c11 HS2 HO2
    gi_wp2_with fail
    gi_loopg [15] (A.length - m) (fun q s15 wr => ∃ (m' : Nat) (col' : Nat → Nat) (wo' : Option Addr) (wn' wc' : Nat), q = A.length - m' ∧ Hid (m' < A.length) ∧ s15 = .int .i64 (cS (A.getD m' []) (A.getD m' []).length : Int) ∧ Hid (GS w1 bn Bq (c + 2) mo st (fun j => iN (G.getD j [])) A col' iv iv0 V V0 (.slice wo' wn' wc') m' k false wr) ∧ Hid (Gat A (fewS mo) G m' k) ∧ Hid (Ow eN 1 3 col' (4 * V.length) wr w1.heap.size (.slice xo xn xc) (iN (G.getD k []))) ∧ Hid (KpW w1.heap.size Bq (c + 2) W wr) ∧ Hid (Bq + (c + 2) ≤ wr.heap.size))
    case atStart => exact ⟨m, col1, wo, wn, wcp, rfl, HM, rfl, HS5, HG2, HO5, HP5, HZ5⟩
    case round =>
      obtain ⟨m', col', wo', wn', wc', hq, HM', h15, HS, HGt, HO, HP, HZr⟩ := hrel
      have HQ := hid hq
      clear HS5 HO5 HP5 HZ5 HG2 HM hq
      obtain ⟨s, hs⟩ : ∃ s, cS (A.getD m' []) (A.getD m' []).length = s := ⟨_, rfl⟩
      rw [hs] at h15
      subst h15
      have HSv := hid hs
      clear hs
      have c10 := HS.out.gx.m10.cell
      rw [decide_eq_true HM'.out] at c10
      have c6 := HS.out.gx.m6.facts.1
      have c11 := HS.out.gx.w11.cell
      by_cases hgt : mo < (s : Int)
      · have hd : decide (mo < (s : Int)) = true := decide_eq_true hgt
        have HG3 := hid (HGt.out.skip HM'.out (by unfold fewS; rw [HSv.out]; exact decide_eq_false (by omega)))
        have HM3 := hid (HG3.out.lt HK.out)
        have HN := hid (HNx.out m' HM'.out _ wr (HS.out.wri HM'.out))
        gi_wp2_with fail
        refine ⟨trivial, ((callsIn_wide.2 HN.out).inRound l).mono ?_⟩
        intro e w6 hA6
        obtain ⟨vo, vn, vc, col6, rfl, hb6, hs6, hs7, hc6, hk7, y1, y2, y3, y4⟩ := HS.out.next HPr.out HZr.out hA6
        have hx6 : Ow eN 1 3 col6 (4 * V.length) w6 w1.heap.size (.slice xo xn xc) (iN (G.getD k [])) := (HO.out.recol hc6).later hb6
        have hx7 := ow_two hs6 hx6 (.slice vo vn vc) (.bool (decide (m' + 1 < A.length)))
        have hz7 : Bq + (c + 2) ≤ ((w6.setCell ⟨w1.heap.size + 5, 0, none⟩ (.slice vo vn vc)).setCell ⟨w1.heap.size + 4, 0, none⟩ (.bool (decide (m' + 1 < A.length)))).heap.size := by have := HZr.out; have := hk7.size; omega
        rw [decide_eq_true HM3.out] at hs7 hx7 hz7 hk7 ⊢
        rw [decide_eq_true HM'.out] at y3
        generalize hw7 : w6.setCell ⟨w1.heap.size + 5, 0, none⟩ (.slice vo vn vc) = w7 at *
        generalize hw8 : w7.setCell ⟨w1.heap.size + 4, 0, none⟩ (.bool true) = w8 at *
        have z1 := hs7.gx.w11.cell
        have HN2 := hid (HSw.out (m' + 1) _ w8 (hs7.wri HM3.out))
        have HS7 := hid hs7
        have HX7 := hid hx7
        have HK7 := hid (HP.out.trans hk7)
        have HZ7 := hid hz7
        clear hs6 hs7 hx6 hx7 hk7 hz7 hc6 hb6 hA6 HN HS HO HP HZr c10 c6 c11 hgt
        gi_wp2_with fail
        refine ⟨trivial, ((callsIn_wide.2 HN2.out).inRound l).mono ?_⟩
        rintro e w9 ⟨rfl, hb9⟩
        have HS9 := hid (HS7.out.later hb9)
        have HX9 := hid (show Ow eN 1 3 col6 (4 * V.length) w9 w1.heap.size (.slice xo xn xc) (iN (G.getD k [])) from HX7.out.later hb9)
        have HK9 := hid (HK7.out.trans (kpw_later HPr.out HZ7.out hb9))
        have HZ9 := hid (show Bq + (c + 2) ≤ w9.heap.size from Nat.le_trans HZ7.out hb9.size)
        clear hb9 HN2 hw7 hw8 y1 y2 y3 y4 z1
        gi_wp2
        gi_roundg (A.length - (m' + 1))
        case measure => have := HQ.out; have := HM'.out; omega
        case rel => exact ⟨m' + 1, col6, vo, vn, vc, rfl, HM3, rfl, HS9, HG3, HX9, HK9, HZ9⟩
      · have hd : decide (mo < (s : Int)) = false := decide_eq_false hgt
        obtain ⟨hEq, hG3⟩ := HGt.out.take HK.out (by unfold fewS; rw [HSv.out]; exact decide_eq_true (by omega))
        have HG3 := hid hG3
        have HEq := hid hEq
        clear hG3 hEq
        have HSm := hid (HSa.out m' (.slice xo xn xc) _ wr (by rw [HEq.out]; exact HO.out.ri) (HS.out.wri HM'.out))
        gi_wp2_with fail
        refine ⟨trivial, ((callsIn_wide.2 HSm.out).inRound l).mono ?_⟩
        rintro e w6 ⟨rfl, hb6⟩
        have HS6 := hid (HS.out.later hb6)
        have HO6 := hid (show Ow eN 1 3 col' (4 * V.length) w6 w1.heap.size (.slice xo xn xc) (iN (G.getD k [])) from HO.out.later hb6)
        have HK6 := hid (HP.out.trans (kpw_later HPr.out HZr.out hb6))
        have HZ6 := hid (show Bq + (c + 2) ≤ w6.heap.size from Nat.le_trans HZr.out hb6.size)
        have c12 := HS6.out.gx.n12.facts.1
        clear hb6 HSm HS HO HP HZr c10 c6 c11 hgt hd HSv HGt
        gi_upto_if 60 with fail
        gi_cut [] from 59 (fun wx => Hid (∃ col7 iv7 iv07 V7 V07, GS w1 bn Bq (c + 2) mo st (fun j => iN (G.getD j [])) A col7 iv7 iv07 V7 V07 (.slice wo' wn' wc') m' k false wx ∧ V7.length = min (k + 1) 40) ∧ Hid (KpW w1.heap.size Bq (c + 2) W wx) ∧ Hid (Bq + (c + 2) ≤ wx.heap.size))
        case first =>
          by_cases h40 : k < 40
          · have h40I : (k : Int) < 40 := by omega
            have HVk := hid (show V.length = k by have := HV2.out; omega)
            have HI := hid (HIn.out w6 w1.heap.size (w1.heap.size + 3) col' iv iv0 _ V V0 (fun j => iN (G.getD j [])) (iN (G.getD k [])) HS6.out.sx.bk HO6.out HS6.out.sx.be.size (by rw [← HEq.out, iN_len]; have := (HAG.out.each m').2; omega) (by have := HVk.out; omega))
            gi_wp2_with fail
            refine ⟨trivial, ((callsIn_wide.2 HI.out).inRound l).mono ?_⟩
            intro e w7 hA
            rw [← HVk.out] at hA
            obtain ⟨rfl, ⟨col7, iv7, iv07, V07, hs7⟩, hkp⟩ := HS6.out.ints HPr.out HZ6.out hA
            have HE := hid (show Hid (∃ col7 iv7 iv07 V7 V07, GS w1 bn Bq (c + 2) mo st (fun j => iN (G.getD j [])) A col7 iv7 iv07 V7 V07 (.slice wo' wn' wc') m' k false w7 ∧ V7.length = min (k + 1) 40) ∧ Hid (KpW w1.heap.size Bq (c + 2) W w7) ∧ Hid (Bq + (c + 2) ≤ w7.heap.size) from ⟨hid ⟨col7, iv7, iv07, _, V07, hs7, by have := HVk.out; simp; omega⟩, hid (HK6.out.trans hkp), hid (Nat.le_trans HZ6.out hkp.size)⟩)
            clear hA hs7 hkp HI
            gi_wp2_with fail
            gi_meet
            exact HE.out
          · have h40I : ¬ (k : Int) < 40 := by omega
            gi_wp2_with fail
            gi_meet
            exact ⟨hid ⟨col', iv, iv0, V, V0, HS6.out, by have := HV2.out; omega⟩, HK6, HZ6⟩
        obtain ⟨hc1, HK7, HZ7⟩ := hcut
        have ⟨col7, iv7, iv07, V7, V07, hs7, hv7⟩ := hc1.out
        rename_i wx
        have c11 := hs7.gx.w11.cell
        have HN := hid (HNx.out m' HM'.out _ _ (hs7.wri HM'.out))
        have HS7 := hid hs7
        have HV7 := hid hv7
        clear hs7 hv7 hc1 HS6 HO6 HK6 HZ6 c12
        gi_wp2_with fail
        refine ⟨trivial, ((callsIn_wide.2 HN.out).inRound l).mono ?_⟩
        intro e w8 hA8
        obtain ⟨vo, vn, vc, col8, rfl, hb8, hs8, hs9, hc8, hk9, y1, y2, y3, y4⟩ := HS7.out.next HPr.out HZ7.out hA8
        rw [decide_eq_true HM'.out] at y3
        have hs10 := hs9.setn HPr.out (k + 1)
        have kp10 := (HK7.out.trans hk9).trans (kpw_put HPr.out bn (.inr (.inr (.inl rfl))) (.int .i64 ((k : Int) + 1)))
        have ek : ((k + 1 : Nat) : Int) = (k : Int) + 1 := by omega
        rw [ek] at hs10
        have y5 := hs9.gx.n12.facts.1
        have y6 := hs9.gx.n12.facts.2.1
        have y7 := hs10.gx.n12.facts.1
        rw [ek] at y7
        have y8 := hs10.gx.m7.facts.1
        generalize hw9 : w8.setCell ⟨w1.heap.size + 5, 0, none⟩ (.slice vo vn vc) = w9 at *
        generalize hw10 : w9.setCell ⟨w1.heap.size + 4, 0, none⟩ (.bool (decide (m' + 1 < A.length))) = w10 at *
        generalize hw11 : w10.setCell ⟨bn, 0, none⟩ (.int .i64 ((k : Int) + 1)) = w11 at *
        have z1 := hs10.gx.l13.cell
        have z2 := hs10.gx.l13.frozen
        have HKp2 := hid (show ∀ W', KpW w1.heap.size Bq (c + 2) W W' → KpM Lo B0 Bq (c + 2) W W' from fun W' h => ⟨h.size, fun g hg => h.block g (by omega)⟩)
        have HK10 := hid kp10
        have HI10 := hid (show RIg w1 bn Bq (c + 2) mo st A G (k + 1) w11 from ⟨m' + 1, col8, iv7, iv07, V7, V07, _, hs10, HG3.out, HV7.out⟩)
        have HX10 := hid (show RXg w1 bn Bq (c + 2) mo st A G true (w11.setCell ⟨bn + 1, 0, none⟩ (.bool true)) ∧ KpW w1.heap.size Bq (c + 2) w11 (w11.setCell ⟨bn + 1, 0, none⟩ (.bool true)) from ⟨⟨m' + 1, k + 1, col8, iv7, iv07, V7, V07, _, hs10.setl HPr.out true, fun h => by cases h⟩, kpw_put HPr.out (bn + 1) (.inr (.inr (.inr rfl))) (.bool true)⟩)
        clear hs8 hs9 hs10 hk9 kp10 hc8 hb8 hA8 HN HS7 HK7 HZ7 HV7 c11 ek
        by_cases hst2 : (k : Int) + 1 = st
        · have hd : ((k : Int) + 1 == st) = true := by simpa using hst2
          have HST := hid hst2
          clear hst2
          gi_wp2
          exact .inr ⟨rfl, HKp2.out _ (HK10.out.trans HX10.out.2), HX10.out.1⟩
        · have hd : ((k : Int) + 1 == st) = false := by simpa using hst2
          clear hst2
          gi_wp2
          exact .inl ⟨rfl, HKp2.out _ HK10.out, HI10.out⟩
  case go =>
    rintro W ⟨lf, m, k, col, iv, iv0, V, V0, wv, hs, hg⟩ hK
    rw [HBq.out] at hs hK ⊢
    have hs1 := hs.narrow (c' := 1) (by omega)
    obtain ⟨wo, wcp, hwv⟩ := hs1.sx.wl.sl
    generalize (if m < A.length then iN (A.getD m []) else []).length = wn at hwv
    subst hwv
    have HS1 := hid hs1
    have HGt := hid hg
    have HK1 := hid hK
    have HPr1 := hid (show PrG w1.heap.size bn Bq 1 (Bq + 1) from ⟨HPr.out.n, HPr.out.q, by omega⟩)
    clear hs hg hK hs1 HR0 HSq HKq HB0q HIn HSa
    gi_wp2_with fail
    gi_loopg [] (A.length - m) (fun q wr => ∃ (m' : Nat) (col' : Nat → Nat) (wo' : Option Addr) (wn' wc' : Nat), q = A.length - m' ∧ Hid (GS w1 bn Bq 1 mo st (fun j => iN (G.getD j [])) A col' iv iv0 V V0 (.slice wo' wn' wc') m' k lf wr) ∧ Hid (lf = false → Gat A (fewS mo) G m' G.length) ∧ Hid (wr.heap[Bq]? = some (.deferred (some []))))
    case atStart => exact ⟨m, col, wo, wn, wcp, rfl, HS1, HGt, HK1⟩
    case round =>
      obtain ⟨m', col', wo', wn', wc', hq, HS, HGt, HK⟩ := hrel
      have HQ := hid hq
      clear HS1 HK1 hq
      have c10 := HS.out.gx.m10.cell
      have c13 := HS.out.gx.l13.cell
      gi_upto_region 22 with fail
      gi_cut [77] from 92 (fun s77 wx => s77 = .bool (decide (m' < A.length) && !lf) ∧ wx = wr)
      case first =>
        by_cases hm : m' < A.length
        · rw [decide_eq_true hm] at c10
          gi_wp2_with fail
          gi_meet
          exact ⟨by rw [decide_eq_true hm]; cases lf <;> rfl, rfl⟩
        · rw [decide_eq_false hm] at c10
          gi_wp2_with fail
          gi_meet
          exact ⟨by rw [decide_eq_false hm]; cases lf <;> rfl, rfl⟩
      obtain ⟨rfl, hwc⟩ := hcut
      rw [hwc]
      clear hwc
      by_cases hgo : (decide (m' < A.length) && !lf) = true
      · rw [hgo]
        have HM' := hid (show m' < A.length from of_decide_eq_true (Bool.and_eq_true _ _ ▸ hgo).1)
        have hlf : lf = false := by have := (Bool.and_eq_true _ _ ▸ hgo).2; simpa using this
        have HG3 := hid (HGt.out hlf)
        have HLf := hid hlf
        have c11 := HS.out.gx.w11.cell
        have HSw0 := hid (HSw.out m' _ wr (HS.out.wri HM'.out))
        clear hgo hlf c13
        gi_wp2_with fail
        refine ⟨trivial, (callsIn_wide.2 HSw0.out).mono ?_⟩
        rintro e w5 ⟨rfl, hb5⟩
        have hgt : mo < ((cS (A.getD m' []) (A.getD m' []).length : Nat) : Int) := by
          have := HG3.out.none HM'.out
          unfold fewS at this
          have := of_decide_eq_false this
          omega
        obtain ⟨s, hs⟩ : ∃ s, cS (A.getD m' []) (A.getD m' []).length = s := ⟨_, rfl⟩
        rw [hs] at hgt ⊢
        have hd : decide ((s : Int) ≤ mo) = false := decide_eq_false (by omega)
        have hs5 := HS.out.later hb5
        have hz5 : Bq + 1 ≤ w5.heap.size := by have := hb5.size; have := (Array.getElem?_eq_some_iff.1 HK.out).1; omega
        have hk5 : w5.heap[Bq]? = some (.deferred (some [])) := (hb5.block _ (Array.getElem?_eq_some_iff.1 HK.out).1).trans HK.out
        have c6 := hs5.gx.m6.facts.1
        have c11b := hs5.gx.w11.cell
        have HN := hid (HNx.out m' HM'.out _ w5 (hs5.wri HM'.out))
        have HS5 := hid hs5
        have HZ5 := hid hz5
        have HK5 := hid hk5
        clear hs5 hz5 hk5 hb5 HSw0 HS HK c10 c11 hgt hs
        gi_wp2_with fail
        refine ⟨trivial, (callsIn_wide.2 HN.out).mono ?_⟩
        intro e w6 hA6
        obtain ⟨vo, vn, vc, col6, rfl, hb6, hs6, hs7, hc6, hk7, y1, y2, y3, y4⟩ := HS5.out.next HPr1.out HZ5.out hA6
        rw [decide_eq_true HM'.out] at y3
        have HK7 := hid ((hk7.block Bq (.inr ⟨Nat.le_refl _, by omega⟩)).trans HK5.out)
        have HS7 := hid hs7
        have HG4 := hid (show lf = false → Gat A (fewS mo) G (m' + 1) G.length from fun _ => HG3.out.skip HM'.out (HG3.out.none HM'.out))
        clear hs6 hs7 hb6 hc6 hk7 hA6 HN HS5 HZ5 HK5
        gi_wp2
        gi_roundg (A.length - (m' + 1))
        case measure => have := HQ.out; have := HM'.out; omega
        case rel => exact ⟨m' + 1, col6, vo, vn, vc, rfl, HS7, HG4, HK7⟩
      · have hgo2 : (decide (m' < A.length) && !lf) = false := by simpa using hgo
        rw [hgo2]
        have HA := hid (HAp.out wr w1.heap.size (w1.heap.size + 3) col' iv iv0 V V0 _ HS.out.sx.bk HS.out.sx.be.size)
        clear hgo hgo2 c10 c13
        gi_wp2_with fail
        refine ⟨trivial, (callsIn_wide.2 HA.out).mono ?_⟩
        rintro e w9 ⟨rfl, hBx⟩
        have hp1 := HPr1.out.n
        have hp2 := HPr1.out.q
        have hc14 : ∀ g, PG w1.heap.size bn Bq 1 g → col' g % 4 ≠ 0 := fun g hg => by rw [HS.out.sx.c14 g hg]; decide
        have hr8 : Boxed w9 (w1.heap.size + 2) 4 (.bool false) := (hBx.oth _ HS.out.gx.r8.lt (hc14 _ (.inl (by omega)))).trans HS.out.gx.r8
        have hk9 : w9.heap[Bq]? = some (.deferred (some [])) := (hBx.oth Bq (Array.getElem?_eq_some_iff.1 HK.out).1 (hc14 _ (.inr (.inr (.inr ⟨Nat.le_refl _, by omega⟩))))).trans HK.out
        have r1 := hr8.cell
        have r2 := hr8.frozen
        have HR3 := hid (hr8.set (.bool true)).cell
        have HKA := hid (show (w9.setCell ⟨w1.heap.size + 2, 0, none⟩ (.bool true)).heap[Bq]? = some (.deferred (some [])) from ((gb_set w9 (w1.heap.size + 2) 0 (.bool true)).block _ (Array.getElem?_eq_some_iff.1 hk9).1 (fun e => by injection e with e; omega)).trans hk9)
        have HBT := hid (show Below w1.heap.size w1 (w9.setCell ⟨w1.heap.size + 2, 0, none⟩ (.bool true)) from (HS.out.sx.be.trans hBx.bel).setCell (p := ⟨w1.heap.size + 2, 0, none⟩) (Nat.le_add_right _ _) _)
        have HNe := hid (show w1.heap.size + 2 ≠ Bq ∧ w1.heap.size ≤ Bq by omega)
        generalize hwF : w9.setCell ⟨w1.heap.size + 2, 0, none⟩ (.bool true) = wF at *
        clear hBx hc14 hr8 hk9 hp1 hp2 HA HS HK
        gi_wp2
        refine ⟨by simp, .inl ⟨_, _, rfl, run_takeDeferred HKA.out, ?_⟩⟩
        have r4 : (wF.putObj Bq (.deferred none)).cell? ⟨w1.heap.size + 2, 0, none⟩ = some (.bool true) := by
          refine (World.cell?_of_block (?_ : _ = _)).trans HR3.out
          exact World.putObj_heap_other (by show w1.heap.size + 2 ≠ _; exact HNe.out.1)
        exact ⟨_, results_cellG rfl _ _ (w1.heap.size + 2) true rfl r4, rfl, HBT.out.trans (belowK_b (w := w1) (Nat.le_refl _) wF Bq _ _ HNe.out.2 HKA.out rfl rfl)⟩
end Go.Proofs.Ytaiccmbhdgecgaa

namespace Go.Proofs.Ytaiccmbhdgecgaa
open Go.RowKit Go.Shelf
set_option maxRecDepth 100000
set_option linter.unusedVariables false
set_option linter.unusedSimpArgs false
attribute [local go_sem] Oper.semAt_some

set_option maxHeartbeats 400000 in
theorem lentO_any (v : Value) (R : List Int) (w : World) (hr : RI w v R) (hl : (R.length + 9) * 8 ≤ 140737488355328) :
    Calls Try.prog 22 #[v] w fun e w' => (∃ g cap, e = .returned (.slice (some ⟨g, 0, none⟩) R.length cap) ∧ LentI w' (.slice (some ⟨g, 0, none⟩) R.length cap) R ∧ OI w' w.heap.size (.slice (some ⟨g, 0, none⟩) (R.length + 9) cap) (R ++ mks)) ∧ Below w.heap.size w w' := by
  obtain ⟨ao, cap, rfl⟩ := hr.len0
  go_enter Try.func22, Try.ntmps22
  go_wp2_with (at_builtin; refine wpList_appI rfl (.tmp 5) (.tmp 6) rfl w.heap.size _ [] rfl (OI.nil _ _) _ R rfl hr (by simp; omega) (Nat.le_refl _) ?hnext)
  case hnext =>
    intro v1 w1 ho1 hg1
    have hb1 := (Below.refl w.heap.size w).grown hg1 (Nat.le_refl _) (by intro k hk; cases hk)
    clear hr hg1
    go_wp2
    go_loopw [3, 4] (fun v i wr => ∃ k : Nat, k ≤ 9 ∧ i = .int .i64 k ∧ OI wr w.heap.size v (R ++ mks.take k) ∧ Below w.heap.size w wr) (fun _ i _ => 9 - (intOf i).toNat)
    case atStart => exact ⟨0, by omega, rfl, by simpa using ho1, hb1⟩
    case round =>
      obtain ⟨k, hk, rfl, ho, hbl⟩ := hrel
      have hz := hbl.size
      clear ho1 hb1
      by_cases h : k < 9
      · have hlen : (mks.take k).length = k := by simp [mks]; omega
        go_wp2_with (at_builtin; refine wpList_appI rfl (.tmp 12) (.tmp 15) rfl w.heap.size _ (R ++ mks.take k) rfl (ho.alloc _) _ [7700 + (k : Int)] rfl (ri_one _ _) ?hlen ?hbase ?hnext2)
        case hlen => simp [hlen]; omega
        case hbase => simp; omega
        case hnext2 =>
          intro v2 w2 ho2 hg2
          go_wp2
          go_roundw
          case rel =>
            refine ⟨k + 1, by omega, by go_num, ?_, (hbl.alloc (by omega) _).grown hg2 (by simp; omega) ho.block_ge⟩
            rw [List.take_succ_eq_append_getElem h, mks_at k h]
            exact ho2
          case measure => simp [intOf]; omega
      · have e9 : k = 9 := by omega
        subst e9
        have hm : mks.take 9 = mks := rfl
        rw [hm] at ho
        obtain ⟨g, cap', hv, hc1, hc2, hcell⟩ := ho.form (by simp [mks])
        have hml : (R ++ mks).length = R.length + 9 := by simp [mks]
        rw [hml] at hv hc1
        subst hv
        have HC : Hid (_) := hcell
        have HM : Hid (_) := hc2
        have HO : Hid (_) := ho
        clear hcell hc2 ho hm
        go_wp2
        go_ret
        exact ⟨⟨g, cap', rfl, ⟨g, cap', rfl, hc1, HM.out, HC.out⟩, HO.out⟩, hbl⟩
set_option maxHeartbeats 4000000 in
theorem mixes_law (v : Value) (R : List Int) (mo st : Int) (w : World) (hr : RI w v R) (hl : R.length * 8 ≤ reachBytes) (hmo : -9223372036854775808 ≤ mo ∧ mo ≤ 9223372036854775807) (hst : -9223372036854775808 ≤ st ∧ st ≤ 9223372036854775807) :
    Calls Try.prog 8 #[v, .int .i64 mo, .int .i64 st] w fun e w' => e = .returned (.bool true) ∧ Below w.heap.size w w' := by
  have hrb : reachBytes = 140737488351232 := rfl
  have hRl : R.length ≤ 9223372036854775807 := by omega
  have HLe := hid (lentO_any v R w hr (by omega))
  have HMx := hid (fun v W (h : RI W v R) => mixes_any v R W h hRl)
  have HFe := hid (fun v W (h : RI W v R) => few_any v R mo W h hRl hmo)
  have HCo := hid (fun v W (h : RI W v R) => countR_any v R W h hRl)
  have HC7 := hid (fun v W (h : RI W v R) => count7_any v R W h hRl)
  have HKe := hid (fun v' p W (h : LentI W v' R) (hp : RI W p R) => kept_any v' p R W h hp (by omega))
  have HGo := hid (fun (mo' st' : Int) (gf : Nat) (lb : Array Value) (c Lo B0 : Nat) (w0 W : World) (hm' : -9223372036854775808 ≤ mo' ∧ mo' ≤ 9223372036854775807) (hs' : -9223372036854775808 ≤ st' ∧ st' ≤ 9223372036854775807) (hEg : ∀ args w, (callFunc gf args).run Try.prog w = .ok (.enter gf args) w) (hSq : SeqC gf lb c Lo B0 (GL R mo').length (FwV (GL R mo')) w0) (hkp : KpL Lo B0 w0 W) (hB0 : B0 ≤ W.heap.size) (hb : Below w.heap.size w W) => goes_any gf lb c Lo B0 w0 W R v mo' st' hEg hSq hkp hB0 (RI.below (w := w) hr hb) hRl hm' hs')
  have HR := hid hr
  have HMo := hid hmo
  have HSt := hid hst
  obtain ⟨n, hn⟩ : ∃ n, R.length = n := ⟨_, rfl⟩
  obtain ⟨ao, cap, hv⟩ := hr.len0
  rw [hn] at hv
  subst hv
  rw [hn] at HLe
  obtain ⟨cn, hcn⟩ : ∃ cn, (cntA R).1 = cn := ⟨_, rfl⟩
  obtain ⟨ce, hce⟩ : ∃ ce, (cntA R).2 = ce := ⟨_, rfl⟩
  rw [hcn, hce] at HCo HC7
  have HN := hid hn
  have hnI : (n : Int) ≤ 9223372036854775807 := by omega
  clear hr hcn hce hn hmo hst
  go_enter Try.func8, Try.ntmps8
  go_wp2_with fail
  refine Calls.mono HLe.out ?_
  rintro e w2 ⟨⟨g, cp, rfl, hle, ho⟩, hb2⟩
  have HL2 := hid hle
  have HO2 := hid (show OwI w2 w.heap.size (.slice (some ⟨g, 0, none⟩) (n + 9) cp) (R ++ mks) from oi_ow ho)
  have HB2 := hid hb2
  clear hle ho hb2 HLe
  go_wp2_with fail
  refine Calls.mono (HMx.out _ w2 HL2.out.reads) ?_
  rintro e w3 ⟨⟨gf1, lb1, c1, rfl, eg1, sq1⟩, hb3⟩
  have HE1 := hid eg1
  have HS1 := hid sq1
  have HB3 := hid hb3
  have HL3 := hid (HL2.out.below hb3)
  have HO3 := hid (show OwI w3 w.heap.size (.slice (some ⟨g, 0, none⟩) (n + 9) cp) (R ++ mks) from HO2.out.later hb3)
  clear eg1 sq1 hb3 HMx HL2
  go_wp2_with fail
  refine Calls.mono (HFe.out _ w3 HL3.out.reads) ?_
  rintro e w4 ⟨⟨gf2, lb2, c2, rfl, eg2, sq2⟩, hb4⟩
  have HE2 := hid eg2
  have HS2 := hid sq2
  have HB4 := hid hb4
  have HL4 := hid (HL3.out.below hb4)
  have HO4 := hid (show OwI w4 w.heap.size (.slice (some ⟨g, 0, none⟩) (n + 9) cp) (R ++ mks) from HO3.out.later hb4)
  have HBw4 := hid ((HB2.out.trans (HB3.out.mono HB2.out.size)).trans (hb4.mono (Nat.le_trans HB2.out.size HB3.out.size)))
  clear eg2 sq2 hb4 HFe HL3 HO3
  go_wp2_with fail
  refine Calls.mono (HCo.out _ w4 HL4.out.reads) ?_
  rintro e wz ⟨rfl, hwz⟩
  replace hwz := hwz.symm
  subst hwz
  go_wp2_with fail
  refine Calls.mono (HC7.out _ w4 (RI.below (w := w) HR.out HBw4.out)) ?_
  rintro e wz ⟨rfl, hwz⟩
  replace hwz := hwz.symm
  subst hwz
  have hn1 := seq_notR (.func gf1) #[] lb1
  have hn2 := seq_notR (.func gf2) #[] lb2
  clear HCo HC7
  go_wp2_with fail
  refine Calls.mono (HKe.out _ _ w4 HL4.out (RI.below (w := w) HR.out HBw4.out)) ?_
  rintro e w5 ⟨rfl, hb5⟩
  have HO5 := hid (show OwI w5 w.heap.size (.slice (some ⟨g, 0, none⟩) (n + 9) cp) (R ++ mks) from HO4.out.later hb5)
  have HB5 := hid (HBw4.out.trans (hb5.mono HBw4.out.size))
  have HK1 := hid (show KpL w2.heap.size w3.heap.size w3 w5 from KpL.of_below (HB4.out.trans (hb5.mono HB4.out.size)) (Nat.le_refl _))
  have HK2 := hid (show KpL w3.heap.size w4.heap.size w4 w5 from KpL.of_below hb5 (Nat.le_refl _))
  have HZ5 := hid hb5.size
  have HGl := hid (HO2.out.lt g rfl)
  have HZ := hid (And.intro HB3.out.size HB4.out.size)
  clear hb5 HKe HL4 HO4 HO2 hn1 hn2
  go_wp2_with fail
  go_loopw [14] (fun s14 wr => ∃ (i : Nat) (L : List Int), i ≤ n ∧ s14 = .int .i64 (i : Int) ∧ Hid (L.length = n + 9) ∧ Hid (OwI wr w.heap.size (.slice (some ⟨g, 0, none⟩) (n + 9) cp) L) ∧ Hid (Below w.heap.size w wr) ∧ Hid (KpL w2.heap.size w3.heap.size w3 wr) ∧ Hid (KpL w3.heap.size w4.heap.size w4 wr) ∧ Hid (w4.heap.size ≤ wr.heap.size)) (fun s14 _ => n - (intOf s14).toNat)
  case atStart => exact ⟨0, R ++ mks, Nat.zero_le _, rfl, hid (by simp [mks]; exact HN.out), HO5, HB5, HK1, HK2, HZ5⟩
  case round =>
    obtain ⟨i, L, hi, h14, HL, HO, HB, HKa, HKb, HZr⟩ := hrel
    subst h14
    clear HO5 HB5 HK1 HK2 HZ5
    by_cases hlt : i < n
    · have hI : (i : Int) < (n : Int) := by omega
      have hil : i < L.length := by rw [HL.out]; omega
      obtain ⟨g', cp', e, hcp, hc, hf, hge⟩ := HO.out.atI i hil
      obtain ⟨y, hy⟩ : ∃ y, L[i] = y := ⟨_, rfl⟩
      rw [hy] at hc
      injection e with e1
      injection e1 with e1
      injection e1 with e1
      subst e1
      have hcp2 : n ≤ cp := by
        obtain ⟨_, _, e, h1, _⟩ := HO.out.len
        injection e with _ _ e3
        rw [e3]
        have := HL.out
        omega
      have HO2 := hid (show OwI (wr.setCell ⟨g, i, none⟩ (.int .i64 1)) w.heap.size (.slice (some ⟨g, 0, none⟩) (n + 9) cp) (L.set i 1) from HO.out.set1 eN_len i hil (1 : Int) rfl rfl)
      have gb := gb_set wr g i (.int .i64 1)
      have HB2' := hid (HB.out.setCell (p := ⟨g, i, none⟩) hge (.int .i64 1))
      have hgk : ∀ k, w2.heap.size ≤ k → (wr.setCell ⟨g, i, none⟩ (.int .i64 1)).heap[k]? = wr.heap[k]? := fun k hk => by
        by_cases hlt2 : k < wr.heap.size
        · exact gb.block k hlt2 (fun e => by injection e with e; have := HGl.out.2; omega)
        · rw [Array.getElem?_eq_none (by simp; omega), Array.getElem?_eq_none (by omega)]
      have HKa2 := hid (show KpL w2.heap.size w3.heap.size w3 (wr.setCell ⟨g, i, none⟩ (.int .i64 1)) from fun k h1 h2 => (hgk k h1).trans (HKa.out k h1 h2))
      have HKb2 := hid (show KpL w3.heap.size w4.heap.size w4 (wr.setCell ⟨g, i, none⟩ (.int .i64 1)) from fun k h1 h2 => (hgk k (by have := HZ.out.1; omega)).trans (HKb.out k h1 h2))
      have HZ2 := hid (show w4.heap.size ≤ (wr.setCell ⟨g, i, none⟩ (.int .i64 1)).heap.size by simp; exact HZr.out)
      have HL2 := hid (show (L.set i 1).length = n + 9 by rw [List.length_set]; exact HL.out)
      clear hgk gb hcp HO HB HKa HKb HZr HL hge hy hil
      go_wp2
      go_roundw
      case rel => exact ⟨i + 1, _, by omega, by go_num, HL2, HO2, HB2', HKa2, HKb2, HZ2⟩
      case measure => simp [intOf]; omega
    · have hI : ¬ (i : Int) < (n : Int) := by omega
      clear hlt
      have m24 : -9223372036854775808 ≤ (24 : Int) ∧ (24 : Int) ≤ 9223372036854775807 := by decide
      have m0 : -9223372036854775808 ≤ (0 : Int) ∧ (0 : Int) ≤ 9223372036854775807 := by decide
      have H1 := hid (HGo.out 24 st gf1 lb1 c1 _ _ w3 wr m24 HSt.out HE1.out HS1.out HKa.out (by have := HZr.out; have := HZ.out; omega) HB.out)
      go_wp2_with fail
      refine Calls.mono H1.out ?_
      rintro e w6 ⟨rfl, hb6⟩
      have HB6 := hid (HB.out.trans (hb6.mono HB.out.size))
      have HKa6 := hid (HKa.out.trans (KpL.of_below hb6 (by have := HZr.out; have := HZ.out; omega)))
      have HKb6 := hid (HKb.out.trans (KpL.of_below hb6 HZr.out))
      have HZ6 := hid (Nat.le_trans HZr.out hb6.size)
      clear hb6 H1 HO HB HKa HKb HZr
      have H2 := hid (HGo.out mo st gf2 lb2 c2 _ _ w4 w6 HMo.out HSt.out HE2.out HS2.out HKb6.out HZ6.out HB6.out)
      go_wp2_with fail
      refine Calls.mono H2.out ?_
      rintro e w7 ⟨rfl, hb7⟩
      have HB7 := hid (HB6.out.trans (hb7.mono HB6.out.size))
      have HKa7 := hid (HKa6.out.trans (KpL.of_below hb7 (by have := HZ6.out; have := HZ.out; omega)))
      have HKb7 := hid (HKb6.out.trans (KpL.of_below hb7 HZ6.out))
      have HZ7 := hid (Nat.le_trans HZ6.out hb7.size)
      clear hb7 H2 HB6 HKa6 HKb6 HZ6
      have H3 := hid (HGo.out 24 0 gf1 lb1 c1 _ _ w3 w7 m24 m0 HE1.out HS1.out HKa7.out (by have := HZ7.out; have := HZ.out; omega) HB7.out)
      go_wp2_with fail
      refine Calls.mono H3.out ?_
      rintro e w8 ⟨rfl, hb8⟩
      have HB8 := hid (HB7.out.trans (hb8.mono HB7.out.size))
      have HKb8 := hid (HKb7.out.trans (KpL.of_below hb8 HZ7.out))
      have HZ8 := hid (Nat.le_trans HZ7.out hb8.size)
      clear hb8 H3 HB7 HKa7 HKb7 HZ7
      have H4 := hid (HGo.out mo 0 gf2 lb2 c2 _ _ w4 w8 HMo.out m0 HE2.out HS2.out HKb8.out HZ8.out HB8.out)
      go_wp2_with fail
      refine Calls.mono H4.out ?_
      rintro e w9 ⟨rfl, hb9⟩
      have HB9 := hid (HB8.out.trans (hb9.mono HB8.out.size))
      clear hb9 H4 HB8 HKb8 HZ8
      go_wp2
      go_ret
      exact ⟨rfl, HB9.out⟩
end Go.Proofs.Ytaiccmbhdgecgaa
