/-
  How many mixes steps have: multinomials (pure).
-/
import Derived.Test.YtaiccmbhdgecgaaNt1
namespace Go.Proofs.Ytaiccmbhdgecgaa
set_option maxRecDepth 100000

def fac : Nat → Nat
  | 0 => 1
  | n + 1 => (n + 1) * fac n
theorem fac_pos : ∀ n, 0 < fac n
  | 0 => Nat.one_pos
  | n + 1 => Nat.mul_pos (Nat.succ_pos n) (fac_pos n)
theorem chs_tab : ∀ p : Fin 25, ∀ n : Fin 25, n.1 ≤ p.1 → chs p.1 n.1 n.1 * (fac n.1 * fac (p.1 - n.1)) = fac p.1 := by decide +kernel
theorem chs_max : ∀ p : Fin 25, ∀ n : Fin 25, n.1 ≤ p.1 → ∀ i : Fin 25, i.1 ≤ n.1 → chs p.1 n.1 i.1 ≤ 2704156 ∧ 0 < chs p.1 n.1 i.1 := by decide +kernel
theorem chs_fac (s x : Nat) (h : s + x ≤ 24) : chs (s + x) x x * (fac x * fac s) = fac (s + x) := by
  have := chs_tab ⟨s + x, by omega⟩ ⟨x, by omega⟩ (by simp)
  simp only [Nat.add_sub_cancel] at this
  exact this
theorem chs_le24 (p n i : Nat) (hp : p ≤ 24) (hn : n ≤ p) (hi : i ≤ n) : chs p n i ≤ 2704156 ∧ 0 < chs p n i := chs_max ⟨p, by omega⟩ ⟨n, by omega⟩ hn ⟨i, by omega⟩ hi
/-- the first j steps' factorials together -/
def pf (N : List Nat) : Nat → Nat
  | 0 => 1
  | j + 1 => pf N j * fac (N.getD j 0)
theorem pf_pos (N : List Nat) : ∀ j, 0 < pf N j
  | 0 => Nat.one_pos
  | j + 1 => Nat.mul_pos (pf_pos N j) (fac_pos _)
theorem cN_pf (N : List Nat) : ∀ j, sN N j ≤ 24 → cN N j * pf N j = fac (sN N j)
  | 0, _ => rfl
  | j + 1, h => by
    have e : sN N (j + 1) = sN N j + N.getD j 0 := rfl
    rw [e] at h
    have ih := cN_pf N j (by omega)
    have hc := chs_fac (sN N j) (N.getD j 0) h
    show cN N j * chs (sN N (j + 1)) (N.getD j 0) (N.getD j 0) * (pf N j * fac (N.getD j 0)) = fac (sN N (j + 1))
    rw [e, ← hc, ← ih]
    generalize chs (sN N j + N.getD j 0) (N.getD j 0) (N.getD j 0) = a
    generalize fac (N.getD j 0) = b
    generalize cN N j = c
    generalize pf N j = d
    rw [Nat.mul_comm c a, Nat.mul_assoc, Nat.mul_comm b, ← Nat.mul_assoc c, ]
/-- one step of a handler less -/
def less (N : List Nat) (h : Nat) : List Nat := N.set h (N.getD h 0 - 1)
theorem less_len (N : List Nat) (h : Nat) : (less N h).length = N.length := by simp [less]
theorem less_at (N : List Nat) (h i : Nat) (hh : h < N.length) : (less N h).getD i 0 = if i = h then N.getD h 0 - 1 else N.getD i 0 := by
  unfold less
  simp only [List.getD_eq_getElem?_getD, List.getElem?_set]
  by_cases e : h = i
  · subst e
    simp [hh]
  · rw [if_neg e, if_neg (fun e2 => e e2.symm)]
theorem less_sN (N : List Nat) (h : Nat) (hh : h < N.length) (h1 : 1 ≤ N.getD h 0) : ∀ j, sN (less N h) j + (if h < j then 1 else 0) = sN N j
  | 0 => rfl
  | j + 1 => by
    have ih := less_sN N h hh h1 j
    show sN (less N h) j + (less N h).getD j 0 + _ = sN N j + N.getD j 0
    rw [less_at N h j hh]
    by_cases e : j = h
    · subst e
      rw [if_pos rfl, if_pos (Nat.lt_succ_self _)]
      rw [if_neg (Nat.lt_irrefl _)] at ih
      omega
    · rw [if_neg e]
      by_cases hlt : h < j
      · rw [if_pos hlt] at ih
        rw [if_pos (by omega)]
        omega
      · rw [if_neg hlt] at ih
        rw [if_neg (by omega)]
        omega
theorem less_pf (N : List Nat) (h : Nat) (hh : h < N.length) (h1 : 1 ≤ N.getD h 0) : ∀ j, pf (less N h) j * (if h < j then N.getD h 0 else 1) = pf N j
  | 0 => rfl
  | j + 1 => by
    have ih := less_pf N h hh h1 j
    show pf (less N h) j * fac ((less N h).getD j 0) * _ = pf N j * fac (N.getD j 0)
    rw [less_at N h j hh]
    by_cases e : j = h
    · subst e
      rw [if_pos rfl, if_pos (Nat.lt_succ_self _)]
      rw [if_neg (Nat.lt_irrefl _), Nat.mul_one] at ih
      rw [ih]
      obtain ⟨x, hx⟩ : ∃ x, N.getD j 0 = x + 1 := ⟨N.getD j 0 - 1, by omega⟩
      rw [hx, Nat.add_sub_cancel, Nat.mul_assoc, Nat.mul_comm (fac x)]
      rfl
    · rw [if_neg e]
      by_cases hlt : h < j
      · rw [if_pos hlt] at ih
        rw [if_pos (by omega), ← ih]
        rw [Nat.mul_assoc, Nat.mul_assoc, Nat.mul_comm (fac _)]
      · rw [if_neg hlt, Nat.mul_one] at ih
        rw [if_neg (by omega), Nat.mul_one, ih]
/-- how many mixes -/
def mN (N : List Nat) : Nat := cN N N.length
def tN2 (N : List Nat) : Nat := sN N N.length
theorem mN_pos (N : List Nat) (hs : tN2 N ≤ 24) : 0 < mN N := by
  have := cN_pf N N.length hs
  have h2 := fac_pos (sN N N.length)
  rcases Nat.eq_zero_or_pos (mN N) with h | h
  · unfold mN at h
    rw [h, Nat.zero_mul] at this
    omega
  · exact h
/-- of all mixes those that begin with a handler: as great a part as its steps are of all -/
theorem mN_less (N : List Nat) (h : Nat) (hh : h < N.length) (h1 : 1 ≤ N.getD h 0) (hs : tN2 N ≤ 24) : mN N * N.getD h 0 = tN2 N * mN (less N h) ∧ tN2 (less N h) + 1 = tN2 N := by
  have hl := less_sN N h hh h1 N.length
  rw [if_pos hh] at hl
  have ht : tN2 (less N h) + 1 = tN2 N := by unfold tN2; rw [less_len]; exact hl
  have c1 := cN_pf N N.length hs
  have hs' : sN N N.length ≤ 24 := hs
  have c2 := cN_pf (less N h) N.length (by omega)
  have hp := less_pf N h hh h1 N.length
  rw [if_pos hh] at hp
  refine ⟨?_, ht⟩
  have e1 : mN N = cN N N.length := rfl
  have e2 : mN (less N h) = cN (less N h) N.length := by unfold mN; rw [less_len]
  have e3 : fac (tN2 N) = tN2 N * fac (sN (less N h) N.length) := by
    have : tN2 N = sN (less N h) N.length + 1 := hl.symm
    rw [this]
    rfl
  have hpp := pf_pos (less N h) N.length
  apply Nat.eq_of_mul_eq_mul_right hpp
  rw [e1, e2, Nat.mul_assoc, Nat.mul_comm (N.getD h 0), hp, c1, Nat.mul_assoc, c2, ← e3]
  rfl
def bg (N : List Nat) (h : Nat) : Nat := mN N * N.getD h 0 / tN2 N
theorem bg_mul (N : List Nat) (h : Nat) (hh : h < N.length) (hs : tN2 N ≤ 24) (h0 : 1 ≤ tN2 N) : tN2 N * bg N h = mN N * N.getD h 0 ∧ (N.getD h 0 = 0 → bg N h = 0) ∧ (1 ≤ N.getD h 0 → bg N h = mN (less N h)) := by
  unfold bg
  rcases Nat.eq_zero_or_pos (N.getD h 0) with hz | hp
  · rw [hz]
    exact ⟨by simp, fun _ => by simp, fun h => by omega⟩
  · have h1 := (mN_less N h hh hp hs).1
    rw [h1, Nat.mul_div_cancel_left _ h0]
    exact ⟨rfl, fun h => by omega, fun _ => rfl⟩
/-- the first h handlers' together -/
def bS (N : List Nat) : Nat → Nat
  | 0 => 0
  | h + 1 => bS N h + bg N h
theorem bS_mul (N : List Nat) (hs : tN2 N ≤ 24) (h0 : 1 ≤ tN2 N) : ∀ h, h ≤ N.length → tN2 N * bS N h = mN N * sN N h
  | 0, _ => rfl
  | h + 1, hh => by
    show tN2 N * (bS N h + bg N h) = mN N * (sN N h + N.getD h 0)
    rw [Nat.mul_add, Nat.mul_add, bS_mul N hs h0 h (by omega), (bg_mul N h (by omega) hs h0).1]
theorem bS_all (N : List Nat) (hs : tN2 N ≤ 24) (h0 : 1 ≤ tN2 N) : bS N N.length = mN N := by
  have h := bS_mul N hs h0 N.length (Nat.le_refl _)
  apply Nat.eq_of_mul_eq_mul_left h0
  rw [h, Nat.mul_comm]
  rfl
theorem bS_mono (N : List Nat) : ∀ {i j : Nat}, i ≤ j → bS N i ≤ bS N j := by
  intro i j h
  induction h with
  | refl => exact Nat.le_refl _
  | step _ ih => exact Nat.le_trans ih (Nat.le_add_right _ _)
theorem find_hd (N : List Nat) (n : Nat) (hn : n < bS N N.length) : ∃ h, h < N.length ∧ bS N h ≤ n ∧ n < bS N (h + 1) := by
  have key : ∀ m, n < bS N m → ∃ h, h < m ∧ bS N h ≤ n ∧ n < bS N (h + 1) := by
    intro m
    induction m with
    | zero => intro h; simp [bS] at h
    | succ m ih =>
      intro h
      rcases Nat.lt_or_ge n (bS N m) with h2 | h2
      · obtain ⟨x, hx, r⟩ := ih h2
        exact ⟨x, by omega, r⟩
      · exact ⟨m, Nat.lt_succ_self m, h2, h⟩
  exact key N.length hn
/-- L is the mix of N that has n others ahead of it -/
def Mx : List Nat → Nat → List Nat → Prop
  | N, n, [] => tN2 N = 0 ∧ n = 0
  | N, n, h :: L => h < N.length ∧ 1 ≤ N.getD h 0 ∧ bS N h ≤ n ∧ Mx (less N h) (n - bS N h) L ∧ n < bS N (h + 1)
theorem Mx.nil (N : List Nat) (h : tN2 N = 0) : Mx N 0 [] := ⟨h, rfl⟩
theorem Mx.cons (N : List Nat) (n h : Nat) (L : List Nat) (hh : h < N.length) (h1 : 1 ≤ N.getD h 0) (hn : bS N h ≤ n) (ht : Mx (less N h) (n - bS N h) L) (h2 : n < bS N (h + 1)) : Mx N n (h :: L) := ⟨hh, h1, hn, ht, h2⟩
theorem Mx.on {P : List Nat → Nat → List Nat → Prop} (p0 : ∀ N, tN2 N = 0 → P N 0 []) (p1 : ∀ N n h L, h < N.length → 1 ≤ N.getD h 0 → bS N h ≤ n → Mx (less N h) (n - bS N h) L → n < bS N (h + 1) → P (less N h) (n - bS N h) L → P N n (h :: L)) : ∀ (L : List Nat) (N : List Nat) (n : Nat), Mx N n L → P N n L
  | [], N, _, ⟨h, e⟩ => e ▸ p0 N h
  | h :: L, N, n, ⟨hh, h1, hn, ht, h2⟩ => p1 N n h L hh h1 hn ht h2 (Mx.on p0 p1 L _ _ ht)
theorem mx_ex : ∀ (s : Nat) (N : List Nat) (n : Nat), tN2 N = s → s ≤ 24 → n < mN N → ∃ L, Mx N n L ∧ L.length = s
  | 0, N, n, hs, _, hn => by
    have h := cN_pf N N.length (by unfold tN2 at hs; omega)
    have e : mN N * pf N N.length = 1 := by
      have : sN N N.length = 0 := hs
      rw [this] at h
      exact h
    have := Nat.eq_one_of_mul_eq_one_right e
    obtain rfl : n = 0 := by omega
    exact ⟨[], .nil N hs, rfl⟩
  | s + 1, N, n, hs, h24, hn => by
    rw [← bS_all N (by omega) (by omega)] at hn
    obtain ⟨h, hh, ha, hb⟩ := find_hd N n hn
    have hbg := bg_mul N h hh (by omega) (by omega)
    have hb' : n < bS N h + bg N h := hb
    have h1 : 1 ≤ N.getD h 0 := by
      rcases Nat.eq_zero_or_pos (N.getD h 0) with hz | hp
      · have := hbg.2.1 hz
        omega
      · exact hp
    have hm := hbg.2.2 h1
    have ht := (mN_less N h hh h1 (by omega)).2
    obtain ⟨L, hL, hl⟩ := mx_ex s (less N h) (n - bS N h) (by omega) (by omega) (by omega)
    exact ⟨h :: L, .cons N n h L hh h1 ha hL hb, by simp [hl]⟩
end Go.Proofs.Ytaiccmbhdgecgaa
