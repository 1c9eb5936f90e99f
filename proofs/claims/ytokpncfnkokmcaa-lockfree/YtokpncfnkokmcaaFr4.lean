/-
  A handler's step: served, Odd, Even, Leave.
-/
import Derived.Test.YtokpncfnkokmcaaFr3
namespace Go.Proofs.Ytokpncfnkokmcaa
open Go.RowKit
set_option maxRecDepth 100000

/-- the handler one step on, without a new ticket -/
abbrev nx (h : Hn) : Hn := (h.1, aa h + 1, h.2.2)
theorem FI.quiet {n : Nat} {H : List Hn} {T : List Hd} (F : FI n H T) {i : Nat} {h : Hn} {k : Nat} (hi : H[i]? = some h) (hk : k < nn h) (hlt : aa h < 4 * nn h) (hev : aa h % 2 = 1 ∨ 2 * nn h ≤ aa h) (hin : ∀ l, l < nn h → 2 * l + 1 = aa h → tt h l = (tg T (ss h l)).2.1)
    (q : Int) (hq : ∀ s', (sqn s' (nx h) : Int) = sqn s' h + if s' = ss h k then q - (tg T (ss h k)).2.2 else 0) :
    FI n (H.set i (nx h)) (T.set (ss h k).toNat ((tg T (ss h k)).1, (tg T (ss h k)).2.1, q)) := by
  have hok := F.hok i h hi
  have hw := hok.wf k hk
  have htl := hok.tl
  obtain ⟨h', hh'⟩ : ∃ h' : Hn, h' = nx h := ⟨_, rfl⟩
  have e1 : h'.1 = h.1 := by rw [hh']
  have e2 : aa h' = aa h + 1 := by rw [hh']
  have e4 : nn h' = nn h := by unfold nn; rw [e1]
  have e5 : ∀ l, ss h' l = ss h l := fun l => by unfold ss; rw [e1]
  have e3 : ∀ l, tt h' l = tt h l := fun l => by rw [hh']
  have e6 : h'.2.2.length = h.2.2.length := by rw [hh']
  rw [← hh'] at hq ⊢
  clear hh'
  obtain ⟨x, hx⟩ : ∃ x, tg T (ss h k) = x := ⟨_, rfl⟩
  rw [hx] at hq ⊢
  have hll : ∀ l, (if ss h l = ss h k then ((x.1, x.2.1, q) : Hd) else tg T (ss h l)).2.1 = (tg T (ss h l)).2.1 := by
    intro l
    split
    · rename_i e; rw [e, hx]
    · rfl
  refine F.upd hi hw.1 hw.2 _ e1 ⟨fun l hl => by rw [e5]; exact hok.wf l (by omega), fun l m hlm hm => by rw [e5, e5]; exact hok.st l m hlm (by omega), by omega, by omega⟩ (by rw [hx]; exact Int.le_refl _) ?_ ?_ ?_ ?_ ?_ ?_ ?_ ?_ ?_ ?_
  · intro l hl hle
    exact ⟨by omega, e3 l⟩
  · intro l hl h1 h2
    omega
  · intro t h1 h2
    rw [hx] at h1
    have h2' : t < x.1 := h2
    omega
  · intro l hl h1
    rw [hll, e3]
    have h3 := F.gn i h l hi hl (by omega)
    constructor
    · intro c; omega
    · intro c; have := h3.2 c; omega
  · intro j g l _ _ _ _ _
    rw [hx]
  · intro l hl h1 h2
    rw [hll, e3]
    by_cases c : 2 * l + 1 = aa h
    · exact hin l hl c
    · exact F.ins i h l hi hl (by omega) (by omega)
  · intro j g l hj hne hl h1 h2 e
    have h3 := F.ins j g l hj hl h1 h2
    rw [e, hx] at h3
    exact h3
  · intro s'
    have := ind_same (S := h.1) (s := s') (f := fun l => decide (2 * l + 1 ≤ aa h)) (g := fun l => decide (2 * l + 1 ≤ aa h')) (fun l hl _ => decide_eq_decide.2 (by have hl' : l < nn h := hl; omega))
    unfold gvc
    rw [e1, ← this, hx]
    split <;> first | omega | (simp only; omega)
  · intro s'
    have := ind_same (S := h.1) (s := s') (f := fun l => decide (4 * nn h + l < aa h)) (g := fun l => decide (4 * nn h + l < aa h')) (fun l hl _ => decide_eq_decide.2 (by omega))
    unfold lfc
    rw [e1, e4, ← this, hx]
    split <;> first | omega | (simp only; omega)
  · intro s'
    rw [hx]
    exact hq s'
/-- it is served -/
theorem FI.serve {n : Nat} {H : List Hn} {T : List Hd} (F : FI n H T) {i : Nat} {h : Hn} {k : Nat} (hi : H[i]? = some h) (hk : k < nn h) (ha : aa h = 2 * k + 1) (hs : tt h k = (tg T (ss h k)).2.1) : FI n (H.set i (nx h)) T := by
  have hok := F.hok i h hi
  have := F.quiet hi hk (by omega) (.inl (by omega)) (fun l hl e => by rw [show l = k by omega]; exact hs) (tg T (ss h k)).2.2 (fun s' => by
    have q1 := ind_same (S := h.1) (s := s') (f := fun l => decide (2 * nn h + l < aa h)) (g := fun l => decide (2 * nn h + l < aa h + 1)) (fun l hl _ => decide_eq_decide.2 (by omega))
    have q2 := ind_same (S := h.1) (s := s') (f := fun l => decide (3 * nn h + l < aa h)) (g := fun l => decide (3 * nn h + l < aa h + 1)) (fun l hl _ => decide_eq_decide.2 (by omega))
    show ((ind h.1 s' (fun l => decide (2 * nn h + l < aa h + 1)) + ind h.1 s' (fun l => decide (3 * nn h + l < aa h + 1)) : Nat) : Int) = ((ind h.1 s' (fun l => decide (2 * nn h + l < aa h)) + ind h.1 s' (fun l => decide (3 * nn h + l < aa h)) : Nat) : Int) + _
    rw [q1, q2]
    split <;> omega)
  have e : (((tg T (ss h k)).1, (tg T (ss h k)).2.1, (tg T (ss h k)).2.2) : Hd) = tg T (ss h k) := rfl
  rw [e, tg_same] at this
  exact this
/-- a change begins -/
theorem FI.begins {n : Nat} {H : List Hn} {T : List Hd} (F : FI n H T) {i : Nat} {h : Hn} {k : Nat} (hi : H[i]? = some h) (hk : k < nn h) (ha : aa h = 2 * nn h + k) : FI n (H.set i (nx h)) (T.set (ss h k).toNat ((tg T (ss h k)).1, (tg T (ss h k)).2.1, (tg T (ss h k)).2.2 + 1)) := by
  have hok := F.hok i h hi
  refine F.quiet hi hk (by omega) (.inr (by omega)) (fun l hl e => by omega) _ (fun s' => ?_)
  have q1 := ind_step (S := h.1) (f := fun l => decide (2 * nn h + l < aa h)) (g := fun l => decide (2 * nn h + l < aa h + 1)) s' hk (fun k' hk' e => hok.uniq hk' hk e) (fun k' hk' hne => decide_eq_decide.2 (by omega)) (decide_eq_false (by omega)) (decide_eq_true (by omega))
  have q2 := ind_same (S := h.1) (s := s') (f := fun l => decide (3 * nn h + l < aa h)) (g := fun l => decide (3 * nn h + l < aa h + 1)) (fun l hl _ => decide_eq_decide.2 (by omega))
  show ((ind h.1 s' (fun l => decide (2 * nn h + l < aa h + 1)) + ind h.1 s' (fun l => decide (3 * nn h + l < aa h + 1)) : Nat) : Int) = ((ind h.1 s' (fun l => decide (2 * nn h + l < aa h)) + ind h.1 s' (fun l => decide (3 * nn h + l < aa h)) : Nat) : Int) + if s' = h.1.getD k 0 then _ else _
  rw [q1, q2]
  split <;> omega
/-- a change ends -/
theorem FI.ends {n : Nat} {H : List Hn} {T : List Hd} (F : FI n H T) {i : Nat} {h : Hn} {k : Nat} (hi : H[i]? = some h) (hk : k < nn h) (ha : aa h = 3 * nn h + k) : FI n (H.set i (nx h)) (T.set (ss h k).toNat ((tg T (ss h k)).1, (tg T (ss h k)).2.1, (tg T (ss h k)).2.2 + 1)) := by
  have hok := F.hok i h hi
  refine F.quiet hi hk (by omega) (.inr (by omega)) (fun l hl e => by omega) _ (fun s' => ?_)
  have q1 := ind_same (S := h.1) (s := s') (f := fun l => decide (2 * nn h + l < aa h)) (g := fun l => decide (2 * nn h + l < aa h + 1)) (fun l hl _ => decide_eq_decide.2 (by have hl' : l < nn h := hl; omega))
  have q2 := ind_step (S := h.1) (f := fun l => decide (3 * nn h + l < aa h)) (g := fun l => decide (3 * nn h + l < aa h + 1)) s' hk (fun k' hk' e => hok.uniq hk' hk e) (fun k' hk' hne => decide_eq_decide.2 (by omega)) (decide_eq_false (by omega)) (decide_eq_true (by omega))
  show ((ind h.1 s' (fun l => decide (2 * nn h + l < aa h + 1)) + ind h.1 s' (fun l => decide (3 * nn h + l < aa h + 1)) : Nat) : Int) = ((ind h.1 s' (fun l => decide (2 * nn h + l < aa h)) + ind h.1 s' (fun l => decide (3 * nn h + l < aa h)) : Nat) : Int) + if s' = h.1.getD k 0 then _ else _
  rw [q1, q2]
  split <;> omega
/-- it leaves a stripe -/
theorem FI.leaves {n : Nat} {H : List Hn} {T : List Hd} (F : FI n H T) {i : Nat} {h : Hn} {k : Nat} (hi : H[i]? = some h) (hk : k < nn h) (ha : aa h = 4 * nn h + k) : FI n (H.set i (nx h)) (T.set (ss h k).toNat ((tg T (ss h k)).1, (tg T (ss h k)).2.1 + 1, (tg T (ss h k)).2.2)) := by
  have hok := F.hok i h hi
  have hw := hok.wf k hk
  have htl := hok.tl
  have hown := F.ins i h k hi hk (by omega) (by omega)
  obtain ⟨h', hh'⟩ : ∃ h' : Hn, h' = nx h := ⟨_, rfl⟩
  have e1 : h'.1 = h.1 := by rw [hh']
  have e2 : aa h' = aa h + 1 := by rw [hh']
  have e4 : nn h' = nn h := by unfold nn; rw [e1]
  have e5 : ∀ l, ss h' l = ss h l := fun l => by unfold ss; rw [e1]
  have e3 : ∀ l, tt h' l = tt h l := fun l => by rw [hh']
  have e6 : h'.2.2.length = h.2.2.length := by rw [hh']
  rw [← hh']
  clear hh'
  obtain ⟨x, hx⟩ : ∃ x, tg T (ss h k) = x := ⟨_, rfl⟩
  rw [hx] at hown ⊢
  have oth : ∀ (j : Nat) (g : Hn) (l : Nat), H[j]? = some g → j ≠ i → l < nn g → 2 * l + 1 ≤ aa g → ss g l = ss h k → tt g l ≠ x.2.1 := by
    intro j g l hj hne hl hla e c
    exact hne (F.ds j g l i h k hj hi hl hla hk (by omega) e (by rw [c, hown]))
  refine F.upd hi hw.1 hw.2 _ e1 ⟨fun l hl => by rw [e5]; exact hok.wf l (by omega), fun l m hlm hm => by rw [e5, e5]; exact hok.st l m hlm (by omega), by omega, by omega⟩ (by rw [hx]; exact Int.le_refl _) ?_ ?_ ?_ ?_ ?_ ?_ ?_ ?_ ?_ ?_
  · intro l hl hle
    exact ⟨by omega, e3 l⟩
  · intro l hl h1 h2
    omega
  · intro t h1 h2
    rw [hx] at h1
    have h2' : t < x.1 := h2
    omega
  · intro l hl h1
    rw [e3]
    have h3 := F.gn i h l hi hl (by omega)
    by_cases e : l = k
    · subst e
      rw [if_pos rfl, hown]
      constructor
      · intro _; show x.2.1 < x.2.1 + 1; omega
      · intro _; omega
    · rw [if_neg (fun c => e (hok.uniq hl hk c))]
      constructor
      · intro c; exact h3.1 (by omega)
      · intro c; have := h3.2 c; omega
  · intro j g l hj hne hl hla e
    have := oth j g l hj hne hl hla e
    rw [hx]
    constructor
    · intro c; show tt g l < x.2.1 + 1; omega
    · intro c; have c' : tt g l < x.2.1 + 1 := c; omega
  · intro l hl h1 h2
    rw [e3, if_neg (fun c => by have := hok.uniq hl hk c; omega)]
    exact F.ins i h l hi hl (by omega) (by omega)
  · intro j g l hj hne hl h1 h2 e
    exact absurd (F.one hj hi hl hk e h1 h2 (by omega) (by omega)) hne
  · intro s'
    have := ind_same (S := h.1) (s := s') (f := fun l => decide (2 * l + 1 ≤ aa h)) (g := fun l => decide (2 * l + 1 ≤ aa h')) (fun l hl _ => decide_eq_decide.2 (by have hl' : l < nn h := hl; omega))
    unfold gvc
    rw [e1, ← this, hx]
    split <;> first | omega | (simp only; omega)
  · intro s'
    have := ind_step (S := h.1) (f := fun l => decide (4 * nn h + l < aa h)) (g := fun l => decide (4 * nn h + l < aa h')) s' hk (fun k' hk' e => hok.uniq hk' hk e) (fun k' hk' hne => decide_eq_decide.2 (by omega)) (decide_eq_false (by omega)) (decide_eq_true (by omega))
    unfold lfc
    rw [e1, e4, this, hx]
    show _ = _ + if s' = h.1.getD k 0 then x.2.1 + 1 - x.2.1 else 0
    split <;> omega
  · intro s'
    have q1 := ind_same (S := h.1) (s := s') (f := fun l => decide (2 * nn h + l < aa h)) (g := fun l => decide (2 * nn h + l < aa h')) (fun l hl _ => decide_eq_decide.2 (by have hl' : l < nn h := hl; omega))
    have q2 := ind_same (S := h.1) (s := s') (f := fun l => decide (3 * nn h + l < aa h)) (g := fun l => decide (3 * nn h + l < aa h')) (fun l hl _ => decide_eq_decide.2 (by have hl' : l < nn h := hl; omega))
    unfold sqn
    rw [e1, e4, ← q1, ← q2, hx]
    split <;> first | omega | (simp only; omega)
/-- what every handler has done -/
theorem FI.all {n : Nat} {H : List Hn} {T : List Hd} (F : FI n H T) (hd : ∀ h ∈ H, aa h = 5 * nn h) {s : Int} (h0 : 0 ≤ s) (h1 : s < (n : Int)) : (tg T s).2.2 = 2 * (sm (fun h => ind h.1 s (fun _ => true)) H : Int) ∧ (tg T s).1 = (tg T s).2.1 := by
  have key : ∀ (h : Hn), h ∈ H → ∀ f : Nat → Bool, (∀ k, k < nn h → f k = true) → ind h.1 s f = ind h.1 s (fun _ => true) := fun h _ f hf => ind_same fun k hk _ => hf k hk
  rw [F.qs s h0 h1, F.gs s h0 h1, F.ls s h0 h1]
  have a1 := sm_congr (gvc s) (fun h => ind h.1 s (fun _ => true)) H (fun h hh => key h hh _ fun k hk => decide_eq_true (by have := hd h hh; omega))
  have a2 := sm_congr (lfc s) (fun h => ind h.1 s (fun _ => true)) H (fun h hh => key h hh _ fun k hk => decide_eq_true (by have := hd h hh; omega))
  have a3 := sm_congr (sqn s) (fun h => 2 * ind h.1 s (fun _ => true)) H (fun h hh => by
    unfold sqn
    rw [key h hh _ (fun k hk => decide_eq_true (by have := hd h hh; omega)), key h hh _ (fun k hk => decide_eq_true (by have := hd h hh; omega))]
    omega)
  have a4 : ∀ (f : Hn → Nat) (L : List Hn), sm (fun h => 2 * f h) L = 2 * sm f L := by
    intro f L
    induction L with
    | nil => rfl
    | cons x t ih => rw [sm_cons, sm_cons, ih]; omega
  rw [a1, a2, a3, a4]
  exact ⟨by omega, rfl⟩
end Go.Proofs.Ytokpncfnkokmcaa
