/-
  A handler's step: a ticket, served, Odd, Even, Leave.
-/
import Derived.Test.YtokpncfnkokmcaaFr2
namespace Go.Proofs.Ytokpncfnkokmcaa
open Go.RowKit
set_option maxRecDepth 100000

theorem tg_same (T : List Hd) (s : Int) : T.set s.toNat (tg T s) = T := by
  unfold tg
  by_cases h : s.toNat < T.length
  · rw [List.getD_eq_getElem?_getD, List.getElem?_eq_getElem h]
    exact List.set_getElem_self h
  · rw [List.set_eq_of_length_le (by omega)]
/-- the counter's parity where one holds the stripe -/
theorem FI.par {n : Nat} {H : List Hn} {T : List Hd} (F : FI n H T) {i : Nat} {h : Hn} {k : Nat} (hi : H[i]? = some h) (hk : k < nn h) (a1 : 2 * k + 1 < aa h) (a2 : aa h ≤ 4 * nn h + k) : (tg T (ss h k)).2.2 % 2 = (sqn (ss h k) h : Int) % 2 ∧ 0 ≤ (tg T (ss h k)).2.2 := by
  have hw := (F.hok i h hi).wf k hk
  rw [F.qs _ hw.1 hw.2]
  have := sm_odd (sqn (ss h k)) H i h hi (fun j g hj hne => by
    have hg := F.hok j g hj
    unfold sqn
    by_cases e : ind g.1 (ss h k) (fun l => decide (2 * nn g + l < aa g)) = 1
    · obtain ⟨l, hl, es, el⟩ := ind_ex e
      have el := of_decide_eq_true el
      have hl' : l < nn g := hl
      rw [e]
      by_cases c : 3 * nn g + l < aa g
      · rw [ind_one hl es (decide_eq_true c)]
      · exact absurd (F.one hj hi hl hk es (by omega) (by omega) a1 a2) hne
    · have e0 : ind g.1 (ss h k) (fun l => decide (2 * nn g + l < aa g)) = 0 := by have := ind_le g.1 (ss h k) (fun l => decide (2 * nn g + l < aa g)); omega
      rw [e0, ind_zero fun l hl es => decide_eq_false fun c => e (ind_one hl es (decide_eq_true (by omega)))])
  constructor
  · omega
  · omega
theorem sqn_at {n : Nat} {h : Hn} (hh : HOk n h) {k : Nat} (hk : k < nn h) : sqn (ss h k) h = (if 2 * nn h + k < aa h then 1 else 0) + (if 3 * nn h + k < aa h then 1 else 0) := by
  have key : ∀ f : Nat → Bool, ind h.1 (ss h k) f = if f k then 1 else 0 := by
    intro f
    cases e : f k with
    | true => rw [ind_one hk rfl e]; rfl
    | false => rw [ind_zero fun k' hk' es => by rw [hh.uniq hk' hk es]; exact e]; rfl
  unfold sqn
  rw [key, key]
  simp
theorem sm_cons (f : Hn → Nat) (x : Hn) (t : List Hn) : sm f (x :: t) = f x + sm f t := by simp [sm]
theorem sm_mono (f g : Hn → Nat) : ∀ (L : List Hn), (∀ h ∈ L, f h ≤ g h) → sm f L ≤ sm g L
  | [], _ => Nat.le_refl _
  | x :: t, hh => by
    have h1 := sm_mono f g t (fun h hm => hh h (List.mem_cons_of_mem _ hm))
    have h2 := hh x (List.mem_cons_self ..)
    rw [sm_cons, sm_cons]
    omega
theorem FI.lg {n : Nat} {H : List Hn} {T : List Hd} (F : FI n H T) {s : Int} (h0 : 0 ≤ s) (h1 : s < (n : Int)) : (tg T s).2.1 ≤ (tg T s).1 ∧ 0 ≤ (tg T s).2.1 ∧ (tg T s).1 ≤ 8 := by
  rw [F.ls s h0 h1, F.gs s h0 h1]
  have h2 := sm_mono (lfc s) (gvc s) H (fun g _ => by
    unfold lfc gvc
    by_cases e : ind g.1 s (fun l => decide (4 * nn g + l < aa g)) = 1
    · obtain ⟨l, hl, es, el⟩ := ind_ex e
      have el := of_decide_eq_true el
      have hl' : l < nn g := hl
      rw [e, ind_one hl es (decide_eq_true (by omega))]
      exact Nat.le_refl _
    · have := ind_le g.1 s (fun l => decide (4 * nn g + l < aa g))
      omega)
  have h3 := sm_le (gvc s) 1 H (fun g _ => ind_le _ _ _)
  have := F.few
  omega
/-- a ticket is taken -/
theorem FI.ticket {n : Nat} {H : List Hn} {T : List Hd} (F : FI n H T) {i : Nat} {h : Hn} {k : Nat} (hi : H[i]? = some h) (hk : k < nn h) (ha : aa h = 2 * k) :
    FI n (H.set i (h.1, aa h + 1, h.2.2 ++ [(tg T (ss h k)).1])) (T.set (ss h k).toNat ((tg T (ss h k)).1 + 1, (tg T (ss h k)).2)) := by
  have hok := F.hok i h hi
  have hw := hok.wf k hk
  have htl : h.2.2.length = k := by rw [hok.tl]; omega
  obtain ⟨hlg, _, _⟩ := F.lg hw.1 hw.2
  have gd : ∀ l, (h.2.2 ++ [(tg T (ss h k)).1]).getD l 0 = if l = k then (tg T (ss h k)).1 else tt h l := by
    intro l
    rw [List.getD_eq_getElem?_getD, List.getElem?_append, htl]
    by_cases c : l < k
    · rw [if_pos c, if_neg (by omega), ← List.getD_eq_getElem?_getD]
    · rw [if_neg c]
      by_cases c2 : l = k
      · rw [if_pos c2, c2, Nat.sub_self]
        rfl
      · rw [if_neg c2]
        unfold tt
        rw [List.getD_eq_getElem?_getD, List.getElem?_eq_none (by simp; omega), List.getElem?_eq_none (by omega)]
  have gl : (h.2.2 ++ [(tg T (ss h k)).1]).length = k + 1 := by rw [List.length_append, htl]; rfl
  obtain ⟨h', hh'⟩ : ∃ h' : Hn, h' = (h.1, aa h + 1, h.2.2 ++ [(tg T (ss h k)).1]) := ⟨_, rfl⟩
  have e1 : h'.1 = h.1 := by rw [hh']
  have e2 : aa h' = aa h + 1 := by rw [hh']
  have e4 : nn h' = nn h := by unfold nn; rw [e1]
  have e5 : ∀ l, ss h' l = ss h l := fun l => by unfold ss; rw [e1]
  have e3 : ∀ l, tt h' l = if l = k then (tg T (ss h k)).1 else tt h l := fun l => by rw [← gd l, hh']
  have e6 : h'.2.2.length = k + 1 := by rw [hh', ← gl]
  rw [← hh']
  clear hh' gd gl
  obtain ⟨x, hx⟩ : ∃ x, tg T (ss h k) = x := ⟨_, rfl⟩
  rw [hx] at hlg e3 ⊢
  refine F.upd hi hw.1 hw.2 _ e1 ⟨fun l hl => by rw [e5]; exact hok.wf l (by omega), fun l m hlm hm => by rw [e5, e5]; exact hok.st l m hlm (by omega), by omega, by omega⟩ (by rw [hx]; show x.1 ≤ x.1 + 1; omega) ?_ ?_ ?_ ?_ ?_ ?_ ?_ ?_ ?_ ?_
  · intro l hl hle
    exact ⟨by omega, by rw [e3, if_neg (by omega)]⟩
  · intro l hl h1 h2
    obtain rfl : l = k := by omega
    rw [e3, if_pos rfl, hx]
    exact ⟨rfl, Int.le_refl _, by show x.1 < x.1 + 1; omega⟩
  · intro t h1 h2
    rw [hx] at h1
    have h2' : t < x.1 + 1 := h2
    exact ⟨k, hk, by omega, rfl, by rw [e3, if_pos rfl]; omega⟩
  · intro l hl h1
    refine ⟨fun c => by omega, fun c => ?_⟩
    exfalso
    rw [e3] at c
    by_cases e : l = k
    · subst e
      rw [if_pos rfl, if_pos rfl] at c
      have c' : x.1 < x.2.1 := c
      omega
    · rw [if_neg e, if_neg (fun e2 => e (hok.uniq hl hk e2))] at c
      have := (F.gn i h l hi hl (by omega)).2 c
      omega
  · intro j g l _ _ _ _ _
    rw [hx]
  · intro l hl h1 h2
    rw [e3, if_neg (by omega), if_neg (fun e => by have := hok.uniq hl hk e; omega)]
    exact F.ins i h l hi hl (by omega) (by omega)
  · intro j g l hj hne hl h1 h2 e
    have h3 := F.ins j g l hj hl h1 h2
    rw [e, hx] at h3
    exact h3
  · intro s'
    have := ind_step (S := h.1) (f := fun l => decide (2 * l + 1 ≤ aa h)) (g := fun l => decide (2 * l + 1 ≤ aa h')) s' hk (fun k' hk' e => hok.uniq hk' hk e) (fun k' hk' hne => decide_eq_decide.2 (by omega)) (decide_eq_false (by omega)) (decide_eq_true (by omega))
    unfold gvc
    rw [e1, this, hx]
    show _ = _ + if s' = h.1.getD k 0 then x.1 + 1 - x.1 else 0
    split <;> first | omega | (simp only; omega)
  · intro s'
    have := ind_same (S := h.1) (s := s') (f := fun l => decide (4 * nn h + l < aa h)) (g := fun l => decide (4 * nn h + l < aa h')) (fun l hl _ => decide_eq_decide.2 (by omega))
    unfold lfc
    rw [e1, e4, ← this, hx]
    split <;> first | omega | (simp only; omega)
  · intro s'
    have q1 := ind_same (S := h.1) (s := s') (f := fun l => decide (2 * nn h + l < aa h)) (g := fun l => decide (2 * nn h + l < aa h')) (fun l hl _ => decide_eq_decide.2 (by omega))
    have q2 := ind_same (S := h.1) (s := s') (f := fun l => decide (3 * nn h + l < aa h)) (g := fun l => decide (3 * nn h + l < aa h')) (fun l hl _ => decide_eq_decide.2 (by omega))
    unfold sqn
    rw [e1, e4, ← q1, ← q2, hx]
    split <;> first | omega | (simp only; omega)
end Go.Proofs.Ytokpncfnkokmcaa
