/-
  Handlers that take stripes in rising order: what holds between two steps; each step keeps it; somebody goes on; none is held by two.
-/
import Derived.Test.YtokpncfnkokmcaaTb4
namespace Go.Proofs.Ytokpncfnkokmcaa
open Go.RowKit
set_option maxRecDepth 100000

/-- a handler: its stripes, its place, its tickets -/
abbrev Hn := List Int × Nat × List Int
abbrev nn (h : Hn) : Nat := h.1.length
abbrev aa (h : Hn) : Nat := h.2.1
abbrev ss (h : Hn) (k : Nat) : Int := h.1.getD k 0
abbrev tt (h : Hn) (k : Nat) : Int := h.2.2.getD k 0
/-- a stripe of the table -/
abbrev tg (T : List Hd) (s : Int) : Hd := T.getD s.toNat (0, 0, 0)
/-- 1 if stripe s is one of S at a place that f takes -/
def ind (S : List Int) (s : Int) (f : Nat → Bool) : Nat := if (List.range S.length).any (fun k => decide (S.getD k 0 = s) && f k) then 1 else 0
theorem ind_le (S : List Int) (s : Int) (f : Nat → Bool) : ind S s f ≤ 1 := by unfold ind; split <;> omega
theorem ind_one {S : List Int} {s : Int} {f : Nat → Bool} {k : Nat} (hk : k < S.length) (hs : S.getD k 0 = s) (hf : f k = true) : ind S s f = 1 := by
  unfold ind
  rw [if_pos]
  rw [List.any_eq_true]
  exact ⟨k, List.mem_range.2 hk, by rw [hf, decide_eq_true hs]; rfl⟩
theorem ind_zero {S : List Int} {s : Int} {f : Nat → Bool} (h : ∀ k, k < S.length → S.getD k 0 = s → f k = false) : ind S s f = 0 := by
  unfold ind
  rw [if_neg]
  rw [List.any_eq_true]
  rintro ⟨k, hk, e⟩
  rw [Bool.and_eq_true] at e
  have := h k (List.mem_range.1 hk) (of_decide_eq_true e.1)
  rw [this] at e
  exact absurd e.2 (by decide)
theorem ind_ex {S : List Int} {s : Int} {f : Nat → Bool} (h : ind S s f = 1) : ∃ k, k < S.length ∧ S.getD k 0 = s ∧ f k = true := by
  unfold ind at h
  split at h
  · rename_i e
    rw [List.any_eq_true] at e
    obtain ⟨k, hk, e⟩ := e
    rw [Bool.and_eq_true] at e
    exact ⟨k, List.mem_range.1 hk, of_decide_eq_true e.1, e.2⟩
  · omega
theorem ind_same {S : List Int} {s : Int} {f g : Nat → Bool} (h : ∀ k, k < S.length → S.getD k 0 = s → f k = g k) : ind S s f = ind S s g := by
  by_cases e : ind S s f = 1
  · obtain ⟨k, h1, h2, h3⟩ := ind_ex e
    rw [e, ind_one h1 h2 (by rw [← h k h1 h2]; exact h3)]
  · have e0 : ind S s f = 0 := by have := ind_le S s f; omega
    rw [e0]
    refine (ind_zero fun k hk hs => ?_).symm
    cases hg : g k with
    | false => rfl
    | true => exact absurd (ind_one hk hs (by rw [h k hk hs]; exact hg)) e
/-- the sum over all handlers -/
def sm (f : Hn → Nat) (H : List Hn) : Nat := (H.map f).sum
theorem sm_set (f : Hn → Nat) (h' : Hn) : ∀ (H : List Hn) (i : Nat) (h : Hn), H[i]? = some h → sm f (H.set i h') + f h = sm f H + f h'
  | [], i, h, e => by simp at e
  | x :: t, 0, h, e => by
    simp at e
    subst e
    simp [sm]
    omega
  | x :: t, i + 1, h, e => by
    have ih := sm_set f h' t i h (by simpa using e)
    simp [sm] at ih ⊢
    omega
theorem sm_le (f : Hn → Nat) (c : Nat) : ∀ (H : List Hn), (∀ h ∈ H, f h ≤ c) → sm f H ≤ c * H.length
  | [], _ => by simp [sm]
  | x :: t, hh => by
    have ih := sm_le f c t (fun h hm => hh h (List.mem_cons_of_mem _ hm))
    have := hh x (List.mem_cons_self ..)
    simp [sm, Nat.mul_add] at ih ⊢
    omega
theorem sm_even (f : Hn → Nat) : ∀ (H : List Hn), (∀ h ∈ H, f h % 2 = 0) → sm f H % 2 = 0
  | [], _ => by simp [sm]
  | x :: t, hh => by
    have ih := sm_even f t (fun h hm => hh h (List.mem_cons_of_mem _ hm))
    have := hh x (List.mem_cons_self ..)
    simp [sm] at ih ⊢
    omega
theorem sm_congr (f g : Hn → Nat) : ∀ (H : List Hn), (∀ h ∈ H, f h = g h) → sm f H = sm g H
  | [], _ => rfl
  | x :: t, hh => by
    have ih := sm_congr f g t (fun h hm => hh h (List.mem_cons_of_mem _ hm))
    have := hh x (List.mem_cons_self ..)
    simp [sm] at ih ⊢
    omega
/-- even but for one -/
theorem sm_odd (f : Hn → Nat) : ∀ (H : List Hn) (i : Nat) (h : Hn), H[i]? = some h → (∀ j g, H[j]? = some g → j ≠ i → f g % 2 = 0) → sm f H % 2 = f h % 2
  | [], i, h, e, _ => by simp at e
  | x :: t, 0, h, e, hh => by
    simp at e
    subst e
    have := sm_even f t (fun g hg => by
      obtain ⟨j, hj⟩ := List.getElem?_of_mem hg
      exact hh (j + 1) g (by simpa using hj) (by omega))
    simp [sm] at this ⊢
    omega
  | x :: t, i + 1, h, e, hh => by
    have ih := sm_odd f t i h (by simpa using e) (fun j g hj hne => hh (j + 1) g (by simpa using hj) (by omega))
    have := hh 0 x (by simp) (by omega)
    simp [sm] at ih ⊢
    omega
def gvc (s : Int) (h : Hn) : Nat := ind h.1 s (fun k => decide (2 * k + 1 ≤ aa h))
def lfc (s : Int) (h : Hn) : Nat := ind h.1 s (fun k => decide (4 * nn h + k < aa h))
def sqn (s : Int) (h : Hn) : Nat := ind h.1 s (fun k => decide (2 * nn h + k < aa h)) + ind h.1 s (fun k => decide (3 * nn h + k < aa h))
/-- a handler that may be -/
structure HOk (n : Nat) (h : Hn) : Prop where
  wf : ∀ k, k < nn h → 0 ≤ ss h k ∧ ss h k < (n : Int)
  st : ∀ k l, k < l → l < nn h → ss h k < ss h l
  le : aa h ≤ 5 * nn h
  tl : h.2.2.length = min (nn h) ((aa h + 1) / 2)
theorem HOk.uniq {n : Nat} {h : Hn} (hh : HOk n h) {k l : Nat} (hk : k < nn h) (hl : l < nn h) (e : ss h k = ss h l) : k = l := by
  rcases Nat.lt_trichotomy k l with c | c | c
  · have := hh.st k l c hl; omega
  · exact c
  · have := hh.st l k c hk; omega
structure FI (n : Nat) (H : List Hn) (T : List Hd) : Prop where
  len : T.length = n
  few : H.length ≤ 8
  hok : ∀ (i : Nat) (h : Hn), H[i]? = some h → HOk n h
  tk : ∀ (i : Nat) (h : Hn) (k : Nat), H[i]? = some h → k < nn h → 2 * k + 1 ≤ aa h → 0 ≤ tt h k ∧ tt h k < (tg T (ss h k)).1
  ds : ∀ (i : Nat) (h : Hn) (k : Nat) (j : Nat) (g : Hn) (l : Nat), H[i]? = some h → H[j]? = some g → k < nn h → 2 * k + 1 ≤ aa h → l < nn g → 2 * l + 1 ≤ aa g → ss h k = ss g l → tt h k = tt g l → i = j
  sj : ∀ s : Int, 0 ≤ s → s < (n : Int) → ∀ t, 0 ≤ t → t < (tg T s).1 → ∃ (i : Nat) (h : Hn) (k : Nat), H[i]? = some h ∧ k < nn h ∧ 2 * k + 1 ≤ aa h ∧ ss h k = s ∧ tt h k = t
  gn : ∀ (i : Nat) (h : Hn) (k : Nat), H[i]? = some h → k < nn h → 2 * k + 1 ≤ aa h → (4 * nn h + k < aa h ↔ tt h k < (tg T (ss h k)).2.1)
  ins : ∀ (i : Nat) (h : Hn) (k : Nat), H[i]? = some h → k < nn h → 2 * k + 1 < aa h → aa h ≤ 4 * nn h + k → tt h k = (tg T (ss h k)).2.1
  gs : ∀ s : Int, 0 ≤ s → s < (n : Int) → (tg T s).1 = (sm (gvc s) H : Int)
  ls : ∀ s : Int, 0 ≤ s → s < (n : Int) → (tg T s).2.1 = (sm (lfc s) H : Int)
  qs : ∀ s : Int, 0 ≤ s → s < (n : Int) → (tg T s).2.2 = (sm (sqn s) H : Int)
theorem set_some {H : List Hn} {i : Nat} {h h' : Hn} (hi : H[i]? = some h) {j : Nat} {g : Hn} (e : (H.set i h')[j]? = some g) : (j = i ∧ g = h') ∨ (j ≠ i ∧ H[j]? = some g) := by
  have hl := (List.getElem?_eq_some_iff.1 hi).1
  rw [List.getElem?_set] at e
  split at e
  · rename_i c
    subst c
    try rw [if_pos hl] at e
    cases e
    exact .inl ⟨rfl, rfl⟩
  · rename_i c
    exact .inr ⟨fun e' => c e'.symm, e⟩
theorem set_self {H : List Hn} {i : Nat} {h h' : Hn} (hi : H[i]? = some h) : (H.set i h')[i]? = some h' := by
  rw [List.getElem?_set_self (List.getElem?_eq_some_iff.1 hi).1]
theorem set_other {H : List Hn} {i j : Nat} {h' : Hn} (hij : j ≠ i) : (H.set i h')[j]? = H[j]? := List.getElem?_set_ne (Ne.symm hij)
theorem tg_set {T : List Hd} {s s' : Int} {x : Hd} (h0 : 0 ≤ s) (h1 : s < (T.length : Int)) (h0' : 0 ≤ s') : tg (T.set s.toNat x) s' = if s' = s then x else tg T s' := by
  unfold tg
  rw [List.getD_eq_getElem?_getD, List.getD_eq_getElem?_getD, List.getElem?_set]
  by_cases e : s' = s
  · subst e
    rw [if_pos rfl, if_pos rfl, if_pos (by omega)]
    rfl
  · rw [if_neg (by omega), if_neg e]
/-- no stripe is held by two -/
theorem FI.one {n : Nat} {H : List Hn} {T : List Hd} (F : FI n H T) {i j : Nat} {h g : Hn} {k l : Nat} (hi : H[i]? = some h) (hj : H[j]? = some g) (hk : k < nn h) (hl : l < nn g) (e : ss h k = ss g l) (a1 : 2 * k + 1 < aa h) (a2 : aa h ≤ 4 * nn h + k) (b1 : 2 * l + 1 < aa g) (b2 : aa g ≤ 4 * nn g + l) : i = j :=
  F.ds i h k j g l hi hj hk (by omega) hl (by omega) e (by rw [F.ins i h k hi hk a1 a2, F.ins j g l hj hl b1 b2, e])
/-- who holds a stripe is served there -/
theorem FI.served {n : Nat} {H : List Hn} {T : List Hd} (F : FI n H T) {i : Nat} {h : Hn} {k : Nat} (hi : H[i]? = some h) (hk : k < nn h) (a1 : 2 * k + 1 < aa h) (a2 : aa h ≤ 4 * nn h + k) : svd (tg T (ss h k)) (tt h k) = true := by
  unfold svd
  have h1 := F.ins i h k hi hk a1 a2
  have h2 := F.tk i h k hi hk (by omega)
  exact decide_eq_true ⟨h1, by omega⟩
/-- somebody goes on -/
def can (T : List Hd) (h : Hn) : Bool :=
  if aa h < 2 * nn h then (if aa h % 2 = 0 then true else svd (tg T (ss h (aa h / 2))) (tt h (aa h / 2))) else decide (aa h < 5 * nn h)
theorem FI.goes {n : Nat} {H : List Hn} {T : List Hd} (F : FI n H T) {i : Nat} {h : Hn} (hi : H[i]? = some h) (hd : aa h < 5 * nn h) : ∃ (j : Nat) (g : Hn), H[j]? = some g ∧ can T g = true := by
  -- by the stripe that is waited for: the higher, the fewer
  have key : ∀ (m : Nat) (i : Nat) (h : Hn), H[i]? = some h → aa h < 5 * nn h → can T h = false → (n : Int) - ss h (aa h / 2) ≤ (m : Int) → ∃ (j : Nat) (g : Hn), H[j]? = some g ∧ can T g = true := by
    intro m
    induction m with
    | zero =>
      intro i h hi hd hc hm
      have hok := F.hok i h hi
      unfold can at hc
      split at hc
      · have := hok.wf (aa h / 2) (by omega); omega
      · simp at hc; omega
    | succ m ih =>
      intro i h hi hd hc hm
      have hok := F.hok i h hi
      have hc0 := hc
      unfold can at hc
      split at hc
      · rename_i h2
        split at hc
        · cases hc
        · rename_i hodd
          have hk : aa h / 2 < nn h := by omega
          have ha : 2 * (aa h / 2) + 1 = aa h := by omega
          have hw := hok.wf _ hk
          have htk := F.tk i h _ hi hk (by omega)
          have hgn := F.gn i h _ hi hk (by omega)
          have hnl : ¬ tt h (aa h / 2) < (tg T (ss h (aa h / 2))).2.1 := fun e => by have := hgn.2 e; omega
          have hne : tt h (aa h / 2) ≠ (tg T (ss h (aa h / 2))).2.1 := fun e => by
            unfold svd at hc
            rw [decide_eq_true ⟨e, by omega⟩] at hc
            cases hc
          have hl0 : 0 ≤ (tg T (ss h (aa h / 2))).2.1 := by rw [F.ls _ hw.1 hw.2]; omega
          obtain ⟨j, g, l, hj, hl, hla, hls, hlt⟩ := F.sj _ hw.1 hw.2 (tg T (ss h (aa h / 2))).2.1 hl0 (by omega)
          have hgok := F.hok j g hj
          have hng : ¬ 4 * nn g + l < aa g := fun e => by
            have := (F.gn j g l hj hl hla).1 e
            rw [hls, hlt] at this
            omega
          by_cases hcg : can T g = true
          · exact ⟨j, g, hj, hcg⟩
          · have hcg' : can T g = false := by cases h : can T g with | false => rfl | true => exact absurd h hcg
            have hcg2 := hcg'
            unfold can at hcg2
            split at hcg2
            · rename_i g2
              split at hcg2
              · cases hcg2
              · rename_i godd
                have hlk : l < aa g / 2 ∨ l = aa g / 2 := by omega
                rcases hlk with hlk | hlk
                · refine ih j g hj (by omega) hcg' ?_
                  have := hgok.st l (aa g / 2) hlk (by omega)
                  rw [hls] at this
                  omega
                · subst hlk
                  unfold svd at hcg2
                  rw [hls, hlt] at hcg2
                  rw [decide_eq_true ⟨rfl, by omega⟩] at hcg2
                  cases hcg2
            · simp at hcg2
              omega
      · simp at hc
        omega
  cases hc : can T h with
  | true => exact ⟨i, h, hi, hc⟩
  | false => exact key ((n : Int) - ss h (aa h / 2)).toNat i h hi hd hc (by omega)
end Go.Proofs.Ytokpncfnkokmcaa
