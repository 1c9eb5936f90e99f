/-
  What ParseShown answers of a text.
-/
import Derived.Test.YtpplkoilpblpkaaDoorPsh
namespace Go.Proofs.YtpplkoilpblpkaaDoor
open Go.RowKit
set_option maxRecDepth 100000

/-- a Value as it is shown: what it says, how many bytes it took, and whether it ends well -/
def sv : List UInt8 → List UInt8 × Nat × Bool
  | [] => ([], 0, true)
  | [c] => if IsBr c then ([], 0, decide (c = 40)) else ([c], 1, true)
  | c :: d :: t => if IsBr c then (if d = c then (c :: (sv t).1, (sv t).2.1 + 2, (sv t).2.2) else ([], 0, decide (c = 40))) else (c :: (sv (d :: t)).1, (sv (d :: t)).2.1 + 1, (sv (d :: t)).2.2)
theorem sv_plain (c : UInt8) (t : List UInt8) (h : ¬ IsBr c) : sv (c :: t) = (c :: (sv t).1, (sv t).2.1 + 1, (sv t).2.2) := by
  cases t with
  | nil => show (if IsBr c then _ else _) = _; rw [if_neg h]; rfl
  | cons d t => rw [show sv (c :: d :: t) = if IsBr c then (if d = c then (c :: (sv t).1, (sv t).2.1 + 2, (sv t).2.2) else ([], 0, decide (c = 40))) else (c :: (sv (d :: t)).1, (sv (d :: t)).2.1 + 1, (sv (d :: t)).2.2) from by rw [sv], if_neg h]
theorem sv_twice (c : UInt8) (t : List UInt8) (h : IsBr c) : sv (c :: c :: t) = (c :: (sv t).1, (sv t).2.1 + 2, (sv t).2.2) := by rw [sv, if_pos h, if_pos rfl]
theorem sv_stop (c : UInt8) (t : List UInt8) (h : IsBr c) (hn : ∀ d t', t = d :: t' → d ≠ c) : sv (c :: t) = ([], 0, decide (c = 40)) := by
  cases t with
  | nil => rw [sv, if_pos h]
  | cons d t => rw [sv, if_pos h, if_neg (hn d t rfl)]
theorem sv_len (n : Nat) : ∀ l : List UInt8, l.length ≤ n → (sv l).1.length ≤ l.length ∧ (sv l).2.1 ≤ l.length := by
  induction n with
  | zero =>
    intro l hl
    have : l = [] := List.eq_nil_of_length_eq_zero (by omega)
    subst this
    simp [sv]
  | succ n ih =>
    intro l hl
    cases l with
    | nil => simp [sv]
    | cons c t =>
      by_cases hb : IsBr c
      · cases t with
        | nil => rw [sv, if_pos hb]; simp
        | cons d t =>
          by_cases hd : d = c
          · subst hd
            rw [sv_twice d t hb]
            have := ih t (by simp at hl; omega)
            simp
            omega
          · rw [sv, if_pos hb, if_neg hd]
            simp
      · rw [sv_plain c t hb]
        have := ih t (by simp at hl; omega)
        simp
        omega

theorem ib_lt (l : List UInt8) (c : UInt8) (h : 0 ≤ Lib.indexByte l c) : (Lib.indexByte l c).toNat < l.length := by
  induction l with
  | nil => simp [Lib.indexByte] at h
  | cons b t ih =>
    have hge := Lib.indexByte_ge t c
    unfold Lib.indexByte at h ⊢
    by_cases e : (b == c) = true
    · rw [if_pos e]; simp
    · rw [if_neg e] at h ⊢
      by_cases e2 : (Lib.indexByte t c == -1) = true
      · rw [if_pos e2] at h; omega
      · rw [if_neg e2] at h ⊢
        have e3 : Lib.indexByte t c ≠ -1 := by simpa using e2
        have := ih (by omega)
        simp
        omega

/-- one element as it is shown, at place p -/
def stp (T : List UInt8) (p : Nat) : (Int × Int) ⊕ (List UInt8 × List UInt8 × Nat) := match T.drop p with
  | [] => .inl (0, 0)
  | c :: t => if c ≠ 40 then .inl (29, (p : Int)) else if Lib.indexByte t 41 < 0 then .inl (3, (T.length : Int)) else
    match kfind (t.take (Lib.indexByte t 41).toNat) with
    | none => .inl (23, ((p + 1 : Nat) : Int))
    | some _ => if (sv (t.drop ((Lib.indexByte t 41).toNat + 1))).2.2 then .inr (t.take (Lib.indexByte t 41).toNat, (sv (t.drop ((Lib.indexByte t 41).toNat + 1))).1, p + (Lib.indexByte t 41).toNat + 2 + (sv (t.drop ((Lib.indexByte t 41).toNat + 1))).2.1)
      else .inl (29, ((p + (Lib.indexByte t 41).toNat + 2 + (sv (t.drop ((Lib.indexByte t 41).toNat + 1))).2.1 : Nat) : Int))
theorem stp_ok {T : List UInt8} {p q : Nat} {a v : List UInt8} (h : stp T p = .inr (a, v, q)) : p < q ∧ q ≤ T.length ∧ v.length ≤ T.length := by
  unfold stp at h
  cases hd : T.drop p with
  | nil => rw [hd] at h; cases h
  | cons c t =>
    rw [hd] at h
    have hl : T.length - p = t.length + 1 := by rw [← List.length_drop, hd]; rfl
    simp only at h
    by_cases h1 : c ≠ 40
    · rw [if_pos h1] at h; cases h
    · rw [if_neg h1] at h
      by_cases h2 : Lib.indexByte t 41 < 0
      · rw [if_pos h2] at h; cases h
      · rw [if_neg h2] at h
        have hm := ib_lt t 41 (by omega)
        generalize (Lib.indexByte t 41).toNat = m at *
        cases hk : kfind (t.take m) with
        | none => rw [hk] at h; cases h
        | some k =>
          rw [hk] at h
          simp only at h
          have hs := sv_len _ (t.drop (m + 1)) (Nat.le_refl _)
          rw [List.length_drop] at hs
          split at h
          · cases h
            omega
          · cases h

/-- so many elements -/
def rn (T : List UInt8) : Nat → Option (Nat × List El)
  | 0 => some (0, [])
  | n + 1 => match rn T n with
    | none => none
    | some (p, L) => if p < T.length then (match stp T p with
      | .inl _ => none
      | .inr (a, v, q) => some (q, L ++ [(⟨a.toArray⟩, ⟨v.toArray⟩)])) else none
theorem rn_next {T : List UInt8} {n p q : Nat} {L : List El} {a v : List UInt8} (h : rn T n = some (p, L)) (hp : p < T.length) (hs : stp T p = .inr (a, v, q)) : rn T (n + 1) = some (q, L ++ [(⟨a.toArray⟩, ⟨v.toArray⟩)]) := by
  rw [rn, h]
  simp only [if_pos hp, hs]
theorem rn_inv {T : List UInt8} : ∀ {n p : Nat} {L : List El}, rn T n = some (p, L) → L.length ≤ p ∧ p ≤ T.length ∧ ∀ x ∈ L, x.2.size ≤ T.length := by
  intro n
  induction n with
  | zero =>
    intro p L h
    rw [rn] at h
    cases h
    simp
  | succ n ih =>
    intro p L h
    rw [rn] at h
    cases hr : rn T n with
    | none => rw [hr] at h; cases h
    | some pl =>
      obtain ⟨p0, L0⟩ := pl
      rw [hr] at h
      simp only at h
      by_cases hp : p0 < T.length
      · rw [if_pos hp] at h
        cases hs : stp T p0 with
        | inl e => rw [hs] at h; cases h
        | inr r =>
          obtain ⟨a, v, q⟩ := r
          rw [hs] at h
          simp only at h
          cases h
          obtain ⟨h1, h2, h3⟩ := ih hr
          obtain ⟨k1, k2, k3⟩ := stp_ok hs
          refine ⟨by rw [List.length_append]; simp; omega, k2, fun x hx => ?_⟩
          rcases List.mem_append.1 hx with hx | hx
          · exact h3 x hx
          · simp at hx
            subst hx
            simp [ByteArray.size]
            exact k3
      · rw [if_neg hp] at h; cases h
theorem rn_end {T : List UInt8} {n p : Nat} {L : List El} (h : rn T n = some (p, L)) (ht : T.length ≤ p ∨ ∃ e, stp T p = .inl e) : ∀ m, n < m → rn T m = none := by
  intro m
  induction m with
  | zero => omega
  | succ m ih =>
    intro hm
    by_cases e : m = n
    · subst e
      rw [rn, h]
      simp only
      by_cases hp : p < T.length
      · rw [if_pos hp]
        rcases ht with ht | ⟨e, he⟩
        · omega
        · rw [he]
      · rw [if_neg hp]
    · rw [rn, ih (by omega)]

/-- what ParseShown answers -/
def ShA (T : List UInt8) (M : List El) (e n : Int) : Prop :=
  (2048 < T.length ∧ M = [] ∧ e = 1 ∧ n = 0) ∨
  (T.length ≤ 2048 ∧ ∃ k p L, rn T k = some (p, L) ∧ ((p < T.length ∧ stp T p = .inl (e, n) ∧ M = []) ∨
    (T.length ≤ p ∧ ∃ t, PrA L t e n ∧ ((e ≠ 0 ∧ M = []) ∨ (e = 0 ∧ M = L)))))
theorem ShA.same {T : List UInt8} {M M' : List El} {e e' n n' : Int} (h : ShA T M e n) (h' : ShA T M' e' n') : M' = M ∧ e' = e ∧ n' = n := by
  rcases h with ⟨h0, rfl, rfl, rfl⟩ | ⟨h0, k, p, L, hr, h⟩
  · rcases h' with ⟨_, rfl, rfl, rfl⟩ | ⟨h0', _⟩
    · exact ⟨rfl, rfl, rfl⟩
    · omega
  · rcases h' with ⟨h0', _⟩ | ⟨_, k', p', L', hr', h'⟩
    · omega
    · have t1 : T.length ≤ p ∨ ∃ e, stp T p = .inl e := by
        rcases h with ⟨_, h, _⟩ | ⟨h, _⟩
        · exact .inr ⟨_, h⟩
        · exact .inl h
      have t2 : T.length ≤ p' ∨ ∃ e, stp T p' = .inl e := by
        rcases h' with ⟨_, h, _⟩ | ⟨h, _⟩
        · exact .inr ⟨_, h⟩
        · exact .inl h
      have hk : k = k' := by
        rcases Nat.lt_trichotomy k k' with hlt | he | hlt
        · have := rn_end hr t1 k' hlt
          rw [hr'] at this; cases this
        · exact he
        · have := rn_end hr' t2 k hlt
          rw [hr] at this; cases this
      subst hk
      rw [hr] at hr'
      cases hr'
      rcases h with ⟨h1, h2, rfl⟩ | ⟨h1, t, h2, h3⟩ <;> rcases h' with ⟨h1', h2', rfl⟩ | ⟨h1', t', h2', h3'⟩
      · rw [h2] at h2'
        cases h2'
        exact ⟨rfl, rfl, rfl⟩
      · omega
      · omega
      · obtain ⟨_, rfl, rfl⟩ := h2.same h2'
        refine ⟨?_, rfl, rfl⟩
        rcases h3 with ⟨a, rfl⟩ | ⟨a, rfl⟩ <;> rcases h3' with ⟨a', rfl⟩ | ⟨a', rfl⟩
        · rfl
        · exact absurd a' a
        · exact absurd a a'
        · rfl
end Go.Proofs.YtpplkoilpblpkaaDoor
