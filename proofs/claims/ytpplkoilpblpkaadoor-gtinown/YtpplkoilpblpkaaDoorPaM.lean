/-
  What Parse answers of a text.
-/
import Derived.Test.YtpplkoilpblpkaaDoorAhead
import Derived.Test.YtpplkoilpblpkaaDoorPlainEnd
import Derived.Test.YtpplkoilpblpkaaDoorShn
namespace Go.Proofs.YtpplkoilpblpkaaDoor
open Go.RowKit
set_option maxRecDepth 100000

/-- the end of a Value that is ended: a fault and how far behind the Value's begin, or its length -/
def ve (lo hi : Nat) (P : UInt8 → Int) : List UInt8 → Nat → (Int × Nat) ⊕ Nat
  | [], n => if n < lo then .inl (3, n) else .inr n
  | c :: t, n => if c = 29 then (if n < lo then .inl (3, n) else .inr n) else if n = hi then .inl (26, n) else if P c ≠ 0 then .inl (P c, n) else ve lo hi P t (n + 1)
/-- the end of a Value of known length -/
def vp : Nat → List UInt8 → Nat → (Int × Nat) ⊕ Nat
  | 0, _, n => .inr n
  | _ + 1, [], n => .inl (3, n)
  | r + 1, c :: t, n => if isDB c then vp r t (n + 1) else .inl (20, n)
theorem ve_end (lo hi : Nat) (P : UInt8 → Int) (l : List UInt8) (n : Nat) (h : l.head? = none ∨ l.head? = some 29) : ve lo hi P l n = if n < lo then .inl (3, n) else .inr n := by
  cases l with
  | nil => rfl
  | cons c t =>
    have : c = 29 := by simpa using h
    subst this
    rw [ve, if_pos rfl]
theorem ve_cons (lo hi : Nat) (P : UInt8 → Int) (c : UInt8) (t : List UInt8) (n : Nat) (h : c ≠ 29) : ve lo hi P (c :: t) n = if n = hi then .inl (26, n) else if P c ≠ 0 then .inl (P c, n) else ve lo hi P t (n + 1) := by
  rw [ve, if_neg h]
theorem ve_ok {lo hi : Nat} {P : UInt8 → Int} : ∀ {l : List UInt8} {n m : Nat}, ve lo hi P l n = .inr m → n ≤ m ∧ m ≤ n + l.length ∧ lo ≤ m ∧ (n ≤ hi → m ≤ hi) := by
  intro l
  induction l with
  | nil =>
    intro n m h
    rw [ve] at h
    split at h
    · cases h
    · cases h; simp; omega
  | cons c t ih =>
    intro n m h
    by_cases hc : c = 29
    · subst hc
      rw [ve, if_pos rfl] at h
      split at h
      · cases h
      · cases h; simp; omega
    · rw [ve_cons _ _ _ _ _ _ hc] at h
      split at h
      · cases h
      · split at h
        · cases h
        · have := ih h
          simp
          omega
theorem vp_ok : ∀ {r : Nat} {l : List UInt8} {n m : Nat}, vp r l n = .inr m → m = n + r ∧ r ≤ l.length := by
  intro r
  induction r with
  | zero => intro l n m h; cases h; simp
  | succ r ih =>
    intro l n m h
    cases l with
    | nil => cases h
    | cons c t =>
      rw [vp] at h
      split at h
      · have := ih h
        simp
        omega
      · cases h
/-- how long a Value of kind k is -/
def loK (k : Int) : Nat := if k = 0 then 18 else if k = 1 then 14 else if k = 2 then 13 else if k = 3 then 6 else if k = 4 then 2 else if k = 6 then 6 else if k = 8 then 6 else 1
def hiK (k : Int) : Nat := if k = 0 then 18 else if k = 1 then 14 else if k = 2 then 13 else if k = 3 then 6 else if k = 4 then 2 else if k = 5 then 8 else if k = 6 then 6 else if k = 7 then 15 else if k = 8 then 6 else if k = 9 then 20 else if k = 10 then 25 else if k = 11 then 30 else 90
def byK (k : Int) : UInt8 → Int := if k ≤ 8 then dF else chF
def whK (k : Int) (l : List UInt8) : Int × Int := if k ≤ 2 then cF l else if k = 3 then (if DayOk (yy l) (mm l) (dd l) then 0 else 28, 0) else (0, 0)
/-- a Value's end -/
def vend (k : Int) (l : List UInt8) : (Int × Nat) ⊕ Nat := if plK k then vp (hiK k) l 0 else ve (loK k) (hiK k) (byK k) l 0
theorem vend_ok {k : Int} {l : List UInt8} {m : Nat} (h : vend k l = .inr m) : m ≤ l.length ∧ m ≤ hiK k ∧ (k = 3 → m = 6) := by
  unfold vend at h
  split at h
  · have := vp_ok h
    refine ⟨by omega, by omega, fun e => ?_⟩
    subst e
    have h3 : hiK 3 = 6 := rfl
    omega
  · rename_i hp
    have := ve_ok h
    refine ⟨by omega, by omega, fun e => ?_⟩
    subst e
    exact absurd rfl hp
theorem hiK_le (k : Int) : hiK k ≤ 90 := by unfold hiK; repeat' split <;> try omega

/-- one element of a scanned string, at place p behind the elements L -/
def psp (T : List UInt8) (L : List El) (p : Nat) : (Int × Int) ⊕ (List UInt8 × List UInt8 × Nat) := match ahK (T.drop p) with
  | none => .inl (ahE (T.drop p) 39, if ahE (T.drop p) 39 = 3 then (T.length : Int) else (p : Int))
  | some (a, k) => if clE L a ≠ 0 then .inl (clE L a, (p : Int)) else
    match vend k (T.drop (p + a.length)) with
    | .inl (e, n) => .inl (e, ((p + a.length + n : Nat) : Int))
    | .inr n => if (whK k ((T.drop (p + a.length)).take n)).1 ≠ 0 then .inl ((whK k ((T.drop (p + a.length)).take n)).1, ((p + a.length : Nat) : Int) + (whK k ((T.drop (p + a.length)).take n)).2) else
      if plK k = true ∨ p + a.length + n = T.length then .inr (a, (T.drop (p + a.length)).take n, p + a.length + n) else
      if p + a.length + n + 1 = T.length then .inl (4, ((p + a.length + n : Nat) : Int)) else .inr (a, (T.drop (p + a.length)).take n, p + a.length + n + 1)
theorem psp_none {T : List UInt8} {L : List El} {p : Nat} (h : ahK (T.drop p) = none) : psp T L p = .inl (ahE (T.drop p) 39, if ahE (T.drop p) 39 = 3 then (T.length : Int) else (p : Int)) := by
  unfold psp
  rw [h]
theorem psp_clash {T : List UInt8} {L : List El} {p : Nat} {a : List UInt8} {k : Int} (h : ahK (T.drop p) = some (a, k)) (hc : clE L a ≠ 0) : psp T L p = .inl (clE L a, (p : Int)) := by
  unfold psp
  rw [h]
  simp only
  rw [if_pos hc]
theorem psp_end {T : List UInt8} {L : List El} {p n : Nat} {a : List UInt8} {k e : Int} (h : ahK (T.drop p) = some (a, k)) (hc : clE L a = 0) (hv : vend k (T.drop (p + a.length)) = .inl (e, n)) : psp T L p = .inl (e, ((p + a.length + n : Nat) : Int)) := by
  unfold psp
  rw [h]
  simp only
  rw [if_neg (by simpa using hc), hv]
theorem psp_whole {T : List UInt8} {L : List El} {p n : Nat} {a : List UInt8} {k : Int} (h : ahK (T.drop p) = some (a, k)) (hc : clE L a = 0) (hv : vend k (T.drop (p + a.length)) = .inr n) (hw : (whK k ((T.drop (p + a.length)).take n)).1 ≠ 0) :
    psp T L p = .inl ((whK k ((T.drop (p + a.length)).take n)).1, ((p + a.length : Nat) : Int) + (whK k ((T.drop (p + a.length)).take n)).2) := by
  unfold psp
  rw [h]
  simp only
  rw [if_neg (by simpa using hc), hv]
  simp only
  rw [if_pos hw]
theorem psp_go {T : List UInt8} {L : List El} {p n : Nat} {a : List UInt8} {k : Int} (h : ahK (T.drop p) = some (a, k)) (hc : clE L a = 0) (hv : vend k (T.drop (p + a.length)) = .inr n) (hw : (whK k ((T.drop (p + a.length)).take n)).1 = 0) :
    psp T L p = if plK k = true ∨ p + a.length + n = T.length then .inr (a, (T.drop (p + a.length)).take n, p + a.length + n) else
      if p + a.length + n + 1 = T.length then .inl (4, ((p + a.length + n : Nat) : Int)) else .inr (a, (T.drop (p + a.length)).take n, p + a.length + n + 1) := by
  unfold psp
  rw [h]
  simp only
  rw [if_neg (by simpa using hc), hv]
  simp only
  rw [if_neg (by simpa using hw)]
theorem ahK_mem {l a : List UInt8} {k : Int} (h : ahK l = some (a, k)) : (a, k) ∈ knl ∧ a.isPrefixOf l = true := ⟨List.mem_of_find?_eq_some h, by have := List.find?_some h; exact this⟩
theorem knl_len : ∀ x ∈ knl, 2 ≤ x.1.length ∧ x.1.length ≤ 4 ∧ 0 ≤ x.2 ∧ x.2 ≤ 12 := by decide
theorem ahK_len {T a : List UInt8} {p : Nat} {k : Int} (h : ahK (T.drop p) = some (a, k)) : 2 ≤ a.length ∧ a.length ≤ 4 ∧ 0 ≤ k ∧ k ≤ 12 ∧ (p ≤ T.length → p + a.length ≤ T.length) := by
  obtain ⟨h1, h2⟩ := ahK_mem h
  obtain ⟨g1, g2, g3, g4⟩ := knl_len _ h1
  have := (List.isPrefixOf_iff_prefix.1 h2).length_le
  rw [List.length_drop] at this
  exact ⟨g1, g2, g3, g4, fun hp => by omega⟩
theorem psp_ok {T : List UInt8} {L : List El} {p q : Nat} {a v : List UInt8} (hp : p ≤ T.length) (h : psp T L p = .inr (a, v, q)) : p < q ∧ q ≤ T.length ∧ v.length ≤ 90 ∧ clE L a = 0 ∧ (∃ k, (a, k) ∈ knl) := by
  cases hk : ahK (T.drop p) with
  | none => rw [psp_none hk] at h; cases h
  | some x =>
    obtain ⟨b, k⟩ := x
    obtain ⟨g1, g2, g3, g4, g5⟩ := ahK_len hk
    have g5 := g5 hp
    by_cases hc : clE L b = 0
    · cases hv : vend k (T.drop (p + b.length)) with
      | inl e =>
        obtain ⟨e, n⟩ := e
        rw [psp_end hk hc hv] at h; cases h
      | inr n =>
        obtain ⟨v1, v2, _⟩ := vend_ok hv
        have := hiK_le k
        rw [List.length_drop] at v1
        by_cases hw : (whK k ((T.drop (p + b.length)).take n)).1 = 0
        · rw [psp_go hk hc hv hw] at h
          split at h
          · cases h
            refine ⟨by omega, by omega, by rw [List.length_take]; omega, hc, k, (ahK_mem hk).1⟩
          · split at h
            · cases h
            · rename_i n1 n2
              have : p + b.length + n ≠ T.length := fun e => n1 (.inr e)
              cases h
              refine ⟨by omega, by omega, by rw [List.length_take]; omega, hc, k, (ahK_mem hk).1⟩
        · rw [psp_whole hk hc hv hw] at h; cases h
    · rw [psp_clash hk hc] at h; cases h

/-- so many elements, and where they begin -/
def rp (T : List UInt8) : Nat → Option (Nat × List El × List Nat)
  | 0 => some (0, [], [])
  | n + 1 => match rp T n with
    | none => none
    | some (p, L, G) => if p < T.length then (match psp T L p with
      | .inl _ => none
      | .inr (a, v, q) => some (q, L ++ [(⟨a.toArray⟩, ⟨v.toArray⟩)], G ++ [p])) else none
theorem rp_step {T : List UInt8} {n p q : Nat} {L : List El} {G : List Nat} {a x : ByteArray} (h : rp T n = some (p, L, G)) (hp : p < T.length) (hs : psp T L p = .inr (a.data.toList, x.data.toList, q)) : rp T (n + 1) = some (q, L ++ [(a, x)], G ++ [p]) := by
  rw [rp, h]
  simp only [if_pos hp, hs]
theorem rp_inv {T : List UInt8} : ∀ {n p : Nat} {L : List El} {G : List Nat}, rp T n = some (p, L, G) → L.length ≤ p ∧ p ≤ T.length ∧ G.length = L.length ∧ (∀ x ∈ G, x ≤ T.length) ∧ ∀ x ∈ L, x.2.size ≤ 90 := by
  intro n
  induction n with
  | zero =>
    intro p L G h
    rw [rp] at h
    cases h
    simp
  | succ n ih =>
    intro p L G h
    rw [rp] at h
    cases hr : rp T n with
    | none => rw [hr] at h; cases h
    | some pl =>
      obtain ⟨p0, L0, G0⟩ := pl
      rw [hr] at h
      simp only at h
      by_cases hp : p0 < T.length
      · rw [if_pos hp] at h
        cases hs : psp T L0 p0 with
        | inl e => rw [hs] at h; cases h
        | inr r =>
          obtain ⟨a, v, q⟩ := r
          rw [hs] at h
          simp only at h
          cases h
          obtain ⟨h1, h2, h3, h4, h5⟩ := ih hr
          obtain ⟨k1, k2, k3, _⟩ := psp_ok (by omega) hs
          refine ⟨by rw [List.length_append]; simp; omega, k2, by simp [h3], fun x hx => ?_, fun x hx => ?_⟩
          · rcases List.mem_append.1 hx with hx | hx
            · exact h4 x hx
            · simp at hx; omega
          · rcases List.mem_append.1 hx with hx | hx
            · exact h5 x hx
            · simp at hx
              subst hx
              simp [ByteArray.size]
              exact k3
      · rw [if_neg hp] at h; cases h
theorem rp_end {T : List UInt8} {n p : Nat} {L : List El} {G : List Nat} (h : rp T n = some (p, L, G)) (ht : T.length ≤ p ∨ ∃ e, psp T L p = .inl e) : ∀ m, n < m → rp T m = none := by
  intro m
  induction m with
  | zero => omega
  | succ m ih =>
    intro hm
    by_cases e : m = n
    · subst e
      rw [rp, h]
      simp only
      by_cases hp : p < T.length
      · rw [if_pos hp]
        rcases ht with ht | ⟨e, he⟩
        · omega
        · rw [he]
      · rw [if_neg hp]
    · rw [rp, ih (by omega)]

/-- what Parse answers -/
def PaA (T : List UInt8) (M : List El) (e n : Int) : Prop :=
  (512 < T.length ∧ M = [] ∧ e = 1 ∧ n = 0) ∨
  (T.length ≤ 512 ∧ ∃ k p L G, rp T k = some (p, L, G) ∧ ((p < T.length ∧ psp T L p = .inl (e, n) ∧ M = []) ∨
    (T.length ≤ p ∧ ((∃ i : Nat, loI L = (i : Int) ∧ M = [] ∧ e = 25 ∧ ∃ g, G[i]? = some g ∧ n = (g : Int)) ∨ (loI L < 0 ∧ M = L ∧ e = 0 ∧ n = 0)))))
theorem PaA.same {T : List UInt8} {M M' : List El} {e e' n n' : Int} (h : PaA T M e n) (h' : PaA T M' e' n') : M' = M ∧ e' = e ∧ n' = n := by
  rcases h with ⟨h0, rfl, rfl, rfl⟩ | ⟨h0, k, p, L, G, hr, h⟩
  · rcases h' with ⟨_, rfl, rfl, rfl⟩ | ⟨h0', _⟩
    · exact ⟨rfl, rfl, rfl⟩
    · omega
  · rcases h' with ⟨h0', _⟩ | ⟨_, k', p', L', G', hr', h'⟩
    · omega
    · have t1 : T.length ≤ p ∨ ∃ e, psp T L p = .inl e := by
        rcases h with ⟨_, h, _⟩ | ⟨h, _⟩
        · exact .inr ⟨_, h⟩
        · exact .inl h
      have t2 : T.length ≤ p' ∨ ∃ e, psp T L' p' = .inl e := by
        rcases h' with ⟨_, h, _⟩ | ⟨h, _⟩
        · exact .inr ⟨_, h⟩
        · exact .inl h
      have hk : k = k' := by
        rcases Nat.lt_trichotomy k k' with hlt | he | hlt
        · have := rp_end hr t1 k' hlt
          rw [hr'] at this; cases this
        · exact he
        · have := rp_end hr' t2 k hlt
          rw [hr] at this; cases this
      subst hk
      rw [hr] at hr'
      cases hr'
      rcases h with ⟨h1, h2, rfl⟩ | ⟨h1, h⟩ <;> rcases h' with ⟨h1', h2', rfl⟩ | ⟨h1', h'⟩
      · rw [h2] at h2'
        cases h2'
        exact ⟨rfl, rfl, rfl⟩
      · omega
      · omega
      · rcases h with ⟨i, hi, rfl, rfl, g, hg, rfl⟩ | ⟨hi, rfl, rfl, rfl⟩ <;> rcases h' with ⟨i', hi', rfl, rfl, g', hg', rfl⟩ | ⟨hi', rfl, rfl, rfl⟩
        · have e : i = i' := by omega
          subst e
          rw [hg] at hg'
          cases hg'
          exact ⟨rfl, rfl, rfl⟩
        · omega
        · omega
        · exact ⟨rfl, rfl, rfl⟩
end Go.Proofs.YtpplkoilpblpkaaDoor
