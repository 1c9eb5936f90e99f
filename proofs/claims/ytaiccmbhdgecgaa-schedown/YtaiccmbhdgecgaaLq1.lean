/-
  SchedLeast: what a least list is, without any program: values that may be swapped with a neighbour, the lowest that can come first, again and again.
-/
import Derived.Test.YtaiccmbhdgecgaaLe5
namespace Go.Proofs.Ytaiccmbhdgecgaa
open Go.RowKit
set_option maxRecDepth 100000

/-- are two handlers apart by these pairs? -/
def arP (P : List Pr) (a b : Int) : Bool := !decide (a = b) && P.any fun p => (decide (p.1 = a) && decide (p.2 = b)) || (decide (p.1 = b) && decide (p.2 = a))
theorem arP_irr (P : List Pr) (a : Int) : arP P a a = false := by simp [arP]
theorem arP_sym (P : List Pr) (a b : Int) : arP P a b = arP P b a := by
  unfold arP
  have e1 : decide (a = b) = decide (b = a) := by simp [eq_comm]
  rw [e1]
  congr 1
  congr 1
  funext p
  rw [Bool.or_comm]
/-- x can come first -/
def Fre (ap : Int → Int → Bool) (R : List Int) (x : Int) : Prop := ∃ A C, R = A ++ x :: C ∧ x ∉ A ∧ ∀ y ∈ A, ap y x = true
/-- x is the lowest that can -/
def Stp (ap : Int → Int → Bool) (R : List Int) (x : Int) : Prop := Fre ap R x ∧ ∀ y, Fre ap R y → x ≤ y
/-- the least list -/
def Lst (ap : Int → Int → Bool) : List Int → List Int → Prop
  | R, [] => R = []
  | R, x :: L => Stp ap R x ∧ Lst ap (R.erase x) L
theorem Lst.nil {ap : Int → Int → Bool} : Lst ap [] [] := rfl
theorem Lst.cons {ap : Int → Int → Bool} {R L : List Int} {x : Int} (h1 : Stp ap R x) (h2 : Lst ap (R.erase x) L) : Lst ap R (x :: L) := ⟨h1, h2⟩
theorem Lst.on {ap : Int → Int → Bool} {motive : ∀ R L, Lst ap R L → Prop} (nil : motive [] [] Lst.nil) (cons : ∀ (R L : List Int) (x : Int) (h1 : Stp ap R x) (h2 : Lst ap (R.erase x) L), motive (R.erase x) L h2 → motive R (x :: L) (Lst.cons h1 h2)) (R L : List Int) (h : Lst ap R L) : motive R L h := by
  induction L generalizing R with
  | nil =>
    have e : R = [] := h
    subst e
    exact nil
  | cons x L ih => exact cons R L x h.1 h.2 (ih (R.erase x) h.2)
/-- two neighbours that are apart have changed places -/
def Swp (ap : Int → Int → Bool) (R S : List Int) : Prop := ∃ A C p q, R = A ++ p :: q :: C ∧ S = A ++ q :: p :: C ∧ p ≠ q ∧ ap p q = true ∧ ap q p = true
theorem Swp.symm {ap : Int → Int → Bool} {R S : List Int} (h : Swp ap R S) : Swp ap S R := by
  obtain ⟨A, C, p, q, rfl, rfl, hn, h1, h2⟩ := h
  exact ⟨A, C, q, p, rfl, rfl, hn.symm, h2, h1⟩
theorem Swp.cons {ap : Int → Int → Bool} {R S : List Int} (h : Swp ap R S) (x : Int) : Swp ap (x :: R) (x :: S) := by
  obtain ⟨A, C, p, q, rfl, rfl, hn, h1, h2⟩ := h
  exact ⟨x :: A, C, p, q, rfl, rfl, hn, h1, h2⟩
theorem split_uniq {x : Int} {A B C D : List Int} (h : A ++ x :: C = B ++ x :: D) (ha : x ∉ A) (hb : x ∉ B) : A = B ∧ C = D := by
  induction A generalizing B with
  | nil =>
    cases B with
    | nil => simp at h; exact ⟨rfl, h⟩
    | cons y t =>
      simp at h hb
      exact (hb.1 h.1).elim
  | cons y t ih =>
    cases B with
    | nil =>
      simp at h ha
      exact (ha.1 h.1.symm).elim
    | cons z s =>
      simp at h ha hb
      obtain ⟨rfl, h2⟩ := h
      obtain ⟨rfl, rfl⟩ := ih h2 ha.2 hb.2
      exact ⟨rfl, rfl⟩
theorem split_in {x : Int} {R : List Int} (h : x ∈ R) : ∃ A C, R = A ++ x :: C ∧ x ∉ A := by
  induction R with
  | nil => simp at h
  | cons y t ih =>
    by_cases c : x = y
    · subst c; exact ⟨[], t, rfl, by simp⟩
    · obtain ⟨A, C, rfl, hn⟩ := ih (by simpa [c] using h)
      exact ⟨y :: A, C, rfl, by simp [c, hn]⟩
theorem Fre.swp {ap : Int → Int → Bool} {R S : List Int} (h : Swp ap R S) {x : Int} (hx : Fre ap R x) : Fre ap S x := by
  obtain ⟨A, C, p, q, rfl, rfl, hn, h1, h2⟩ := h
  obtain ⟨D, E, he, hd, hall⟩ := hx
  by_cases ca : x ∈ A
  · obtain ⟨A1, A2, rfl, ha1⟩ := split_in ca
    have : D = A1 ∧ E = A2 ++ p :: q :: C := split_uniq (by rw [← he]; simp) hd ha1
    obtain ⟨rfl, rfl⟩ := this
    exact ⟨D, A2 ++ q :: p :: C, by simp, hd, hall⟩
  by_cases cp : x = p
  · subst cp
    obtain ⟨rfl, rfl⟩ := split_uniq he ca hd
    refine ⟨A ++ [q], C, by simp, by simp [ca, hn], fun y hy => ?_⟩
    rcases List.mem_append.1 hy with hy | hy
    · exact hall y hy
    · simp at hy; subst hy; exact h2
  by_cases cq : x = q
  · subst cq
    have : A ++ [p] = D ∧ C = E := split_uniq (by rw [← he]; simp) (by simp [ca, cp]) hd
    obtain ⟨rfl, rfl⟩ := this
    exact ⟨A, p :: C, rfl, ca, fun y hy => hall y (List.mem_append_left _ hy)⟩
  have hm : x ∈ C := by
    have : x ∈ A ++ p :: q :: C := by rw [he]; simp
    simpa [ca, cp, cq] using this
  obtain ⟨C1, C2, rfl, hc1⟩ := split_in hm
  have : A ++ p :: q :: C1 = D ∧ C2 = E := split_uniq (by rw [← he]; simp) (by simp [ca, cp, cq, hc1]) hd
  obtain ⟨rfl, rfl⟩ := this
  refine ⟨A ++ q :: p :: C1, C2, by simp, by simp [ca, cp, cq, hc1], fun y hy => hall y ?_⟩
  simp at hy ⊢
  rcases hy with hy | hy | hy | hy
  · exact .inl hy
  · exact .inr (.inr (.inl hy))
  · exact .inr (.inl hy)
  · exact .inr (.inr (.inr hy))
theorem Stp.swp {ap : Int → Int → Bool} {R S : List Int} (h : Swp ap R S) {x : Int} (hx : Stp ap R x) : Stp ap S x :=
  ⟨hx.1.swp h, fun y hy => hx.2 y (hy.swp h.symm)⟩
theorem erase_split {x : Int} {A C : List Int} (h : x ∉ A) : (A ++ x :: C).erase x = A ++ C := by
  rw [List.erase_append_right _ h, List.erase_cons_head]
theorem Swp.erase {ap : Int → Int → Bool} {R S : List Int} (h : Swp ap R S) (x : Int) : R.erase x = S.erase x ∨ Swp ap (R.erase x) (S.erase x) := by
  obtain ⟨A, C, p, q, rfl, rfl, hn, h1, h2⟩ := h
  by_cases ca : x ∈ A
  · rw [List.erase_append_left _ ca, List.erase_append_left _ ca]
    exact .inr ⟨_, C, p, q, rfl, rfl, hn, h1, h2⟩
  rw [List.erase_append_right _ ca, List.erase_append_right _ ca]
  by_cases cp : p = x
  · subst cp
    left
    rw [List.erase_cons_head, List.erase_cons_tail (by simpa using hn.symm), List.erase_cons_head]
  by_cases cq : q = x
  · subst cq
    left
    rw [List.erase_cons_head, List.erase_cons_tail (by simpa using cp), List.erase_cons_head]
  right
  rw [List.erase_cons_tail (by simpa using cp), List.erase_cons_tail (by simpa using cq), List.erase_cons_tail (by simpa using cq), List.erase_cons_tail (by simpa using cp)]
  exact ⟨A, C.erase x, p, q, rfl, rfl, hn, h1, h2⟩
theorem Lst.swp {ap : Int → Int → Bool} {R S L : List Int} (h : Lst ap R L) (hs : Swp ap R S) : Lst ap S L := by
  induction R, L, h using Lst.on generalizing S with
  | nil =>
    obtain ⟨A, C, p, q, h, _⟩ := hs
    simp at h
  | cons R' L' x h1 h2 ih =>
    refine .cons (h1.swp hs) ?_
    rcases hs.erase x with e | e
    · rw [← e]; exact h2
    · exact ih e
theorem Lst.det {ap : Int → Int → Bool} {R L M : List Int} (h : Lst ap R L) (k : Lst ap R M) : L = M := by
  induction R, L, h using Lst.on generalizing M with
  | nil =>
    cases M with
    | nil => rfl
    | cons y M =>
      obtain ⟨⟨A, C, h, _⟩, _⟩ := k.1
      simp at h
  | cons R' L' x h1 h2 ih =>
    cases M with
    | nil =>
      have e : R' = [] := k
      obtain ⟨⟨A, C, h, _⟩, _⟩ := h1
      rw [e] at h
      simp at h
    | cons y M =>
      have e := Int.le_antisymm (h1.2 _ k.1.1) (k.1.2 _ h1.1)
      subst e
      rw [ih k.2]
/-- many swaps -/
def SwN (ap : Int → Int → Bool) : Nat → List Int → List Int → Prop
  | 0, R, T => R = T
  | n + 1, R, T => ∃ S, Swp ap R S ∧ SwN ap n S T
def Swps (ap : Int → Int → Bool) (R T : List Int) : Prop := ∃ n, SwN ap n R T
theorem Swps.refl {ap : Int → Int → Bool} (R : List Int) : Swps ap R R := ⟨0, rfl⟩
theorem Swps.step {ap : Int → Int → Bool} {R S T : List Int} (h1 : Swp ap R S) (h2 : Swps ap S T) : Swps ap R T := by
  obtain ⟨n, h⟩ := h2
  exact ⟨n + 1, S, h1, h⟩
theorem Swps.on {ap : Int → Int → Bool} {motive : ∀ R T, Swps ap R T → Prop} (refl : ∀ R, motive R R (Swps.refl R)) (step : ∀ (R S T : List Int) (h1 : Swp ap R S) (h2 : Swps ap S T), motive S T h2 → motive R T (Swps.step h1 h2)) (R T : List Int) (h : Swps ap R T) : motive R T h := by
  obtain ⟨n, hn⟩ := h
  induction n generalizing R with
  | zero =>
    have e : R = T := hn
    subst e
    exact refl R
  | succ n ih =>
    obtain ⟨S, h1, h2⟩ := hn
    exact step R S T h1 ⟨n, h2⟩ (ih S h2)
theorem Swps.trans {ap : Int → Int → Bool} {R S T : List Int} (h : Swps ap R S) (k : Swps ap S T) : Swps ap R T := by
  induction R, S, h using Swps.on with
  | refl => exact k
  | step R' S' T' h1 _ ih => exact .step h1 (ih k)
theorem Swps.cons {ap : Int → Int → Bool} {R S : List Int} (h : Swps ap R S) (x : Int) : Swps ap (x :: R) (x :: S) := by
  induction R, S, h using Swps.on with
  | refl => exact .refl _
  | step R' S' T' h1 _ ih => exact .step (h1.cons x) ih
theorem Lst.swps {ap : Int → Int → Bool} {R S L : List Int} (h : Lst ap R L) (hs : Swps ap R S) : Lst ap S L := by
  induction R, S, hs using Swps.on with
  | refl => exact h
  | step R' S' T' h1 _ ih => exact ih (h.swp h1)
theorem front {ap : Int → Int → Bool} (hsym : ∀ a b, ap a b = ap b a) {x : Int} {A C : List Int} (hn : x ∉ A) (h : ∀ y ∈ A, ap y x = true) : Swps ap (A ++ x :: C) (x :: (A ++ C)) := by
  induction A with
  | nil => exact .refl _
  | cons y t ih =>
    simp at hn h
    have h1 := (ih hn.2 h.2).cons y
    refine h1.trans (.step ⟨[], t ++ C, y, x, rfl, rfl, fun e => hn.1 e.symm, h.1, by rw [hsym]; exact h.1⟩ (.refl _))
theorem Lst.reach {ap : Int → Int → Bool} (hsym : ∀ a b, ap a b = ap b a) {R L : List Int} (h : Lst ap R L) : Swps ap R L := by
  induction R, L, h using Lst.on with
  | nil => exact .refl _
  | cons R' L' x h1 _ ih =>
    obtain ⟨⟨A, C, rfl, hn, hall⟩, _⟩ := h1
    rw [erase_split hn] at ih
    exact (front hsym hn hall).trans (ih.cons _)
theorem Lst.again {ap : Int → Int → Bool} (hsym : ∀ a b, ap a b = ap b a) {R L : List Int} (h : Lst ap R L) : Lst ap L L := h.swps (h.reach hsym)
theorem Swps.len {ap : Int → Int → Bool} {R S : List Int} (h : Swps ap R S) : R.length = S.length := by
  induction R, S, h using Swps.on with
  | refl => rfl
  | step R' S' T' h1 _ ih =>
    obtain ⟨A, C, p, q, rfl, rfl, _⟩ := h1
    rw [← ih]; simp
/-- the picks of two handlers alone -/
def onl (L : List Int) (a b : Int) : List Int := L.filter fun x => decide (x = a) || decide (x = b)
theorem Swp.only {ap : Int → Int → Bool} {R S : List Int} (h : Swp ap R S) {a b : Int} (hab : ap a b = false) (hba : ap b a = false) : onl R a b = onl S a b := by
  obtain ⟨A, C, p, q, rfl, rfl, hn, h1, h2⟩ := h
  unfold onl
  rw [List.filter_append, List.filter_append]
  congr 1
  by_cases cp : p = a ∨ p = b
  · by_cases cq : q = a ∨ q = b
    · rcases cp with rfl | rfl <;> rcases cq with rfl | rfl
      · exact (hn rfl).elim
      · rw [h1] at hab; cases hab
      · rw [h2] at hab; cases hab
      · exact (hn rfl).elim
    · simp only [not_or] at cq
      simp [List.filter_cons, cq.1, cq.2]
  · simp only [not_or] at cp
    simp [List.filter_cons, cp.1, cp.2]
theorem Swps.only {ap : Int → Int → Bool} {R S : List Int} (h : Swps ap R S) {a b : Int} (hab : ap a b = false) (hba : ap b a = false) : onl R a b = onl S a b := by
  induction R, S, h using Swps.on with
  | refl => rfl
  | step R' S' T' h1 _ ih => exact (h1.only hab hba).trans ih
/-- does a list come ahead of another? -/
def bl : List Int → List Int → Bool
  | x :: t, y :: s => if x = y then bl t s else decide (x < y)
  | _, _ => false
theorem Lst.not_above {ap : Int → Int → Bool} {R L : List Int} (h : Lst ap R L) : bl R L = false := by
  induction R, L, h using Lst.on with
  | nil => rfl
  | cons R' L' x h1 h2 ih =>
    cases R' with
    | nil => rfl
    | cons r t =>
      have hr : x ≤ r := h1.2 r ⟨[], t, rfl, by simp, by simp⟩
      unfold bl
      by_cases c : r = x
      · subst c
        rw [if_pos rfl]
        rw [List.erase_cons_head] at ih
        exact ih
      · rw [if_neg c]
        exact decide_eq_false (by omega)
theorem Lst.none {R L : List Int} (h : Lst (fun _ _ => false) R L) : L = R := by
  induction R, L, h using Lst.on with
  | nil => rfl
  | cons R' L' x h1 h2 ih =>
    obtain ⟨⟨A, C, rfl, hn, hall⟩, _⟩ := h1
    cases A with
    | nil => rw [List.nil_append, List.erase_cons_head] at ih; rw [ih]; rfl
    | cons y t => have := hall y (by simp); cases this
theorem Lst.congr {ap ap' : Int → Int → Bool} {R L : List Int} (h : Lst ap R L) (he : ∀ a ∈ R, ∀ b ∈ R, ap a b = ap' a b) : Lst ap' R L := by
  induction R, L, h using Lst.on with
  | nil => exact .nil
  | cons R' L' x h1 h2 ih =>
    have to : ∀ y, Fre ap R' y → Fre ap' R' y := fun y ⟨A, C, e, hn, hall⟩ => ⟨A, C, e, hn, fun z hz => by rw [← he z (by rw [e]; simp [hz]) y (by rw [e]; simp)]; exact hall z hz⟩
    have fro : ∀ y, Fre ap' R' y → Fre ap R' y := fun y ⟨A, C, e, hn, hall⟩ => ⟨A, C, e, hn, fun z hz => by rw [he z (by rw [e]; simp [hz]) y (by rw [e]; simp)]; exact hall z hz⟩
    refine .cons ⟨to _ h1.1, fun y hy => h1.2 y (fro y hy)⟩ (ih fun a ha b hb => he a (List.mem_of_mem_erase ha) b (List.mem_of_mem_erase hb))
end Go.Proofs.Ytaiccmbhdgecgaa
