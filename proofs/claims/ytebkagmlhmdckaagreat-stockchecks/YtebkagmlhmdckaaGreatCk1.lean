/-
  Lines with one a code, in order of codes, as a list that is told by another: no Go.
-/
import Derived.Test.YtebkagmlhmdckaaGreatKb1
import Derived.Sort.Walk0
namespace Go.Proofs.YtebkagmlhmdckaaGreat
open Go.RowKit
set_option maxRecDepth 100000

theorem wrap64_l (a b : Int) : wrap64 (wrap64 a + b) = wrap64 (a + b) := by unfold wrap64; omega
theorem wrap64_r (a b : Int) : wrap64 (a + wrap64 b) = wrap64 (a + b) := by unfold wrap64; omega
theorem wrap64_i {a : Int} (h : I64 a) : wrap64 a = a := by unfold I64 at h; unfold wrap64; omega
/-- a line's code as bytes -/
def ky (x : Ln) : List UInt8 := x.1.data.toList
theorem ky_inj {x y : Ln} (h : ky x = ky y) : x.1 = y.1 := WideShapes.bytes_inj h
/-- the sum of a code's Qtys -/
def qs (L : List Ln) (k : List UInt8) : Int := ((L.filter fun x => ky x = k).map (·.2)).sum
theorem qs_app (L M : List Ln) (k : List UInt8) : qs (L ++ M) k = qs L k + qs M k := by
  unfold qs
  rw [List.filter_append, List.map_append, List.sum_append]
theorem qs_one (x : Ln) (k : List UInt8) : qs [x] k = if ky x = k then x.2 else 0 := by
  unfold qs
  by_cases h : ky x = k <;> simp [h]
theorem qs_none {L : List Ln} {k : List UInt8} (h : ∀ y ∈ L, ky y ≠ k) : qs L k = 0 := by
  unfold qs
  rw [List.filter_eq_nil_iff.2 (fun y hy => by simpa using h y hy)]
  rfl
theorem sum_perm {l m : List Int} (h : l.Perm m) : l.sum = m.sum := by
  induction h with
  | nil => rfl
  | cons x _ ih => simp [ih]
  | swap x y l => simp; omega
  | trans _ _ a b => exact a.trans b
theorem qs_perm {L M : List Ln} (h : L.Perm M) (k : List UInt8) : qs L k = qs M k := by
  unfold qs
  exact sum_perm ((h.filter _).map _)
/-- N is L with one line a code, in order -/
structure Nrm (L N : List Ln) : Prop where
  up : N.Pairwise fun x y => ky x < ky y
  is : ∀ x ∈ N, (∃ y ∈ L, ky y = ky x) ∧ x.2 = wrap64 (qs L (ky x))
  all : ∀ y ∈ L, ∃ x ∈ N, ky x = ky y
theorem lt_irr (a : List UInt8) : ¬ a < a := List.lt_irrefl a
theorem lt_tr {a b c : List UInt8} (h : a < b) (k : b < c) : a < c := List.lt_trans h k
theorem lt_or {a b : List UInt8} (h : ¬ a < b) (k : a ≠ b) : b < a := by
  rcases Std.lt_trichotomy a b with h1 | h1 | h1
  · exact absurd h1 h
  · exact absurd h1 k
  · exact h1
theorem up_eq : ∀ {N M : List Ln}, (N.Pairwise fun x y => ky x < ky y) → (M.Pairwise fun x y => ky x < ky y) → (∀ x, x ∈ N ↔ x ∈ M) → N = M
  | [], [], _, _, _ => rfl
  | [], y :: t, _, _, h => absurd ((h y).2 (List.mem_cons_self ..)) (by simp)
  | x :: s, [], _, _, h => absurd ((h x).1 (List.mem_cons_self ..)) (by simp)
  | x :: s, y :: t, h1, h2, h => by
    obtain ⟨a1, b1⟩ := List.pairwise_cons.1 h1
    obtain ⟨a2, b2⟩ := List.pairwise_cons.1 h2
    have e : x = y := by
      rcases List.mem_cons.1 ((h x).1 (List.mem_cons_self ..)) with e | hx
      · exact e
      · rcases List.mem_cons.1 ((h y).2 (List.mem_cons_self ..)) with e | hy
        · exact e.symm
        · exact absurd (lt_tr (a2 x hx) (a1 y hy)) (lt_irr _)
    subst e
    have : s = t := up_eq b1 b2 fun z => by
      constructor
      · intro hz
        rcases List.mem_cons.1 ((h z).1 (List.mem_cons_of_mem _ hz)) with e | hz'
        · subst e; exact absurd (a1 z hz) (lt_irr _)
        · exact hz'
      · intro hz
        rcases List.mem_cons.1 ((h z).2 (List.mem_cons_of_mem _ hz)) with e | hz'
        · subst e; exact absurd (a2 z hz) (lt_irr _)
        · exact hz'
    rw [this]
theorem Nrm.same {L N M : List Ln} (h : Nrm L N) (k : Nrm L M) : N = M := by
  have half : ∀ {N M : List Ln}, Nrm L N → Nrm L M → ∀ x, x ∈ N → x ∈ M := by
    intro N M h k x hx
    obtain ⟨⟨y, hy, e⟩, q⟩ := h.is x hx
    obtain ⟨z, hz, e2⟩ := k.all y hy
    have ez : ky z = ky x := e2.trans e
    have q2 := (k.is z hz).2
    rw [ez, ← q] at q2
    have : z = x := Prod.ext (ky_inj ez) q2
    rw [← this]
    exact hz
  exact up_eq h.up k.up fun x => ⟨half h k x, half k h x⟩
theorem Nrm.nil : Nrm [] [] := ⟨List.Pairwise.nil, fun x hx => by simp at hx, fun x hx => by simp at hx⟩
theorem Nrm.perm {L M N : List Ln} (h : Nrm L N) (p : L.Perm M) : Nrm M N :=
  ⟨h.up, fun x hx => ⟨by obtain ⟨y, hy, e⟩ := (h.is x hx).1; exact ⟨y, p.mem_iff.1 hy, e⟩, by rw [← qs_perm p]; exact (h.is x hx).2⟩, fun y hy => h.all y (p.mem_iff.2 hy)⟩
/-- one more line with the code of the last one -/
theorem Nrm.join {L N : List Ln} {a x : Ln} (h : Nrm L (N ++ [a])) (e : ky a = ky x) : Nrm (L ++ [x]) (N ++ [(a.1, wrap64 (a.2 + x.2))]) := by
  have hu := List.pairwise_append.1 h.up
  have ka : ky (a.1, wrap64 (a.2 + x.2)) = ky a := rfl
  refine ⟨List.pairwise_append.2 ⟨hu.1, List.pairwise_singleton _ _, fun y hy z hz => ?_⟩, fun y hy => ?_, fun y hy => ?_⟩
  · rw [List.mem_singleton] at hz
    subst hz
    rw [ka]
    exact hu.2.2 y hy a (by simp)
  · rcases List.mem_append.1 hy with hy | hy
    · obtain ⟨⟨z, hz, e1⟩, q⟩ := h.is y (List.mem_append_left _ hy)
      refine ⟨⟨z, List.mem_append_left _ hz, e1⟩, ?_⟩
      rw [qs_app, qs_one, if_neg, Int.add_zero]
      · exact q
      · intro e2
        have := hu.2.2 y hy a (by simp)
        rw [← e2, ← e] at this
        exact lt_irr _ this
    · rw [List.mem_singleton] at hy
      subst hy
      rw [ka]
      obtain ⟨⟨z, hz, e1⟩, q⟩ := h.is a (by simp)
      refine ⟨⟨z, List.mem_append_left _ hz, e1⟩, ?_⟩
      rw [qs_app, qs_one, if_pos e.symm]
      show wrap64 (a.2 + x.2) = _
      rw [q, wrap64_l]
  · rcases List.mem_append.1 hy with hy | hy
    · obtain ⟨z, hz, e1⟩ := h.all y hy
      rcases List.mem_append.1 hz with hz | hz
      · exact ⟨z, List.mem_append_left _ hz, e1⟩
      · rw [List.mem_singleton] at hz
        subst hz
        exact ⟨(z.1, wrap64 (z.2 + x.2)), by simp, e1⟩
    · rw [List.mem_singleton] at hy
      subst hy
      exact ⟨(a.1, wrap64 (a.2 + y.2)), by simp, e⟩
/-- one more line with a code above all -/
theorem Nrm.snoc {L N : List Ln} {x : Ln} (h : Nrm L N) (hi : I64 x.2) (e : ∀ y ∈ N, ky y < ky x) : Nrm (L ++ [x]) (N ++ [x]) := by
  refine ⟨List.pairwise_append.2 ⟨h.up, List.pairwise_singleton _ _, fun y hy z hz => ?_⟩, fun y hy => ?_, fun y hy => ?_⟩
  · rw [List.mem_singleton] at hz
    subst hz
    exact e y hy
  · rcases List.mem_append.1 hy with hy | hy
    · obtain ⟨⟨z, hz, e1⟩, q⟩ := h.is y hy
      refine ⟨⟨z, List.mem_append_left _ hz, e1⟩, ?_⟩
      rw [qs_app, qs_one, if_neg, Int.add_zero]
      · exact q
      · intro e2
        have := e y hy
        rw [e2] at this
        exact lt_irr _ this
    · rw [List.mem_singleton] at hy
      subst hy
      refine ⟨⟨y, by simp, rfl⟩, ?_⟩
      rw [qs_app, qs_one, if_pos rfl, qs_none, Int.zero_add, wrap64_i hi]
      intro z hz e2
      obtain ⟨u, hu, e3⟩ := h.all z hz
      have := e u hu
      rw [e3, e2] at this
      exact lt_irr _ this
  · rcases List.mem_append.1 hy with hy | hy
    · obtain ⟨z, hz, e1⟩ := h.all y hy
      exact ⟨z, List.mem_append_left _ hz, e1⟩
    · rw [List.mem_singleton] at hy
      subst hy
      exact ⟨y, by simp, rfl⟩
/-- one line put among lines in order: so far, and whether it is there -/
def ptS (x : Ln) : List Ln × Bool → Ln → List Ln × Bool := fun s a =>
  if ky a = ky x then (s.1 ++ [(x.1, wrap64 (a.2 + x.2))], true)
  else if s.2 = false ∧ ky x < ky a then (s.1 ++ [x, a], true) else (s.1 ++ [a], s.2)
def ptE (x : Ln) (s : List Ln × Bool) : List Ln := if s.2 then s.1 else s.1 ++ [x]
def pt (N : List Ln) (x : Ln) : List Ln := ptE x (N.foldl (ptS x) ([], false))
theorem pt_state (x : Ln) : ∀ (N P : List Ln) (b : Bool), (N.Pairwise fun x y => ky x < ky y) → (b = true → ∀ y ∈ N, ky x < ky y) →
    ptE x (N.foldl (ptS x) (P, b)) = P ++ if b then N else pt N x
  | [], P, b, _, _ => by cases b <;> simp [ptE, pt]
  | a :: t, P, b, hu, hb => by
    obtain ⟨u1, u2⟩ := List.pairwise_cons.1 hu
    cases b with
    | true =>
      have h1 := hb rfl a (List.mem_cons_self ..)
      have e1 : ptS x (P, true) a = (P ++ [a], true) := by
        unfold ptS
        rw [if_neg (fun e => by rw [e] at h1; exact lt_irr _ h1), if_neg (by simp)]
      rw [List.foldl_cons, e1, pt_state x t (P ++ [a]) true u2 (fun _ y hy => hb rfl y (List.mem_cons_of_mem _ hy))]
      simp
    | false =>
      have key : ∀ Q : List Ln, ptE x ((a :: t).foldl (ptS x) (Q, false)) = Q ++ if ky a = ky x then (x.1, wrap64 (a.2 + x.2)) :: t else if ky x < ky a then x :: a :: t else a :: pt t x := by
        intro Q
        rw [List.foldl_cons]
        by_cases c1 : ky a = ky x
        · have e1 : ptS x (Q, false) a = (Q ++ [(x.1, wrap64 (a.2 + x.2))], true) := by unfold ptS; rw [if_pos c1]
          rw [e1, pt_state x t _ true u2 (fun _ y hy => by rw [← c1]; exact u1 y hy), if_pos c1]
          simp
        · by_cases c2 : ky x < ky a
          · have e1 : ptS x (Q, false) a = (Q ++ [x, a], true) := by unfold ptS; rw [if_neg c1, if_pos ⟨rfl, c2⟩]
            rw [e1, pt_state x t _ true u2 (fun _ y hy => lt_tr c2 (u1 y hy)), if_neg c1, if_pos c2]
            simp
          · have e1 : ptS x (Q, false) a = (Q ++ [a], false) := by unfold ptS; rw [if_neg c1, if_neg (fun h => c2 h.2)]
            rw [e1, pt_state x t _ false u2 (fun h => by cases h), if_neg c1, if_neg c2]
            simp
      rw [key P]
      have k2 := key []
      rw [List.nil_append] at k2
      rw [if_neg (show ¬ (false = true) from Bool.false_ne_true)]
      have k3 : pt (a :: t) x = _ := k2
      rw [k3]
theorem pt_cons (a x : Ln) (t : List Ln) (hu : (a :: t).Pairwise fun x y => ky x < ky y) : pt (a :: t) x = if ky a = ky x then (x.1, wrap64 (a.2 + x.2)) :: t else if ky x < ky a then x :: a :: t else a :: pt t x := by
  obtain ⟨u1, u2⟩ := List.pairwise_cons.1 hu
  unfold pt
  rw [List.foldl_cons]
  by_cases c1 : ky a = ky x
  · have e1 : ptS x ([], false) a = ([(x.1, wrap64 (a.2 + x.2))], true) := by unfold ptS; rw [if_pos c1]; rfl
    rw [e1, pt_state x t _ true u2 (fun _ y hy => by rw [← c1]; exact u1 y hy), if_pos c1]
    simp
  · by_cases c2 : ky x < ky a
    · have e1 : ptS x ([], false) a = ([x, a], true) := by unfold ptS; rw [if_neg c1, if_pos ⟨rfl, c2⟩]; rfl
      rw [e1, pt_state x t _ true u2 (fun _ y hy => lt_tr c2 (u1 y hy)), if_neg c1, if_pos c2]
      simp
    · have e1 : ptS x ([], false) a = ([a], false) := by unfold ptS; rw [if_neg c1, if_neg (fun h => c2 h.2)]; rfl
      rw [e1, pt_state x t _ false u2 (fun h => by cases h), if_neg c1, if_neg c2]
      simp [pt]
end Go.Proofs.YtebkagmlhmdckaaGreat
