/-
  Lines put one by one are the lines in order, one a code: no Go.
-/
import Derived.Test.YtebkagmlhmdckaaGreatCk1
namespace Go.Proofs.YtebkagmlhmdckaaGreat
open Go.RowKit
set_option maxRecDepth 100000

theorem mem_pt (x z : Ln) : ∀ N : List Ln, (N.Pairwise fun x y => ky x < ky y) → (z ∈ pt N x ↔ (z ∈ N ∧ ky z ≠ ky x) ∨ (∃ a ∈ N, ky a = ky x ∧ z = (x.1, wrap64 (a.2 + x.2))) ∨ ((∀ a ∈ N, ky a ≠ ky x) ∧ z = x))
  | [], _ => by simp [pt, ptE]
  | a :: t, hu => by
    obtain ⟨u1, u2⟩ := List.pairwise_cons.1 hu
    have ih := mem_pt x z t u2
    rw [pt_cons a x t hu]
    by_cases c1 : ky a = ky x
    · rw [if_pos c1]
      have no : ∀ b ∈ t, ky b ≠ ky x := fun b hb e => by
        have := u1 b hb
        rw [c1, e] at this
        exact lt_irr _ this
      constructor
      · intro h
        rcases List.mem_cons.1 h with h | h
        · exact .inr (.inl ⟨a, List.mem_cons_self .., c1, h⟩)
        · exact .inl ⟨List.mem_cons_of_mem _ h, no z h⟩
      · rintro (⟨h, h2⟩ | ⟨b, hb, e, hz⟩ | ⟨h, _⟩)
        · rcases List.mem_cons.1 h with rfl | h
          · exact absurd c1 h2
          · exact List.mem_cons_of_mem _ h
        · rcases List.mem_cons.1 hb with rfl | hb
          · rw [hz]; exact List.mem_cons_self ..
          · exact absurd e (no b hb)
        · exact absurd c1 (h a (List.mem_cons_self ..))
    · rw [if_neg c1]
      by_cases c2 : ky x < ky a
      · rw [if_pos c2]
        have no : ∀ b ∈ a :: t, ky b ≠ ky x := fun b hb e => by
          rcases List.mem_cons.1 hb with rfl | hb
          · exact c1 e
          · have := lt_tr c2 (u1 b hb)
            rw [e] at this
            exact lt_irr _ this
        constructor
        · intro h
          rcases List.mem_cons.1 h with h | h
          · exact .inr (.inr ⟨no, h⟩)
          · exact .inl ⟨h, no z h⟩
        · rintro (⟨h, _⟩ | ⟨b, hb, e, _⟩ | ⟨_, hz⟩)
          · exact List.mem_cons_of_mem _ h
          · exact absurd e (no b hb)
          · rw [hz]; exact List.mem_cons_self ..
      · rw [if_neg c2, List.mem_cons, ih]
        constructor
        · rintro (rfl | ⟨h, h2⟩ | ⟨b, hb, e⟩ | ⟨h, hz⟩)
          · exact .inl ⟨List.mem_cons_self .., c1⟩
          · exact .inl ⟨List.mem_cons_of_mem _ h, h2⟩
          · exact .inr (.inl ⟨b, List.mem_cons_of_mem _ hb, e⟩)
          · exact .inr (.inr ⟨fun b hb => by
              rcases List.mem_cons.1 hb with rfl | hb
              · exact c1
              · exact h b hb, hz⟩)
        · rintro (⟨h, h2⟩ | ⟨b, hb, e, hz⟩ | ⟨h, hz⟩)
          · rcases List.mem_cons.1 h with rfl | h
            · exact .inl rfl
            · exact .inr (.inl ⟨h, h2⟩)
          · rcases List.mem_cons.1 hb with rfl | hb
            · exact absurd e c1
            · exact .inr (.inr (.inl ⟨b, hb, e, hz⟩))
          · exact .inr (.inr (.inr ⟨fun b hb => h b (List.mem_cons_of_mem _ hb), hz⟩))
theorem up_pt (x : Ln) : ∀ N : List Ln, (N.Pairwise fun x y => ky x < ky y) → (pt N x).Pairwise fun x y => ky x < ky y
  | [], _ => by simp [pt, ptE]
  | a :: t, hu => by
    obtain ⟨u1, u2⟩ := List.pairwise_cons.1 hu
    rw [pt_cons a x t hu]
    by_cases c1 : ky a = ky x
    · rw [if_pos c1]
      refine List.pairwise_cons.2 ⟨fun b hb => ?_, u2⟩
      show ky x < ky b
      rw [← c1]
      exact u1 b hb
    · rw [if_neg c1]
      by_cases c2 : ky x < ky a
      · rw [if_pos c2]
        refine List.pairwise_cons.2 ⟨fun b hb => ?_, hu⟩
        rcases List.mem_cons.1 hb with rfl | hb
        · exact c2
        · exact lt_tr c2 (u1 b hb)
      · rw [if_neg c2]
        refine List.pairwise_cons.2 ⟨fun b hb => ?_, up_pt x t u2⟩
        have hx : ky a < ky x := lt_or c2 (fun e => c1 e.symm)
        rcases (mem_pt x b t u2).1 hb with ⟨h, _⟩ | ⟨d, hd, e, hz⟩ | ⟨_, hz⟩
        · exact u1 b h
        · rw [hz]; exact hx
        · rw [hz]; exact hx
theorem Nrm.put {L N : List Ln} {x : Ln} (h : Nrm L N) (hi : I64 x.2) : Nrm (L ++ [x]) (pt N x) := by
  refine ⟨up_pt x N h.up, fun z hz => ?_, fun y hy => ?_⟩
  · rw [qs_app, qs_one]
    rcases (mem_pt x z N h.up).1 hz with ⟨h1, h2⟩ | ⟨a, ha, e, rfl⟩ | ⟨h1, rfl⟩
    · obtain ⟨⟨y, hy, e⟩, q⟩ := h.is z h1
      rw [if_neg (fun e => h2 e.symm), Int.add_zero]
      exact ⟨⟨y, List.mem_append_left _ hy, e⟩, q⟩
    · have q := (h.is a ha).2
      refine ⟨⟨x, by simp, rfl⟩, ?_⟩
      rw [if_pos (show ky x = ky (x.1, wrap64 (a.2 + x.2)) from rfl)]
      show wrap64 (a.2 + x.2) = wrap64 (qs L (ky x) + x.2)
      rw [q, wrap64_l, e]
    · refine ⟨⟨z, by simp, rfl⟩, ?_⟩
      rw [if_pos rfl, qs_none, Int.zero_add, wrap64_i hi]
      intro y hy e
      obtain ⟨a, ha, e2⟩ := h.all y hy
      exact h1 a ha (e2.trans e)
  · have hx : ∃ z ∈ pt N x, ky z = ky x := by
      by_cases c : ∃ a ∈ N, ky a = ky x
      · obtain ⟨a, ha, e⟩ := c
        exact ⟨(x.1, wrap64 (a.2 + x.2)), (mem_pt x _ N h.up).2 (.inr (.inl ⟨a, ha, e, rfl⟩)), rfl⟩
      · exact ⟨x, (mem_pt x _ N h.up).2 (.inr (.inr ⟨fun a ha e => c ⟨a, ha, e⟩, rfl⟩)), rfl⟩
    rcases List.mem_append.1 hy with hy | hy
    · obtain ⟨a, ha, e⟩ := h.all y hy
      by_cases c : ky a = ky x
      · obtain ⟨z, hz, e2⟩ := hx
        exact ⟨z, hz, e2.trans (c.symm.trans e)⟩
      · exact ⟨a, (mem_pt x _ N h.up).2 (.inl ⟨ha, c⟩), e⟩
    · rw [List.mem_singleton] at hy
      subst hy
      exact hx
/-- the lines put one by one -/
def ptN (L : List Ln) : List Ln := L.foldl pt []
theorem ptN_nrm (L : List Ln) (hi : ∀ y ∈ L, I64 y.2) : Nrm L (ptN L) := by
  have key : ∀ (M P N : List Ln), (∀ y ∈ M, I64 y.2) → Nrm P N → Nrm (P ++ M) (M.foldl pt N) := by
    intro M
    induction M with
    | nil => intro P N _ h; simpa using h
    | cons y t ih =>
      intro P N hi h
      have := ih (P ++ [y]) (pt N y) (fun z hz => hi z (List.mem_cons_of_mem _ hz)) (h.put (hi y (List.mem_cons_self ..)))
      simpa using this
  simpa [ptN] using key L [] [] hi Nrm.nil
/-- a sorted row, with what is alike joined: so far -/
def mgS (A : List Ln) (x : Ln) : List Ln := match A.getLast? with
  | some a => if ky a = ky x then A.dropLast ++ [(a.1, wrap64 (a.2 + x.2))] else A ++ [x]
  | none => A ++ [x]
theorem mg_nrm : ∀ (S P A : List Ln), (∀ y ∈ S, I64 y.2) → (P ++ S).Pairwise (fun x y => ¬ ky y < ky x) → Nrm P A → Nrm (P ++ S) (S.foldl mgS A)
  | [], P, A, _, _, h => by simpa using h
  | x :: t, P, A, hi, hs, h => by
    have hs2 : ((P ++ [x]) ++ t).Pairwise (fun x y => ¬ ky y < ky x) := by simpa using hs
    have hp := List.pairwise_append.1 hs
    have up : ∀ y ∈ A, ¬ ky x < ky y := fun y hy => by
      obtain ⟨z, hz, e⟩ := (h.is y hy).1
      rw [← e]
      exact hp.2.2 z hz x (List.mem_cons_self ..)
    have step : Nrm (P ++ [x]) (mgS A x) := by
      unfold mgS
      rcases List.eq_nil_or_concat A with rfl | ⟨B, a, rfl⟩
      · exact h.snoc (hi x (List.mem_cons_self ..)) (fun y hy => by simp at hy)
      · simp only [List.concat_eq_append] at h up ⊢
        rw [List.getLast?_concat]
        by_cases c : ky a = ky x
        · simp only [c, if_true, List.dropLast_concat]
          exact h.join c
        · simp only [c, if_false]
          refine h.snoc (hi x (List.mem_cons_self ..)) (fun y hy => ?_)
          have ha : ky a < ky x := lt_or (up a (by simp)) (fun e => c e.symm)
          rcases List.mem_append.1 hy with hy | hy
          · exact lt_tr ((List.pairwise_append.1 h.up).2.2 y hy a (by simp)) ha
          · rw [List.mem_singleton] at hy
            rw [hy]
            exact ha
    have := mg_nrm t (P ++ [x]) (mgS A x) (fun z hz => hi z (List.mem_cons_of_mem _ hz)) hs2 step
    simpa using this
/-- the program's sums are the document's -/
theorem mg_is {L S : List Ln} (hp : S.Perm L) (hs : S.Pairwise (fun x y => ¬ ky y < ky x)) (hi : ∀ y ∈ L, I64 y.2) : S.foldl mgS [] = ptN L := by
  have h1 := mg_nrm S [] [] (fun y hy => hi y (hp.mem_iff.1 hy)) (by simpa using hs) Nrm.nil
  rw [List.nil_append] at h1
  exact (h1.perm hp).same (ptN_nrm L hi)
end Go.Proofs.YtebkagmlhmdckaaGreat
