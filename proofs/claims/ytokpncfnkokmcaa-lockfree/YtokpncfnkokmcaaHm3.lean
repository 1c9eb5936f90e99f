/-
  A handler's step, in memory and by what holds.
-/
import Derived.Test.YtokpncfnkokmcaaHm2
namespace Go.Proofs.Ytokpncfnkokmcaa
open Go.RowKit
set_option maxRecDepth 100000

theorem HOk.small {n : Nat} {h : Hn} (hh : HOk n h) : nn h ≤ n := by
  have key : ∀ k, k < nn h → (k : Int) ≤ ss h k := by
    intro k
    induction k with
    | zero => intro hk; have := hh.wf 0 hk; omega
    | succ k ih =>
      intro hk
      have h1 := ih (by omega)
      have h2 := hh.st k (k + 1) (by omega) hk
      omega
  by_cases c : nn h = 0
  · omega
  · have h1 := key (nn h - 1) (by omega)
    have h2 := hh.wf (nn h - 1) (by omega)
    omega
theorem msome {M : List Mh} {i : Nat} {m m' : Mh} (hi : M[i]? = some m) {j : Nat} {g : Mh} (e : (M.set i m')[j]? = some g) : (j = i ∧ g = m') ∨ (j ≠ i ∧ M[j]? = some g) := by
  have hl := (List.getElem?_eq_some_iff.1 hi).1
  rw [List.getElem?_set] at e
  split at e
  · rename_i c
    subst c
    try rw [if_pos hl] at e
    cases e
    exact .inl ⟨rfl, rfl⟩
  · rename_i c
    exact .inr ⟨fun e' => c e'.symm, e⟩
/-- a ticket laid to the others -/
theorem HM.tick {w w2 : World} {base : Nat} {v : Value} {M : List Mh} {H : List Hn} (hm : HM w base v M H) {i : Nat} {m : Mh} {h : Hn} (h1 : M[i]? = some m) (h2 : H[i]? = some h) (x : Int) (o : Obj) (tv' : Value) (ho : OI w2 base tv' (h.2.2 ++ [x])) (hg : (w.alloc o).grownBy w2 m.2.2.ownBlock) (hloc : tv'.ownBlock = m.2.2.ownBlock ∨ tv'.ownBlock = some (w.heap.size + 1)) :
    HM ((w2.setCell ⟨m.1, 2, none⟩ tv').setCell ⟨m.1, 1, none⟩ (.int .i64 ((aa h : Int) + 1))) base v (M.set i (m.1, m.2.1, tv')) (H.set i (h.1, aa h + 1, h.2.2 ++ [x])) ∧ Kw (fun k => k = m.1 ∨ m.2.2.ownBlock = some k) w ((w2.setCell ⟨m.1, 2, none⟩ tv').setCell ⟨m.1, 1, none⟩ (.int .i64 ((aa h : Int) + 1))) := by
  obtain ⟨d1, d2, d3, d4⟩ := hm.cell i m h h1 h2
  have kA : Kw (fun k => m.2.2.ownBlock = some k) w w2 := (Kw.below ((Below.refl _ _).alloc (Nat.le_refl _) o)).trans ⟨hg.os, hg.tape, hg.output, hg.size, fun k hk hn => hg.block k hk (fun e => hn e.symm)⟩
  have kB : Kw (fun k => k = m.1) w2 ((w2.setCell ⟨m.1, 2, none⟩ tv').setCell ⟨m.1, 1, none⟩ (.int .i64 ((aa h : Int) + 1))) := (Kw.set (P := fun k => k = m.1) w2 ⟨m.1, 2, none⟩ tv' rfl).trans (Kw.set (P := fun k => k = m.1) _ ⟨m.1, 1, none⟩ _ rfl)
  have hlt : ∀ g, m.2.2.ownBlock = some g → g < w.heap.size := fun g e => (World.ownsRow.lt d4 g e).2
  have hbT : m.2.2.ownBlock ≠ some m.1 := fun e => by obtain ⟨row, hr⟩ := d4.ty e; exact ty_ne hr d2 (by decide) rfl
  have hw2b : w2.heap[m.1]? = w.heap[m.1]? := kA.block m.1 (Array.getElem?_eq_some_iff.1 d2).1 hbT
  have ho2 : w2.heap[m.1]? = some (.cells #[m.2.1, .int .i64 (aa h : Int), m.2.2] THd (0, 0)) := hw2b.trans d2
  have row3 : ∀ (j : Nat) (m' : Mh) (g : Hn), M[j]? = some m' → H[j]? = some g → OI w2 base m'.2.1 g.1 := fun j m' g e1 e2 => (hm.cell j m' g e1 e2).2.2.1.kw kA (fun b hb e => hm.apS i j m m' b h1 e1 e hb)
  have nb : ∀ {u : Value} {R : List Int}, OI w2 base u R → ∀ g, u.ownBlock = some g → g ≠ m.1 := fun hu g hg => by obtain ⟨row, hr⟩ := hu.ty hg; exact ty_ne hr ho2 (by decide)
  refine ⟨⟨?_, by rw [List.length_set, List.length_set]; exact hm.len, ?_, ?_, ?_, ?_⟩, ?_⟩
  · have e : (M.set i (m.1, m.2.1, tv')).map (·.1) = M.map (·.1) := by
      rw [List.map_set]
      obtain ⟨hl, rfl⟩ := List.getElem?_eq_some_iff.1 h1
      have : M[i].1 = (M.map (·.1))[i]'(by simpa using hl) := by simp
      show (M.map (·.1)).set i M[i].1 = _
      rw [this, List.set_getElem_self]
    rw [e]
    refine (hm.ptr.kw kA (fun g hg e => ?_)).kw kB (fun g hg e => ?_)
    · obtain ⟨row, hr⟩ := hm.ptr.ty hg
      obtain ⟨row', hr'⟩ := d4.ty e
      exact ty_ne hr hr' (by decide) rfl
    · obtain ⟨row, hr⟩ := hm.ptr.ty hg
      subst e
      exact ty_ne hr d2 (by decide) rfl
  · intro j m' g e1 e2
    rcases msome h1 e1 with ⟨rfl, rfl⟩ | ⟨hne, e1⟩
    · rcases set_some h2 e2 with ⟨_, rfl⟩ | ⟨hne, _⟩
      · refine ⟨d1, ?_, (row3 j m h h1 h2).kw kB (nb (row3 j m h h1 h2)), ho.kw kB (nb ho)⟩
        rw [heap_setCell_same _ m.1 1 _ _ _ (heap_setCell_same w2 m.1 2 _ _ tv' ho2)]
        simp
        rfl
      · exact absurd rfl hne
    · rcases set_some h2 e2 with ⟨e, _⟩ | ⟨_, e2⟩
      · exact absurd e hne
      · obtain ⟨c1, c2, c3, c4⟩ := hm.cell j m' g e1 e2
        have hb' : m'.1 ≠ m.1 := fun e => hne (hm.inj j i m' m e1 h1 e)
        have hb2 : m.2.2.ownBlock ≠ some m'.1 := fun e => by obtain ⟨row, hr⟩ := d4.ty e; exact ty_ne hr c2 (by decide) rfl
        have c2' := (kA.block m'.1 (Array.getElem?_eq_some_iff.1 c2).1 hb2).trans c2
        have c4' := c4.kw kA (fun b hb e => hne (hm.apT i j m m' b h1 e1 e hb).symm)
        refine ⟨c1, (kB.block m'.1 (Array.getElem?_eq_some_iff.1 c2').1 hb').trans c2', (row3 j m' g e1 e2).kw kB (nb (row3 j m' g e1 e2)), c4'.kw kB (nb c4')⟩
  · intro j j2 m1 m2 e1 e2 e
    rcases msome h1 e1 with ⟨p1, p2⟩ | ⟨_, e1'⟩ <;> rcases msome h1 e2 with ⟨p3, p4⟩ | ⟨_, e2'⟩
    · rw [p1, p3]
    · rw [p2] at e
      rw [p1]
      exact hm.inj i j2 m m2 h1 e2' e
    · rw [p4] at e
      rw [p3]
      exact hm.inj j i m1 m e1' h1 e
    · exact hm.inj j j2 m1 m2 e1' e2' e
  · have fresh : ∀ (j : Nat) (m2 : Mh) (g : Nat), M[j]? = some m2 → j ≠ i → tv'.ownBlock = some g → m2.2.2.ownBlock = some g → False := by
      intro j m2 g e2 hne q1 q2
      obtain ⟨hh, hhs⟩ : ∃ hh, H[j]? = some hh := ⟨_, List.getElem?_eq_getElem (by have := (List.getElem?_eq_some_iff.1 e2).1; have := hm.len; omega)⟩
      rcases hloc with hl | hl
      · rw [hl] at q1
        exact hne (hm.apT j i m2 m g e2 h1 q2 q1)
      · rw [hl] at q1
        cases q1
        have := (World.ownsRow.lt (hm.cell j m2 hh e2 hhs).2.2.2 _ q2).2
        omega
    intro j j2 m1 m2 g e1 e2 q1 q2
    rcases msome h1 e1 with ⟨rfl, rfl⟩ | ⟨hne1, e1⟩ <;> rcases msome h1 e2 with ⟨c, rfl⟩ | ⟨hne2, e2⟩
    · exact c.symm
    · exact (fresh j2 m2 g e2 hne2 q1 q2).elim
    · exact (fresh j m1 g e1 hne1 q2 q1).elim
    · exact hm.apT _ _ _ _ g e1 e2 q1 q2
  · have fresh : ∀ (j : Nat) (m2 : Mh) (g : Nat), M[j]? = some m2 → tv'.ownBlock = some g → m2.2.1.ownBlock ≠ some g := by
      intro j m2 g e2 q1 q2
      obtain ⟨hh, hhs⟩ : ∃ hh, H[j]? = some hh := ⟨_, List.getElem?_eq_getElem (by have := (List.getElem?_eq_some_iff.1 e2).1; have := hm.len; omega)⟩
      rcases hloc with hl | hl
      · rw [hl] at q1
        exact hm.apS i j m m2 g h1 e2 q1 q2
      · rw [hl] at q1
        cases q1
        have := (World.ownsRow.lt (hm.cell j m2 hh e2 hhs).2.2.1 _ q2).2
        omega
    intro j j2 m1 m2 g e1 e2 q1
    rcases msome h1 e1 with ⟨rfl, rfl⟩ | ⟨hne1, e1⟩ <;> rcases msome h1 e2 with ⟨_, rfl⟩ | ⟨hne2, e2⟩
    · exact fresh _ m g h1 q1
    · exact fresh _ m2 g e2 q1
    · exact hm.apS j i m1 m g e1 h1 q1
    · exact hm.apS _ _ _ _ g e1 e2 q1
  · exact (kA.mono (fun k _ e => .inr e)).trans (kB.mono (fun k _ e => .inl e))
end Go.Proofs.Ytokpncfnkokmcaa
