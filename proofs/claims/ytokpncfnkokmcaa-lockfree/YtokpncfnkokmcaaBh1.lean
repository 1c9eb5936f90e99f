/-
  Handlers made; counts over all of them.
-/
import Derived.Test.YtokpncfnkokmcaaLri1
namespace Go.Proofs.Ytokpncfnkokmcaa
open Go.RowKit
set_option maxRecDepth 100000

/-- a handler at its beginning -/
abbrev h0 (S : List Int) : Hn := (S, 0, [])
theorem sm_zero (f : Hn → Nat) (H : List Hn) (h : ∀ g ∈ H, f g = 0) : sm f H = 0 := by
  have := sm_le f 0 H (fun g hg => by rw [h g hg]; exact Nat.le_refl _)
  omega
theorem FI.init (n : Nat) (L : List (List Int)) (hL : L.length ≤ 8) (hok : ∀ S ∈ L, HOk n (h0 S)) : FI n (L.map h0) (List.replicate n (0, 0, 0)) := by
  have hz : ∀ (i : Nat) (h : Hn), (L.map h0)[i]? = some h → ∃ S ∈ L, h = h0 S := by
    intro i h e
    rw [List.getElem?_map] at e
    cases hc : L[i]? with
    | none => rw [hc] at e; simp at e
    | some S => rw [hc] at e; simp at e; exact ⟨S, List.mem_of_getElem? hc, e.symm⟩
  have ha : ∀ (i : Nat) (h : Hn), (L.map h0)[i]? = some h → aa h = 0 := fun i h e => by obtain ⟨S, _, rfl⟩ := hz i h e; rfl
  have tz : ∀ s : Int, tg (List.replicate n (0, 0, 0)) s = (0, 0, 0) := by
    intro s
    unfold tg
    rw [List.getD_eq_getElem?_getD, List.getElem?_replicate]
    split <;> rfl
  have zs : ∀ f : Hn → Nat, (∀ S ∈ L, f (h0 S) = 0) → sm f (L.map h0) = 0 := fun f hf => sm_zero f _ (fun g hg => by obtain ⟨S, hS, rfl⟩ := List.mem_map.1 hg; exact hf S hS)
  refine ⟨by simp, by simpa using hL, ?_, ?_, ?_, ?_, ?_, ?_, ?_, ?_, ?_⟩
  · intro i h e
    obtain ⟨S, hS, rfl⟩ := hz i h e
    exact hok S hS
  · intro i h k e _ h2
    have := ha i h e
    omega
  · intro i h k j g l e _ _ h2 _ _ _ _
    have := ha i h e
    omega
  · intro s _ _ t t0 t1
    rw [tz] at t1
    have : t < 0 := t1
    omega
  · intro i h k e _ h2
    have := ha i h e
    omega
  · intro i h k e _ h2 _
    have := ha i h e
    omega
  · intro s _ _
    rw [tz, zs (gvc s) (fun S _ => ind_zero fun k _ _ => decide_eq_false (by show ¬ 2 * k + 1 ≤ 0; omega))]
    rfl
  · intro s _ _
    rw [tz, zs (lfc s) (fun S _ => ind_zero fun k _ _ => decide_eq_false (by show ¬ _ < 0; omega))]
    rfl
  · intro s _ _
    rw [tz, zs (sqn s) (fun S _ => by
      unfold sqn
      rw [ind_zero fun k _ _ => decide_eq_false (by show ¬ _ < 0; omega), ind_zero fun k _ _ => decide_eq_false (by show ¬ _ < 0; omega)])]
    rfl
theorem HM.nil (w : World) (base : Nat) : HM w base (.slice none 0 0) [] [] :=
  ⟨World.ownsRow_nil _ _ _ _, rfl, fun i m h e => by simp at e, fun i j m m' e => by simp at e, fun i j m m' g e => by simp at e, fun i j m m' g e => by simp at e⟩
theorem snoc_some {α : Type} {L : List α} {x : α} {i : Nat} {y : α} (e : (L ++ [x])[i]? = some y) : L[i]? = some y ∨ (i = L.length ∧ y = x) := by
  rw [List.getElem?_append] at e
  split at e
  · exact .inl e
  · rename_i c
    have hl : i - L.length < 1 := by have := (List.getElem?_eq_some_iff.1 e).1; simpa using this
    have : i - L.length = 0 := by omega
    rw [this] at e
    simp at e
    exact .inr ⟨by omega, e.symm⟩
/-- one handler more -/
theorem HM.snoc {w w1 w4 : World} {base : Nat} {v v' sv : Value} {M : List Mh} {H : List Hn} {S : List Int} (hm : HM w base v M H) (hb : base ≤ w.heap.size) (k1 : Below w.heap.size w w1) (hs : OI w1 w.heap.size sv S)
    (hp : PO w4 base v' (M.map (·.1) ++ [w1.heap.size])) (hg : ((w1.alloc (.cells #[sv, .int .i64 0, .slice none 0 0] THd)).alloc (.cells #[.pointer (some ⟨w1.heap.size, 0, none⟩)] TPt)).grownBy w4 v.ownBlock) :
    HM w4 base v' (M ++ [(w1.heap.size, sv, .slice none 0 0)]) (H ++ [h0 S]) ∧ Kw (fun k => v.ownBlock = some k) w w4 := by
  have hz1 := k1.size
  have zb : (w1.alloc (.cells #[sv, .int .i64 0, .slice none 0 0] THd)).heap.size = w1.heap.size + 1 := by simp
  have kb : Below w1.heap.size w1 ((w1.alloc (.cells #[sv, .int .i64 0, .slice none 0 0] THd)).alloc (.cells #[.pointer (some ⟨w1.heap.size, 0, none⟩)] TPt)) := ((Below.refl _ _).alloc (Nat.le_refl _) _).alloc (by simp) _
  have kg : Kw (fun k => v.ownBlock = some k) ((w1.alloc (.cells #[sv, .int .i64 0, .slice none 0 0] THd)).alloc (.cells #[.pointer (some ⟨w1.heap.size, 0, none⟩)] TPt)) w4 := ⟨hg.os, hg.tape, hg.output, hg.size, fun k hk hn => hg.block k hk (fun e => hn e.symm)⟩
  have k14 : Kw (fun k => v.ownBlock = some k) w1 w4 := (Kw.below kb).trans kg
  have k04 : Kw (fun k => v.ownBlock = some k) w w4 := (Kw.below k1).trans k14
  have hvl : ∀ g, v.ownBlock = some g → g < w.heap.size ∧ base ≤ g := fun g e => ⟨(World.ownsRow.lt hm.ptr g e).2, (World.ownsRow.lt hm.ptr g e).1⟩
  have hnb : w4.heap[w1.heap.size]? = some (.cells #[sv, .int .i64 0, .slice none 0 0] THd (0, 0)) := by
    rw [kg.block w1.heap.size (by simp; omega) (fun e => by have := (hvl _ e).1; omega)]
    have a1 := (Below.refl (w1.heap.size + 1) (w1.alloc (.cells #[sv, .int .i64 0, .slice none 0 0] THd))).alloc (by simp) (.cells #[.pointer (some ⟨w1.heap.size, 0, none⟩)] TPt)
    rw [a1.block w1.heap.size (by omega)]
    exact heap_alloc_new w1 _
  have hso : OI w4 base sv S := (hs.kw k14 (fun g hg' e => by have := (hvl g e).1; have := (World.ownsRow.lt hs g hg').1; omega)).mono hb
  have old : ∀ (i : Nat) (m : Mh), M[i]? = some m → ∃ h, H[i]? = some h := fun i m e => ⟨_, List.getElem?_eq_getElem (by have := (List.getElem?_eq_some_iff.1 e).1; have := hm.len; omega)⟩
  refine ⟨⟨?_, by simp [hm.len], ?_, ?_, ?_, ?_⟩, k04⟩
  · rw [List.map_append]; exact hp
  · intro i m h e1 e2
    rcases snoc_some e1 with e1 | ⟨c1, rfl⟩
    · have hl := (List.getElem?_eq_some_iff.1 e1).1
      rcases snoc_some e2 with e2 | ⟨c2, _⟩
      · obtain ⟨c1, c2, c3, c4⟩ := hm.cell i m h e1 e2
        have nt : ∀ {g : Nat} {X : Array Value} {t : TypeId} {f : Nat × Nat}, w.heap[g]? = some (.cells X t f) → t ≠ TPt → v.ownBlock ≠ some g := fun hh ne e => by obtain ⟨row, hr⟩ := hm.ptr.ty e; exact ty_ne hh hr ne rfl
        exact ⟨c1, (k04.block m.1 (Array.getElem?_eq_some_iff.1 c2).1 (nt c2 (by decide))).trans c2, c3.kw k04 (fun g hg' => by obtain ⟨row, hr⟩ := c3.ty hg'; exact nt hr (by decide)), c4.kw k04 (fun g hg' => by obtain ⟨row, hr⟩ := c4.ty hg'; exact nt hr (by decide))⟩
      · have := hm.len; omega
    · rcases snoc_some e2 with e2 | ⟨_, rfl⟩
      · have := (List.getElem?_eq_some_iff.1 e2).1
        have := hm.len
        omega
      · exact ⟨by omega, hnb, hso, OI.nil _ _⟩
  · intro i j m m' e1 e2 e
    rcases snoc_some e1 with e1 | ⟨c1, d1⟩ <;> rcases snoc_some e2 with e2 | ⟨c2, d2⟩
    · exact hm.inj i j m m' e1 e2 e
    · obtain ⟨h, hh⟩ := old i m e1
      have := (Array.getElem?_eq_some_iff.1 (hm.cell i m h e1 hh).2.1).1
      rw [d2] at e
      have e' : m.1 = w1.heap.size := e
      omega
    · obtain ⟨h, hh⟩ := old j m' e2
      have := (Array.getElem?_eq_some_iff.1 (hm.cell j m' h e2 hh).2.1).1
      rw [d1] at e
      have e' : w1.heap.size = m'.1 := e
      omega
    · omega
  · intro i j m m' g e1 e2 q1 q2
    rcases snoc_some e1 with e1 | ⟨c1, rfl⟩ <;> rcases snoc_some e2 with e2 | ⟨c2, rfl⟩
    · exact hm.apT i j m m' g e1 e2 q1 q2
    · simp [Value.ownBlock] at q2
    · simp [Value.ownBlock] at q1
    · omega
  · intro i j m m' g e1 e2 q1
    rcases snoc_some e1 with e1 | ⟨c1, rfl⟩ <;> rcases snoc_some e2 with e2 | ⟨c2, rfl⟩
    · exact hm.apS i j m m' g e1 e2 q1
    · intro q2
      obtain ⟨h, hh⟩ := old i m e1
      have h1 := (World.ownsRow.lt (hm.cell i m h e1 hh).2.2.2 g q1).2
      have h2 := (World.ownsRow.lt hs g q2).1
      omega
    · simp [Value.ownBlock] at q1
    · simp [Value.ownBlock] at q1
/-- how many of the first k places are s and taken by f -/
def cn (S : List Int) (s : Int) (f : Nat → Bool) : Nat → Nat
  | 0 => 0
  | k + 1 => cn S s f k + if decide (S.getD k 0 = s) && f k then 1 else 0
theorem cn_ind {n : Nat} {h : Hn} (hh : HOk n h) (s : Int) (f : Nat → Bool) : cn h.1 s f h.1.length = ind h.1 s f := by
  have key : ∀ k, k ≤ nn h → (cn h.1 s f k = 1 ∧ ∃ j, j < k ∧ ss h j = s ∧ f j = true) ∨ (cn h.1 s f k = 0 ∧ ∀ j, j < k → ss h j = s → f j = false) := by
    intro k
    induction k with
    | zero => intro _; exact .inr ⟨rfl, fun j hj => by omega⟩
    | succ k ih =>
      intro hk
      unfold cn
      by_cases c : (decide (h.1.getD k 0 = s) && f k) = true
      · rw [if_pos c]
        rw [Bool.and_eq_true] at c
        have hs := of_decide_eq_true c.1
        rcases ih (by omega) with ⟨_, j, hj, e1, _⟩ | ⟨e0, _⟩
        · have := hh.uniq (k := j) (l := k) (by omega) (by omega) (by rw [e1]; exact hs.symm)
          omega
        · exact .inl ⟨by omega, k, by omega, hs, c.2⟩
      · rw [if_neg c]
        rcases ih (by omega) with ⟨e1, j, hj, e2, e3⟩ | ⟨e0, e1⟩
        · exact .inl ⟨by omega, j, by omega, e2, e3⟩
        · refine .inr ⟨by omega, fun j hj es => ?_⟩
          by_cases cj : j = k
          · subst cj
            cases hf : f j with
            | false => rfl
            | true => exact absurd (by rw [hf, decide_eq_true es]; rfl) c
          · exact e1 j (by omega) es
  rcases key (nn h) (Nat.le_refl _) with ⟨e1, j, hj, e2, e3⟩ | ⟨e0, e1⟩
  · rw [ind_one hj e2 e3]; exact e1
  · rw [ind_zero e1]; exact e0
theorem cn_le (S : List Int) (s : Int) (f : Nat → Bool) : ∀ k, cn S s f k ≤ k
  | 0 => Nat.le_refl _
  | k + 1 => by
    have := cn_le S s f k
    unfold cn
    split <;> omega
theorem sm_take (f : Hn → Nat) (H : List Hn) (i : Nat) (h : Hn) (hi : H[i]? = some h) : sm f (H.take (i + 1)) = sm f (H.take i) + f h := by
  rw [List.take_add_one, hi]
  simp [sm]
theorem sm_one (f : Hn → Nat) : ∀ (H : List Hn), (∀ h ∈ H, f h ≤ 1) → (∀ (i j : Nat) (g h : Hn), H[i]? = some g → H[j]? = some h → f g = 1 → f h = 1 → i = j) → sm f H ≤ 1
  | [], _, _ => by simp [sm]
  | x :: t, h1, h2 => by
    have hx := h1 x (List.mem_cons_self ..)
    rw [sm_cons]
    by_cases c : f x = 1
    · have hz : sm f t = 0 := sm_zero f t (fun g hg => by
        have hg1 := h1 g (List.mem_cons_of_mem _ hg)
        by_cases cg : f g = 1
        · obtain ⟨j, hj⟩ := List.getElem?_of_mem hg
          have := h2 0 (j + 1) x g (by simp) (by simpa using hj) c cg
          omega
        · omega)
      omega
    · have := sm_one f t (fun g hg => h1 g (List.mem_cons_of_mem _ hg)) (fun i j g h e1 e2 q1 q2 => by have := h2 (i + 1) (j + 1) g h (by simpa using e1) (by simpa using e2) q1 q2; omega)
      omega
theorem FI.inner {n : Nat} {H : List Hn} {T : List Hd} (F : FI n H T) (s : Int) : sm (fun h => ind h.1 s (inB h)) H ≤ 1 := by
  refine sm_one _ H (fun h _ => ind_le _ _ _) (fun i j g h e1 e2 q1 q2 => ?_)
  obtain ⟨k, k1, k2, k3⟩ := ind_ex q1
  obtain ⟨l, l1, l2, l3⟩ := ind_ex q2
  unfold inB at k3 l3
  have k4 := of_decide_eq_true k3
  have l4 := of_decide_eq_true l3
  exact F.one e1 e2 k1 l1 (by show g.1.getD k 0 = h.1.getD l 0; rw [k2, l2]) k4.1 k4.2 l4.1 l4.2
theorem sm_lt : ∀ (H : List Hn), sm aa H < 5 * sm nn H → ∃ (i : Nat) (h : Hn), H[i]? = some h ∧ aa h < 5 * nn h
  | [], h => by simp [sm] at h
  | x :: t, h => by
    rw [sm_cons, sm_cons] at h
    by_cases c : aa x < 5 * nn x
    · exact ⟨0, x, by simp, c⟩
    · obtain ⟨i, g, e, e2⟩ := sm_lt t (by omega)
      exact ⟨i + 1, g, by simpa using e, e2⟩
theorem sm_all : ∀ (H : List Hn), (∀ h ∈ H, aa h ≤ 5 * nn h) → 5 * sm nn H ≤ sm aa H → ∀ h ∈ H, aa h = 5 * nn h
  | [], _, _ => by simp
  | x :: t, h1, h2 => by
    have hle : sm aa t ≤ 5 * sm nn t := by
      have : ∀ (L : List Hn), (∀ h ∈ L, aa h ≤ 5 * nn h) → sm aa L ≤ 5 * sm nn L := by
        intro L
        induction L with
        | nil => intro _; simp [sm]
        | cons y u ih =>
          intro hh
          have i1 := ih (fun h hm => hh h (List.mem_cons_of_mem _ hm))
          have i2 := hh y (List.mem_cons_self ..)
          rw [sm_cons, sm_cons]
          omega
      exact this t (fun h hm => h1 h (List.mem_cons_of_mem _ hm))
    rw [sm_cons, sm_cons] at h2
    have hx := h1 x (List.mem_cons_self ..)
    intro h hm
    rcases List.mem_cons.1 hm with rfl | hm
    · omega
    · exact sm_all t (fun h hm => h1 h (List.mem_cons_of_mem _ hm)) (by omega) h hm
theorem sm_nn (H H' : List Hn) (e : H'.map (·.1) = H.map (·.1)) : sm nn H' = sm nn H ∧ H'.length = H.length := by
  have key : ∀ L : List Hn, sm nn L = ((L.map (·.1)).map List.length).sum := by
    intro L
    unfold sm
    rw [List.map_map]
    rfl
  refine ⟨by rw [key, key, e], ?_⟩
  have := congrArg List.length e
  simpa using this
end Go.Proofs.Ytokpncfnkokmcaa
