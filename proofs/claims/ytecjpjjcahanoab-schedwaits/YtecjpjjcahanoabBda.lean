/-
  A board: Pick.
-/
import Derived.Test.YtecjpjjcahanoabBd3
namespace Go.Proofs.Ytecjpjjcahanoab
open Go.RowKit Go.Maps
set_option maxRecDepth 100000

theorem hc_set3 (S : List Hd) (q : Int) : ∀ (i : Nat) (h : i < S.length), (hc S).set (i * 3 + 2) (.int .i64 q) = hc (S.set i (S[i].1, S[i].2.1, q)) := by
  induction S with
  | nil => intro i h; simp at h
  | cons y t ih =>
    intro i h
    have e : hc (y :: t) = .int .i64 y.1 :: .int .i64 y.2.1 :: .int .i64 y.2.2 :: hc t := rfl
    cases i with
    | zero => rw [e]; simp [hc]
    | succ j =>
      have := ih j (by simpa using h)
      rw [e, show (j + 1) * 3 + 2 = (j * 3 + 2) + 3 from by omega]
      simp only [List.set_cons_succ]
      rw [this]
      rfl
/-- a pick's two cells written -/
def putP (w : World) (d hb i : Nat) (q : Int) : World := (w.setCell ⟨d, 2, none⟩ (.int .i64 q)).setCell ⟨hb, i * 3 + 2, none⟩ (.int .i64 q)
theorem BD.picked {w : World} {base d hb mb N : Nat} {S : List Hd} {p : Int} {M : Int → Value} {L : Int → List Int} (h : BD w base d hb mb N S p M L) (i : Nat) (hi : i < S.length) (q : Int) : BD (putP w d hb i q) base d hb mb N (S.set i (S[i].1, S[i].2.1, q)) q M L ∧ Kb d hb mb M w (putP w d hb i q) := by
  obtain ⟨n1, n2, n3, n4⟩ := h.ne
  have hk : ∀ k, k ≠ d → k ≠ hb → (putP w d hb i q).heap[k]? = w.heap[k]? := fun k h1 h2 => by
    unfold putP
    rw [heap_setCell_other _ _ _ _ h2, heap_setCell_other _ _ _ _ h1]
  have hr : (putP w d hb i q).heap[hb]? = some (.cells (hc (S.set i (S[i].1, S[i].2.1, q))).toArray 84 (0, 0)) := by
    unfold putP
    have e1 : (w.setCell ⟨d, 2, none⟩ (.int .i64 q)).heap[hb]? = _ := (heap_setCell_other w ⟨d, 2, none⟩ hb (.int .i64 q) (fun e => n1 e.symm)).trans h.row
    have e3 := heap_setCell_same _ hb (i * 3 + 2) _ _ (.int .i64 q) e1
    rw [e3]
    simp only [List.setIfInBounds_toArray]
    rw [hc_set3 S q i hi]
  have ht : (putP w d hb i q).heap[d]? = some (.cells #[.slice (some ⟨hb, 0, none⟩) S.length S.length, .map (some mb), .int .i64 q] 82 (0, 0)) := by
    unfold putP
    rw [heap_setCell_other _ _ _ _ n1, heap_setCell_same w d 2 _ _ (.int .i64 q) h.top]
    rfl
  refine ⟨⟨h.gd, h.gh, h.gm, by rw [ht, List.length_set], hr, by rw [List.length_set]; exact h.many, ?_, fun k => (h.lists k).kept fun g hg => hk g (n4 k g hg).1 (n4 k g hg).2.1, h.apart⟩, ?_⟩
  · obtain ⟨D, ⟨es, clock, hb', hx⟩, hM⟩ := h.map
    exact ⟨D, ⟨es, clock, by rw [hk mb (Ne.symm n2) (Ne.symm n3)]; exact hb', hx⟩, hM⟩
  · exact (Kb.set w ⟨d, 2, none⟩ _ (.inl rfl)).trans (Kb.set _ ⟨hb, i * 3 + 2, none⟩ _ (.inr (.inl rfl)))

set_option maxHeartbeats 2000000 in
theorem pick_any (i : Nat) (w : World) {base d hb mb N : Nat} {S : List Hd} {p : Int} {M : Int → Value} {L : Int → List Int} (H : BD w base d hb mb N S p M L) (hi : i < S.length) (hp : 0 ≤ p ∧ p ≤ 1000000000) :
    Calls Try.prog 25 #[.pointer (some ⟨d, 0, none⟩), .int .i64 (i : Int)] w fun e w' => (∃ v, e = .returned v) ∧ BD w' base d hb mb N (S.set i (S[i].1, S[i].2.1, p + 1)) (p + 1) M L ∧ Kb d hb mb M w w' := by
  obtain ⟨c0, _, c2, c3⟩ := H.cells
  obtain ⟨a1, a2, a3, a4⟩ := H.hand i hi
  have f1 := a4 (i * 3 + 2)
  have HP := hid (H.picked i hi (p + 1))
  have hn := H.many
  have n1 := H.ne.1
  have n2 := H.ne.1.symm
  have hI : (i : Int) < (S.length : Int) := by omega
  have hb0 : ((S.length : Int) == 0) = false := by simp; intro e; rw [e] at hi; simp at hi
  have m1 : (i : Int).tmod (S.length : Int) = (i : Int) := Int.tmod_eq_of_lt (by omega) hI
  have m2 : ((i : Int) + (S.length : Int)).tmod (S.length : Int) = (i : Int) := by
    rw [Int.tmod_eq_emod_of_nonneg (by omega), Int.add_emod_right, Int.emod_eq_of_lt (by omega) hI]
  obtain ⟨S', hS'⟩ : ∃ S', S.set i (S[i].1, S[i].2.1, p + 1) = S' := ⟨_, rfl⟩
  rw [hS'] at HP ⊢
  generalize S[i].1 = x1 at a1
  generalize S[i].2.1 = x2 at a2
  generalize S[i].2.2 = x3 at a3
  clear H a4 hS'
  go_enter Try.func25, Try.ntmps25
  go_wp2
  go_region
  all_goals
    go_wp2
    go_region
    all_goals
      go_wp2
      go_ret2
      exact ⟨⟨_, rfl⟩, HP.out.1.drew.drew, (HP.out.2.trans (Kb.drew _ _ _ _ _)).trans (Kb.drew _ _ _ _ _)⟩
end Go.Proofs.Ytecjpjjcahanoab
