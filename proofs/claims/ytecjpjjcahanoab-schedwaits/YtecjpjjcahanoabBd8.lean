/-
  A board: First.
-/
import Derived.Test.YtecjpjjcahanoabBd7
namespace Go.Proofs.Ytecjpjjcahanoab
open Go.RowKit Go.Maps
set_option maxRecDepth 100000

theorem first_none (on : Int) (w : World) {base d hb mb N : Nat} {S : List Hd} {p : Int} {M : Int → Value} {L : Int → List Int} (H : BD w base d hb mb N S p M L) (hon : i64 on) (hl : L on = []) :
    Calls Try.prog 15 #[.pointer (some ⟨d, 0, none⟩), .int .i64 on] w fun e w' => e = .returned (.tuple #[.int .i64 (-1), .bool false]) ∧ w' = w := by
  obtain ⟨_, c1, _, _⟩ := H.cells
  have hlk := H.map.look hon
  obtain ⟨ao, cap, hv⟩ := (H.lists on).reads.len0
  rw [hv, hl] at hlk
  clear H hv
  simp only [List.length_nil] at hlk
  go_enter Try.func15, Try.ntmps15
  go_wp2
  go_ret2
  exact ⟨rfl, rfl⟩

theorem BD.rest {w : World} {base d hb mb N : Nat} {S : List Hd} {p : Int} {M : Int → Value} {L : Int → List Int} (H : BD w base d hb mb N S p M L) (on : Int) (hon : i64 on) (hN : N < maxLen) {x : Int} {t : List Int} (hl : L on = x :: t) {g off cap : Nat} (hv : M on = .slice (some ⟨g, off, none⟩) (t.length + 1) cap) :
    ∃ w', (Instr.mapUpdate 80 (.map (some mb)) (.int .i64 on) (.slice (some ⟨g, off + 1, none⟩) t.length (cap - 1))).run Try.prog w = .ok () w' ∧ BD w' base d hb mb (N + 1) S p (upd M on (.slice (some ⟨g, off + 1, none⟩) t.length (cap - 1))) (updL L on t) ∧ w.grownBy w' (some mb) := by
  obtain ⟨n1, n2, n3, n4⟩ := H.ne
  obtain ⟨w', hrun, hmp, hg⟩ := H.map.put hon hN (.slice (some ⟨g, off + 1, none⟩) t.length (cap - 1))
  have hk : ∀ k, k < w.heap.size → k ≠ mb → w'.heap[k]? = w.heap[k]? := fun k hk hne => hg.block k hk (fun e => hne (by cases e; rfl))
  have hgo : (M on).ownBlock = some g := by rw [hv]; rfl
  have hob : ∀ k g', (upd M on (.slice (some ⟨g, off + 1, none⟩) t.length (cap - 1)) k).ownBlock = some g' → (M k).ownBlock = some g' := by
    intro k g' h
    unfold upd at h
    split at h
    · rename_i e
      subst e
      rw [hgo]
      exact h
    · exact h
  refine ⟨w', hrun, ⟨H.gd, H.gh, H.gm, ?_, ?_, H.many, hmp, fun k => ?_, fun k k' g' h0 h0' => H.apart k k' g' (hob k g' h0) (hob k' g' h0')⟩, hg⟩
  · rw [hk d (H.lt d (.inl rfl)).1 n2]; exact H.top
  · rw [hk hb (H.lt hb (.inr (.inl rfl))).1 n3]; exact H.row
  · by_cases e : k = on
    · subst e
      have hlk := H.lists k
      rw [hv, hl] at hlk
      rcases hlk with ⟨h0, _⟩ | ⟨g', off', cap', row, h0, h1, h2, h3, h4, h5⟩
      · cases h0
      · simp only [Value.slice.injEq, Option.some.injEq, Addr.mk.injEq] at h0
        obtain ⟨⟨rfl, rfl, _⟩, _, rfl⟩ := h0
        unfold upd updL
        rw [if_pos rfl, if_pos rfl]
        simp only [List.length_cons] at h4 h5
        refine .inr ⟨g, off + 1, cap - 1, row, rfl, h1, ?_, by omega, by omega, fun j hj => ?_⟩
        · rw [hk g (H.lt g (.inr (.inr (.inr ⟨k, hgo⟩)))).1 (n4 k g hgo).2.2]; exact h2
        · have := h5 (j + 1) (by omega)
          rw [show off + 1 + j = off + (j + 1) by omega, this]
          simp
    · unfold upd updL
      rw [if_neg e, if_neg e]
      exact (H.lists k).kept fun g' hg' => hk g' (H.lt g' (.inr (.inr (.inr ⟨k, hg'⟩)))).1 (n4 k g' hg').2.2

set_option maxHeartbeats 1000000 in
theorem first_some (on : Int) (w : World) {base d hb mb N : Nat} {S : List Hd} {p : Int} {M : Int → Value} {L : Int → List Int} (H : BD w base d hb mb N S p M L) (hon : i64 on) (hN : N < maxLen) {q : Nat} {t : List Int} (hl : L on = (q : Int) :: t) (ht : t.length ≤ 17592186043904) (hq : q < S.length) :
    Calls Try.prog 15 #[.pointer (some ⟨d, 0, none⟩), .int .i64 on] w fun e w' => e = .returned (.tuple #[.int .i64 (q : Int), .bool true]) ∧ ∃ v' N', N' ≤ N + 1 ∧ BD w' base d hb mb N' (S.set q (1, 0, p)) p (upd M on v') (updL L on t) ∧ Kb d hb mb M w w' ∧ ∀ g, v'.ownBlock = some g → (M on).ownBlock = some g := by
  have hcs := H.cells
  obtain ⟨_, c1, _, _⟩ := H.cells
  have hlk := H.map.look hon
  have hlk2 := H.drew.map.look hon
  have hlr := H.lists on
  rw [hl] at hlr
  rcases hlr with ⟨_, h0⟩ | ⟨g, off, cap, row, hv, h1, h2, h3, h4, h5⟩
  · cases h0
  simp only [List.length_cons] at hv h4 h5
  have hx : w.cell? ⟨g, off, none⟩ = some (.int .i64 (q : Int)) := by
    rw [cell_of_row w g off _ _ _ h2]
    have := h5 0 (by omega)
    simpa using this
  rw [hv] at hlk hlk2
  have HV := hid (show (M on).ownBlock = some g by rw [hv]; rfl)
  by_cases hte : t = []
  · subst hte
    simp only [List.length_nil] at *
    obtain ⟨w1, hdel, hbd, hg⟩ := H.drew.gone on hon 0
    have HM := hid (makeReady_any q w1 hbd hq)
    have HK0 := hid (show Kb d hb mb M w w1 from (Kb.drew _ _ _ _ _).trans (Kb.grown hg (fun k e => by cases e; exact .inr (.inr (.inl rfl)))))
    have HD := hid hdel
    clear H hdel hbd hg h1 h2 h3 h5 hcs
    go_enter Try.func15, Try.ntmps15
    by_cases hc1 : cap = 1
    all_goals
      go_wp2
      go_region
      go_wp2_with (at_delete; refine wpList_del rfl _ _ rfl rfl rfl HD.out ?_)
      clear hlk hlk2
      go_wp2_with fail
      refine HM.out.mono ?_
      rintro e w5 ⟨⟨v5, rfl⟩, hb5, hk5⟩
      have HB5 := hid hb5
      have HK5 := hid (show Kb d hb mb M w w5 from HK0.out.trans (hk5.wide fun k _ hk => ofB_nil hk))
      clear hb5 hk5 HM
      go_wp2
      go_ret2
      exact ⟨rfl, .slice none 0 0, N, by omega, HB5.out, HK5.out, fun g' h => by simp [Value.ownBlock] at h⟩
  · have hpos : 0 < t.length := List.length_pos_iff.2 hte
    have hc1 : ¬ cap = 1 := by omega
    have hlb : ((t.length : Int) == 0) = false := by simp; omega
    obtain ⟨w1, hup, hbd, hg⟩ := H.drew.rest on hon hN hl hv
    have HM := hid (makeReady_any q w1 hbd hq)
    have HK0 := hid (show Kb d hb mb M w w1 from (Kb.drew _ _ _ _ _).trans (Kb.grown hg (fun k e => by cases e; exact .inr (.inr (.inl rfl)))))
    have hc5 : w.drew.cell? ⟨d, 1, none⟩ = some (.map (some mb)) := c1
    have HKM := hid (show ∀ k, ofB d hb mb (upd M on (.slice (some ⟨g, off + 1, none⟩) t.length (cap - 1))) k → ofB d hb mb M k by
      rintro k (h | h | h | ⟨y, hy⟩)
      · exact .inl h
      · exact .inr (.inl h)
      · exact .inr (.inr (.inl h))
      · unfold upd at hy
        split at hy
        · exact .inr (.inr (.inr ⟨on, by rw [HV.out]; exact hy⟩))
        · exact .inr (.inr (.inr ⟨y, hy⟩)))
    have HVo := hid hv
    clear H hbd hg h1 h2 h3 h5 hcs hte hv
    go_enter Try.func15, Try.ntmps15
    go_wp2
    go_region
    go_wp2_with fail
    clear hlk hlk2
    refine HM.out.mono ?_
    rintro e w5 ⟨⟨v5, rfl⟩, hb5, hk5⟩
    have HB5 := hid hb5
    have HK5 := hid (show Kb d hb mb M w w5 from HK0.out.trans (hk5.wide fun k _ hk => HKM.out k hk))
    clear hb5 hk5 HM
    go_wp2
    go_ret2
    exact ⟨rfl, .slice (some ⟨g, off + 1, none⟩) t.length (cap - 1), N + 1, Nat.le_refl _, HB5.out, HK5.out, fun g' h => by rw [HV.out]; exact h⟩
end Go.Proofs.Ytecjpjjcahanoab
