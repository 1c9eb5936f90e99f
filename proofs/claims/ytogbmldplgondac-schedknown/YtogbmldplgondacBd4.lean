/-
  A board: Block.
-/
import Derived.Test.YtogbmldplgondacBd3
namespace Go.Proofs.Ytogbmldplgondac
open Go.RowKit Go.Maps
set_option maxRecDepth 100000

theorem LR.of_own {w : World} {base : Nat} {v : Value} {L : List Int} (h : OI w base v L) (hl : 0 < L.length) : LR w base v L ∧ ∃ g, v.ownBlock = some g ∧ base ≤ g := by
  have h' := h
  rcases h.2 with ⟨_, h0⟩ | ⟨g, cap, cur, rfl, hg, hh, hc, _, hs, ht⟩
  · omega
  · refine ⟨.inr ⟨g, 0, cap, cur, rfl, hg, hh, by omega, hc, fun j hj => ?_⟩, g, rfl, hg⟩
    have h1 : (cur.toList.take (L.length * 1))[j]? = some (.int .i64 L[j]) := by rw [ht]; exact ic_at L j hj
    rw [List.getElem?_take, if_pos (by omega)] at h1
    simpa using h1
/-- append of one number to a list of those that wait -/
theorem LR.app {w : World} {base : Nat} {v : Value} {L : List Int} (h : LR w base v L) (x : Int) (T : Nat) (hT : w.cell? ⟨T, 0, none⟩ = some (.int .i64 x)) (hl : L.length ≤ 17592186043904) (hbase : base ≤ w.heap.size) :
    ∃ v' w', (Builtin.append_ #[22, 22] 22 #[v, .slice (some ⟨T, 0, none⟩) 1 1]).run Try.prog w = .ok v' w' ∧ LR w' base v' (L ++ [x]) ∧ w.grownBy w' v.ownBlock ∧ ∃ g, v'.ownBlock = some g ∧ (v.ownBlock = some g ∨ w.heap.size ≤ g) := by
  obtain ⟨i, hi, hz, hsz, hby⟩ := info_parts intinfo
  have hnews : ∀ j u, ([.int .i64 x] : List Value)[j]? = some u → w.cell? ((⟨T, 0, none⟩ : Addr).add j) = some u := by
    intro j u hj
    match j, hj with
    | 0, hj => simp at hj; subst hj; simpa [Addr.add] using hT
    | n + 1, hj => simp at hj
  have h1 : ∀ u ∈ ([.int .i64 x] : List Value), u.oneCell' = true := by
    intro u hu
    simp at hu
    subst hu
    rfl
  rcases h with ⟨rfl, rfl⟩ | ⟨g, off, cap, row, rfl, hg, hh, hoc, hlc, hrow⟩
  · obtain ⟨v', w', hrun, hown, hgr, _⟩ := run_append_own (P := Try.prog) w w.heap.size 22 22 3 i (.int .i64 0) 1 8 Try.underlying22 hi hz hsz hby rfl (by decide) (.slice none 0 0) 0 [] (World.ownsRow_nil _ _ _ _) ⟨T, 0, none⟩ 1 1 [.int .i64 x] rfl hnews h1 (by unfold maxLen; omega) (by omega) (Nat.le_refl _)
    have ho : OI w' w.heap.size v' ([] ++ [x]) := hown
    obtain ⟨hlr, g, hg1, hg2⟩ := LR.of_own (OI.mono ho hbase) (by simp)
    obtain ⟨_, g', hg1', hg2'⟩ := LR.of_own ho (by simp)
    exact ⟨v', w', hrun, hlr, hgr, g', hg1', .inr hg2'⟩
  · by_cases hroom : L.length + 1 ≤ cap
    · have hcell : ∀ j, j < off + cap → w.cell? ⟨g, j, none⟩ = row[j]? := fun j hj => cell_of_row w g j _ _ _ hh
      have hsome : (w.cell? ⟨g, off + L.length, none⟩).isSome = true := by
        rw [hcell _ (by omega), Array.getElem?_eq_getElem (by omega)]
        rfl
      have hrun := run_append_room_cells (P := Try.prog) w 22 22 3 i Try.underlying22 hi g off L.length cap ⟨T, 0, none⟩ 1 1 [.int .i64 x] (by rw [hsz]; rfl) hnews h1 hroom
        (fun j hj => by simp at hj; subst hj; rw [hsz, Nat.mul_one, Nat.add_zero]; exact hsome) (fun j hj => by simp [World.frozen?, hh])
      rw [hsz, Nat.mul_one] at hrun
      refine ⟨_, _, hrun, .inr ⟨g, off, cap, row.setIfInBounds (off + L.length) (.int .i64 x), by simp, hg, ?_, by simpa using hoc, by simpa using hroom, fun j hj => ?_⟩, ?_, g, rfl, .inl rfl⟩
      · exact heap_setCell_same w g (off + L.length) _ _ _ hh
      · rw [List.length_append, List.length_singleton] at hj
        by_cases e : j = L.length
        · subst e
          simp [show off + L.length < row.size by omega]
        · rw [Array.getElem?_setIfInBounds_ne (by omega), hrow j (by omega), List.getElem_append_left (by omega)]
      · exact ⟨rfl, rfl, rfl, by simp [World.setCells], fun k _ hk => heap_setCell_other w ⟨g, off + L.length, none⟩ k _ (fun e => hk (by rw [e]; rfl))⟩
    · obtain ⟨v', w', hrun, hown, hgr⟩ := run_append_arg_grows (P := Try.prog) w 22 22 3 i (.int .i64 0) 1 8 Try.underlying22 hi hz hsz hby rfl (by decide) ⟨g, off, none⟩ L.length cap (ic L) (by rw [ic_len, Nat.mul_one])
        (fun j u hj => by
          have hj' : j < L.length := by have := (List.getElem?_eq_some_iff.1 hj).1; simpa [ic_len] using this
          rw [ic_at L j hj'] at hj
          cases hj
          rw [Addr.add_lit, cell_of_row w g _ _ _ _ hh]
          exact hrow j hj') ⟨T, 0, none⟩ 1 1 [.int .i64 x] rfl hnews (by omega) (by unfold maxLen; omega) (by omega)
      have ho : OI w' w.heap.size v' (L ++ [x]) := by
        unfold OI
        rw [ic_app, List.length_append]
        exact hown
      obtain ⟨hlr, _⟩ := LR.of_own (OI.mono ho hbase) (by simp)
      obtain ⟨_, g', hg1', hg2'⟩ := LR.of_own ho (by simp)
      exact ⟨v', w', hrun, hlr, ⟨hgr.os, hgr.tape, hgr.output, hgr.size, fun k hk _ => hgr.block k hk (by simp)⟩, g', hg1', .inr hg2'⟩
end Go.Proofs.Ytogbmldplgondac
