/-
  Sheets: a cell ended. Laid by v18.py.
-/
import Derived.Test.YtpgpeafmlijfkaaGreatDoorSq4
import Derived.Deep.RegionLaw
namespace Go.Proofs.YtpgpeafmlijfkaaGreatDoor
open Go.RowKit
set_option maxRecDepth 100000
set_option linter.unusedVariables false
set_option linter.unusedSimpArgs false

theorem si : (Tryz.prog.info? 9).map (fun i => (i.zero, i.size, i.bytes)) = some (some (.string ⟨#[]⟩), 1, 16) := by kernel_rfl
theorem ssi : (Tryz.prog.info? 28).map (fun i => (i.zero, i.size, i.bytes)) = some (some (.slice none 0 0), 1, 24) := by kernel_rfl
theorem set_grown (w : World) (b j : Nat) (u : Value) : w.grownBy (w.setCell ⟨b, j, none⟩ u) (some b) := by
  have hs := (Below.refl 0 w).setCell (p := ⟨b, j, none⟩) (Nat.zero_le _) u
  exact ⟨hs.os, hs.tape, hs.output, hs.size, fun k hk hne => Below.heap_setCell _ _ _ _ (by show k ≠ b; rintro rfl; exact hne rfl)⟩
/-- an append in a region that draws, by its equation -/
theorem step_app {st : TypeId} {ops : Array Oper} {o : Oper} {a : Act} {w w' : World} {K : Act → World → Prop} {Q : Exit → Act → World → Prop} {E : Prop} {v xv v' : Value}
    (hg : o.guard = none) (s x : Operand) (hop : o.op = Op.call { callee := Callee.builtin Builtin.append, args := #[s, x], argTypes := #[st, st] })
    (hs : a.eval s = v) (hx : a.eval x = xv) (hrun : (Builtin.append_ #[st, st] o.type #[v, xv]).run Tryz.prog w = .ok v' w') (hK : K (a.put o.dst v') w') :
    if Region.wanted o (yielded ops a.tmps) = true then Oper.wp Tryz.prog o a w K Q else E := by
  have hw : Region.wanted o (yielded ops a.tmps) = true := by simp [Region.wanted, hg]
  rw [if_pos hw]
  unfold Oper.wp
  simp [execOp, hop, resolve, invoke, builtin, hs, hx, hrun, Result.andThen]
  exact hK

set_option maxHeartbeats 4000000 in
theorem rowEnd_of (b : Nat) {v0 v1 v2 v3 v4 v5 v6 v7 v8 v9 v10 v11 v12 v13 v14 v15 v16 v17 : Value} (l : List UInt8) (cs : List (List UInt8)) (w W1 : World) (h : R18 w b v0 v1 v2 v3 v4 v5 v6 v7 v8 v9 v10 v11 v12 v13 v14 v15 v16 v17)
    (hs : Calls Tryz.prog 66 #[.pointer (some ⟨b, 10, none⟩)] w.drew fun e w' => e = .returned (.string ⟨l.toArray⟩) ∧ w' = W1)
    (h1 : R18 W1 b v0 v1 v2 v3 v4 v5 v6 v7 v8 v9 v10 v11 v12 v13 v14 v15 v16 v17) (ho : W1.ownsRow 0 9 1 v12 cs.length (tl cs)) (hlen : cs.length ≤ 1000000) :
    Calls Tryz.prog 98 #[.pointer (some ⟨b, 10, none⟩)] w fun e w' => e = .returned (.tuple #[]) ∧ ∃ u, R18 w' b v0 v1 v2 v3 v4 v5 v6 v7 v8 v9 (.pointer none) (.slice none 0 0) u v13 v14 v15 v16 v17 ∧ w'.ownsRow 0 9 1 u (cs.length + 1) (tl (cs ++ [l])) ∧ (∀ k, k < W1.heap.size → k ≠ b → v12.ownBlock ≠ some k → w'.heap[k]? = W1.heap[k]?) ∧ (u.ownBlock = v12.ownBlock ∨ ∃ g, u.ownBlock = some g ∧ W1.heap.size ≤ g) ∧ w'.os = W1.os ∧ w'.tape = W1.tape ∧ w'.output = W1.output ∧ W1.heap.size ≤ w'.heap.size := by
  have hne : v12.ownBlock ≠ some b := own_ne ho h1 (by decide)
  obtain ⟨ao, cp, rfl⟩ := own_slice ho
  obtain ⟨i, hi, hz, hsz, hby⟩ := info_parts si
  obtain ⟨W2, hW2⟩ : ∃ W2, W2 = W1.alloc (.cells #[.string ⟨l.toArray⟩] 9) := ⟨_, rfl⟩
  have h2 : R18 W2 b v0 v1 v2 v3 v4 v5 v6 v7 v8 v9 v10 v11 (.slice ao cs.length cp) v13 v14 v15 v16 v17 := hW2 ▸ h1.alloc _
  have hn2 : W2.heap[W1.heap.size]? = some (.cells #[.string ⟨l.toArray⟩] 9 (0, 0)) := hW2 ▸ heap_alloc_new _ _
  have ho2 : W2.ownsRow 0 9 1 (.slice ao cs.length cp) cs.length (tl cs) := hW2 ▸ ho.alloc _
  have hz2 : W2.heap.size = W1.heap.size + 1 := by rw [hW2]; simp
  obtain ⟨v', w3, hrun, hown, hgrow, _, hblk⟩ := run_append_own_at (P := Tryz.prog) W2 0 28 28 9 i _ 1 16 Tryz.underlying28 hi hz hsz hby rfl (by decide) _ _ _ ho2 ⟨W1.heap.size, 0, none⟩ 1 1 [.string ⟨l.toArray⟩] rfl (by
    intro j u hj
    match j, hj with
    | 0, hj => simp at hj; subst hj; rw [Addr.add_lit, Lib.cell_of_heap hn2]; rfl) (by intro u hu; simp at hu; subst hu; rfl) (by unfold maxLen; omega) (by omega) (Nat.zero_le _)
  obtain ⟨ao', cap', rfl⟩ := own_slice hown
  have h3 : R18 w3 b v0 v1 v2 v3 v4 v5 v6 v7 v8 v9 v10 v11 (.slice ao cs.length cp) v13 v14 v15 v16 v17 := (hgrow.block b (by have := h1.lt; omega) (fun e => hne e.symm)).trans h2
  have c12a : w.drew.cell? ⟨b, 12, none⟩ = some (.slice ao cs.length cp) := h.c12
  have c12b := h1.c12
  have c12c := h2.c12
  have f12 := h3.fr 12
  have d12 := h3.c12
  have HS := hid hs
  have H3 := hid h3
  have HO := hid hown
  have HGr := hid hgrow
  have HB := hid hblk
  have HW2 := hid hW2
  have h4 : R18 (w3.setCell ⟨b, 12, none⟩ (.slice ao' (cs.length + 1) cap')) b v0 v1 v2 v3 v4 v5 v6 v7 v8 v9 v10 v11 (.slice ao' (cs.length + 1) cap') v13 v14 v15 v16 v17 := h3.put12 _
  have HRs := hid (reset_raw b _ h4)
  have q1 := set_grown w3 b 12 (.slice ao' (cs.length + 1) cap')
  have q2 := set_grown (w3.setCell ⟨b, 12, none⟩ (.slice ao' (cs.length + 1) cap')) b 10 (.pointer none)
  have q3 := set_grown ((w3.setCell ⟨b, 12, none⟩ (.slice ao' (cs.length + 1) cap')).setCell ⟨b, 10, none⟩ (.pointer none)) b 11 (.slice none 0 0)
  have hne3 : (Value.slice ao' (cs.length + 1) cap').ownBlock ≠ some b := own_ne hown h3 (by decide)
  have hfin : ∃ u, R18 (((w3.setCell ⟨b, 12, none⟩ (.slice ao' (cs.length + 1) cap')).setCell ⟨b, 10, none⟩ (.pointer none)).setCell ⟨b, 11, none⟩ (.slice none 0 0)) b v0 v1 v2 v3 v4 v5 v6 v7 v8 v9 (.pointer none) (.slice none 0 0) u v13 v14 v15 v16 v17 ∧ World.ownsRow (((w3.setCell ⟨b, 12, none⟩ (.slice ao' (cs.length + 1) cap')).setCell ⟨b, 10, none⟩ (.pointer none)).setCell ⟨b, 11, none⟩ (.slice none 0 0)) 0 9 1 u (cs.length + 1) (tl (cs ++ [l])) ∧ (∀ k, k < W1.heap.size → k ≠ b → (Value.slice ao cs.length cp).ownBlock ≠ some k → (((w3.setCell ⟨b, 12, none⟩ (.slice ao' (cs.length + 1) cap')).setCell ⟨b, 10, none⟩ (.pointer none)).setCell ⟨b, 11, none⟩ (.slice none 0 0)).heap[k]? = W1.heap[k]?) ∧ (u.ownBlock = (Value.slice ao cs.length cp).ownBlock ∨ ∃ g, u.ownBlock = some g ∧ W1.heap.size ≤ g) ∧ (((w3.setCell ⟨b, 12, none⟩ (.slice ao' (cs.length + 1) cap')).setCell ⟨b, 10, none⟩ (.pointer none)).setCell ⟨b, 11, none⟩ (.slice none 0 0)).os = W1.os ∧ (((w3.setCell ⟨b, 12, none⟩ (.slice ao' (cs.length + 1) cap')).setCell ⟨b, 10, none⟩ (.pointer none)).setCell ⟨b, 11, none⟩ (.slice none 0 0)).tape = W1.tape ∧ (((w3.setCell ⟨b, 12, none⟩ (.slice ao' (cs.length + 1) cap')).setCell ⟨b, 10, none⟩ (.pointer none)).setCell ⟨b, 11, none⟩ (.slice none 0 0)).output = W1.output ∧ W1.heap.size ≤ (((w3.setCell ⟨b, 12, none⟩ (.slice ao' (cs.length + 1) cap')).setCell ⟨b, 10, none⟩ (.pointer none)).setCell ⟨b, 11, none⟩ (.slice none 0 0)).heap.size := by
    have hg0 := hgrow.size
    refine ⟨_, (h4.put10 _).put11 _, ?_, ?_, ?_, ?_, ?_, ?_, ?_⟩
    · rw [tl_snoc]
      exact own_keep (own_keep (own_keep hown q1 hne3) q2 hne3) q3 hne3
    · intro k hk hkb hkv
      rw [q3.block k (by have := q1.size; have := q2.size; omega) (fun e => hkb (by cases e; rfl)), q2.block k (by have := q1.size; omega) (fun e => hkb (by cases e; rfl)), q1.block k (by omega) (fun e => hkb (by cases e; rfl)), hgrow.block k (by omega) (fun e => hkv e.symm), hW2]
      exact Lib.alloc_old W1 _ k hk
    · rcases hblk with hb | hb
      · exact .inl hb
      · exact .inr ⟨_, hb, by omega⟩
    · rw [q3.os, q2.os, q1.os, hgrow.os, hW2]; rfl
    · rw [q3.tape, q2.tape, q1.tape, hgrow.tape, hW2]; rfl
    · rw [q3.output, q2.output, q1.output, hgrow.output, hW2]; rfl
    · have := q1.size
      have := q2.size
      have := q3.size
      omega
  have HFin := hid hfin
  clear hfin q1 q2 q3
  subst hW2
  clear h h1 h2 h3 h4 hs ho ho2 hown hgrow hblk hn2
  go_enter Tryz.func98, Tryz.ntmps98
  go_wp2_with fail
  go_region_law (first | (with_reducible change (if Region.wanted { dst := some 10, op := _, type := _, pos := _, after := _, guard := _ } _ = true then _ else _); go_simp; go_wp2_with (go_at_call 66; refine Calls.mono HS.out ?_; rintro e w' ⟨rfl, rfl⟩)) | refine step_app rfl (.tmp 6) (.tmp 11) rfl rfl rfl hrun ?_)
  all_goals
    go_wp2_with fail
    refine Calls.mono HRs.out ?_
    rintro e w'' ⟨rfl, rfl⟩
    go_wp2
    go_end0
    exact ⟨rfl, HFin.out⟩
end Go.Proofs.YtpgpeafmlijfkaaGreatDoor
