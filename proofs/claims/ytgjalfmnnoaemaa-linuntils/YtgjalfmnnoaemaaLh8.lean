/-
  lin: twins: lists that grow beside a list of ops (pure), append, an op's block written over.
-/
import Derived.Test.YtgjalfmnnoaemaaLh4
import Derived.Test.YtgjalfmnnoaemaaLh6
import Derived.Maps.AppendAt
import Derived.Lib.BufferMore
import Derived.Great.BuildSlice
import Derived.Great.FillDense
namespace Go.Proofs.Ytgjalfmnnoaemaa
open Go.RowKit
set_option maxRecDepth 100000

/-- append of what a slice reads as, nil or not -/
theorem wpList_appX {e st : TypeId} {z : Value} {size bytes : Nat} (inf : (Try.prog.info? e).map (fun i => (i.zero, i.size, i.bytes)) = some (some z, size, bytes)) (hst : Try.prog.underlying st = some (.slice e)) (hzs : z.cells.size = size) (hk0 : 0 < size)
    {w : World} {ops : Array Oper} {rest : List Oper} {o : Oper} {a : Act} {Q : Exit → Act → World → Prop} (hgd : o.guard = none) (s x : Operand)
    (ho : o.op = .call { callee := .builtin .append, args := #[s, x], argTypes := #[st, st] })
    (base : Nat) (v : Value) (n : Nat) (xs : List Value) (hs : a.eval s = v) (hown : w.ownsRow base e size v n xs) (xv : Value) (m : Nat) (news : List Value) (hx : a.eval x = xv) (hl : news.length = m * size)
    (hr : (xv = .slice none 0 0 ∧ m = 0) ∨ ∃ ad cp, xv = .slice (some ad) m cp ∧ ∀ j u, news[j]? = some u → w.cell? (ad.add j) = some u) (h1 : ∀ u ∈ news, u.oneCell' = true)
    (h63 : n + m ≤ maxLen) (hbytes : (n + m) * bytes ≤ 140737488355328) (hbase : base ≤ w.heap.size)
    (h : ∀ v' w', w'.ownsRow base e size v' (n + m) (xs ++ news) → w.grownBy w' v.ownBlock → (v'.ownBlock = v.ownBlock ∨ v'.ownBlock = some w.heap.size) → wpList Try.prog ops Q rest (a.put o.dst v') w') : wpList Try.prog ops Q (o :: rest) a w := by
  obtain ⟨i, hi, hz, hsz, hby⟩ := info_parts inf
  rcases hr with ⟨hv, rfl⟩ | ⟨ad, cp, hv, hnews⟩
  · have hn : news = [] := List.eq_nil_of_length_eq_zero (by omega)
    subst hn
    refine wpList_append_own_none hgd s x st ho base e i size hst hi v n xs hs hown (hx.trans hv) ?_
    exact h v w (by rw [List.append_nil, Nat.add_zero]; exact hown) ⟨rfl, rfl, rfl, Nat.le_refl _, fun _ _ _ => rfl⟩ (.inl rfl)
  · exact wpList_append_own_at w hgd s x st ho base e i z size bytes hst hi hz hsz hby hzs hk0 v n xs hs hown ad m cp news (hx.trans hv) hl hnews h1 h63 hbytes hbase (fun v' w' a1 a2 _ a4 => h v' w' a1 a2 a4)
theorem own_later {w w' : World} {base : Nat} {e : TypeId} {size : Nat} {v : Value} {n : Nat} {xs : List Value} (h : w.ownsRow base e size v n xs) (hb : Below w.heap.size w w') : w'.ownsRow base e size v n xs :=
  World.ownsRow.kept h (row := none) ⟨hb.os, hb.tape, hb.output, hb.size, fun k hk _ => hb.block k hk⟩ (by cases v.ownBlock <;> simp)
theorem news_blk {w : World} {g : Nat} {cs : Array Value} {t : TypeId} {fr : Nat × Nat} (h : w.heap[g]? = some (.cells cs t fr)) : ∀ j u, cs.toList[j]? = some u → w.cell? ((⟨g, 0, none⟩ : Addr).add j) = some u := fun j u hj => by
  rw [Addr.add_lit, Lib.cell_of_heap h, Nat.zero_add]
  simpa using hj
theorem below_put {w0 w : World} {B b o : Nat} {u : Value} (h : Below B w0 w) (hb : B ≤ b) : Below B w0 (w.setCell ⟨b, o, none⟩ u) :=
  ⟨h.os, h.tape, h.output, by rw [World.size_setCell]; exact h.size, fun k hk => by rw [heap_setCell_other _ _ _ _ (show k ≠ b by omega)]; exact h.block k hk⟩
theorem cells_of_vc {w : World} {b off : Nat} {M : List Lv} (h : ∀ j (hj : j < M.length), w.cell? ⟨b, off + j * 3, none⟩ = some (.string M[j].1) ∧ w.cell? ⟨b, off + j * 3 + 1, none⟩ = some (.int .i64 M[j].2.1) ∧ w.cell? ⟨b, off + j * 3 + 2, none⟩ = some (.int .i64 M[j].2.2)) :
    ∀ j u, (vc M)[j]? = some u → w.cell? ((⟨b, off, none⟩ : Addr).add j) = some u := by
  intro j u hu
  have hj : j < M.length * 3 := by
    have := (List.getElem?_eq_some_iff.1 hu).1
    rwa [vc_len] at this
  rw [Addr.add_lit]
  obtain ⟨i, hi⟩ : ∃ i, j = i * 3 ∨ j = i * 3 + 1 ∨ j = i * 3 + 2 := ⟨j / 3, by omega⟩
  have hin : i < M.length := by omega
  have e := vc_at M i hin
  rcases hi with rfl | rfl | rfl
  · rw [e.1] at hu
    cases hu
    exact (h i hin).1
  · rw [e.2.1] at hu
    cases hu
    exact (h i hin).2.1
  · rw [e.2.2] at hu
    cases hu
    exact (h i hin).2.2
theorem RLn.src {w : World} {v : Value} {L : List Ln} (h : RLn w v L) : (v = .slice none 0 0 ∧ L.length = 0) ∨ ∃ ad cp, v = .slice (some ad) L.length cp ∧ ∀ j u, (lc L)[j]? = some u → w.cell? (ad.add j) = some u := by
  rcases h with ⟨rfl, ao, cap, rfl, hc⟩ | ⟨b, off, cap, rfl, _, hcell⟩
  · cases ao with
    | none => obtain rfl := hc rfl; exact .inl ⟨rfl, rfl⟩
    | some ad => exact .inr ⟨ad, cap, rfl, fun j u hj => by simp [lc] at hj⟩
  · exact .inr ⟨_, cap, rfl, cells_of_lc hcell⟩
theorem RLv.src {w : World} {v : Value} {L : List Lv} (h : RLv w v L) : (v = .slice none 0 0 ∧ L.length = 0) ∨ ∃ ad cp, v = .slice (some ad) L.length cp ∧ ∀ j u, (vc L)[j]? = some u → w.cell? (ad.add j) = some u := by
  rcases h with ⟨rfl, ao, cap, rfl, hc⟩ | ⟨b, off, cap, rfl, _, hcell⟩
  · cases ao with
    | none => obtain rfl := hc rfl; exact .inl ⟨rfl, rfl⟩
    | some ad => exact .inr ⟨ad, cap, rfl, fun j u hj => by simp [vc] at hj⟩
  · exact .inr ⟨_, cap, rfl, cells_of_vc hcell⟩
theorem MLn.old {w w' : World} {v : Value} {L : List Ln} (h : MLn w v L) (hk : ∀ g, v.ownBlock = some g → w'.heap[g]? = w.heap[g]?) : MLn w' v L := by
  obtain ⟨g, cap, rfl, hc, h1, h2⟩ := h
  have e := hk g rfl
  have t : ∀ o u, w.cell? ⟨g, o, none⟩ = some u → w'.cell? ⟨g, o, none⟩ = some u := fun o u h => by unfold World.cell? at *; rw [e]; exact h
  exact ⟨g, cap, rfl, hc, fun j hj => ⟨t _ _ (h1 j hj).1, t _ _ (h1 j hj).2⟩, t _ _ h2⟩
theorem MLv.old {w w' : World} {v : Value} {L : List Lv} (h : MLv w v L) (hk : ∀ g, v.ownBlock = some g → w'.heap[g]? = w.heap[g]?) : MLv w' v L := by
  obtain ⟨g, cap, rfl, hc, h1, h2⟩ := h
  have e := hk g rfl
  have t : ∀ o u, w.cell? ⟨g, o, none⟩ = some u → w'.cell? ⟨g, o, none⟩ = some u := fun o u h => by unfold World.cell? at *; rw [e]; exact h
  exact ⟨g, cap, rfl, hc, fun j hj => ⟨t _ _ (h1 j hj).1, t _ _ (h1 j hj).2.1, t _ _ (h1 j hj).2.2⟩, t _ _ h2⟩
theorem MLn.lt {w : World} {v : Value} {L : List Ln} (h : MLn w v L) : ∃ g, v.ownBlock = some g ∧ g < w.heap.size := by
  obtain ⟨g, cap, rfl, hc, h1, h2⟩ := h
  exact ⟨g, rfl, World.block_lt_of_cell? _ _ h2⟩
theorem MLv.lt {w : World} {v : Value} {L : List Lv} (h : MLv w v L) : ∃ g, v.ownBlock = some g ∧ g < w.heap.size := by
  obtain ⟨g, cap, rfl, hc, h1, h2⟩ := h
  exact ⟨g, rfl, World.block_lt_of_cell? _ _ h2⟩
/-- lines with a mark, cut off ahead of it -/
theorem OLn.cut {w : World} {base : Nat} {v : Value} {L : List Ln} {y : Int} (h : OLn w base v (L ++ [(markB, y)])) : ∃ g cap, v = .slice (some ⟨g, 0, none⟩) (L.length + 1) cap ∧ base ≤ g ∧ L.length + 1 ≤ cap ∧ cap ≤ 9223372036854775807 ∧ MLn w (.slice (some ⟨g, 0, none⟩) L.length cap) L := by
  obtain ⟨g, cap, hv, h1, h2, hc⟩ := h.cells (by simp)
  have hl : (L ++ [(markB, y)]).length = L.length + 1 := by simp
  rw [hl] at hv h1
  have hb := World.ownsRow.lt h g (by rw [hv]; rfl)
  refine ⟨g, cap, hv, hb.1, h1, h2, g, cap, rfl, ⟨h1, h2⟩, fun j hj => ?_, ?_⟩
  · have := hc j (by rw [hl]; omega)
    rw [List.getElem_append_left hj] at this
    exact this
  · have := (hc L.length (by rw [hl]; omega)).1
    rw [List.getElem_append_right (Nat.le_refl _)] at this
    simpa using this
theorem OLv.cut {w : World} {base : Nat} {v : Value} {L : List Lv} {y : Int × Int} (h : OLv w base v (L ++ [(markB, y)])) : ∃ g cap, v = .slice (some ⟨g, 0, none⟩) (L.length + 1) cap ∧ base ≤ g ∧ L.length + 1 ≤ cap ∧ cap ≤ 9223372036854775807 ∧ MLv w (.slice (some ⟨g, 0, none⟩) L.length cap) L := by
  obtain ⟨g, cap, hv, h1, h2, hc⟩ := h.cells (by simp)
  have hl : (L ++ [(markB, y)]).length = L.length + 1 := by simp
  rw [hl] at hv h1
  have hb := World.ownsRow.lt h g (by rw [hv]; rfl)
  refine ⟨g, cap, hv, hb.1, h1, h2, g, cap, rfl, ⟨h1, h2⟩, fun j hj => ?_, ?_⟩
  · have := hc j (by rw [hl]; omega)
    rw [List.getElem_append_left hj] at this
    exact this
  · have := (hc L.length (by rw [hl]; omega)).1
    rw [List.getElem_append_right (Nat.le_refl _)] at this
    simpa using this
/-- an op with where its lists lie -/
abbrev Opv := Opx × Value × Value
def encO (y : Opv) : List Value := opC y.1 y.2.1 y.2.2
theorem encO_len (y : Opv) : (encO y).length = 14 := rfl
theorem eo_len (E : List Opv) : (E.flatMap encO).length = E.length * 14 := by
  induction E with
  | nil => rfl
  | cons x t ih => simp [List.flatMap_cons, encO_len, ih]; omega
theorem eo_at : ∀ (E : List Opv) (i : Nat) (_ : i < E.length) (j : Nat), j < 14 → (E.flatMap encO)[i * 14 + j]? = (encO E[i])[j]?
  | x :: t, 0, _, j, hj => by
    rw [List.flatMap_cons, List.getElem?_append_left (by rw [encO_len]; omega)]
    simp
  | x :: t, i + 1, hi, j, hj => by
    rw [List.flatMap_cons, List.getElem?_append_right (by rw [encO_len]; omega), encO_len, show (i + 1) * 14 + j - 14 = i * 14 + j by omega, eo_at t i (by simpa using hi) j hj]
    simp
/-- a list of ops that grows, its ops' lists with marks, in other blocks than it -/
def TE (w : World) (out : Value) (E : List Opv) : Prop := ∀ y ∈ E, MLn w y.2.1 y.1.req.lines ∧ MLv w y.2.2 y.1.rep.levels ∧ y.2.1.ownBlock ≠ out.ownBlock ∧ y.2.2.ownBlock ≠ out.ownBlock
theorem TE.later {w w' : World} {out : Value} {E : List Opv} (h : TE w out E) (hb : Below w.heap.size w w') : TE w' out E := fun y hy => by
  obtain ⟨h1, h2, h3, h4⟩ := h y hy
  exact ⟨h1.below hb, h2.below hb, h3, h4⟩
theorem TE.grow {w w' : World} {out out' : Value} {E : List Opv} (h : TE w out E) (hg : w.grownBy w' out.ownBlock) (ho : out'.ownBlock = out.ownBlock ∨ out'.ownBlock = some w.heap.size) : TE w' out' E := fun y hy => by
  obtain ⟨h1, h2, h3, h4⟩ := h y hy
  obtain ⟨g1, e1, l1⟩ := h1.lt
  obtain ⟨g2, e2, l2⟩ := h2.lt
  refine ⟨h1.old fun g e => ?_, h2.old fun g e => ?_, ?_, ?_⟩
  · rw [e1] at e; cases e
    exact hg.block _ l1 (by rw [← e1]; exact h3)
  · rw [e2] at e; cases e
    exact hg.block _ l2 (by rw [← e2]; exact h4)
  · rcases ho with e | e
    · rw [e]; exact h3
    · rw [e, e1]; intro h; cases h; omega
  · rcases ho with e | e
    · rw [e]; exact h4
    · rw [e, e2]; intro h; cases h; omega
theorem TE.snoc {w : World} {out : Value} {E : List Opv} {y : Opv} (h : TE w out E) (h1 : MLn w y.2.1 y.1.req.lines) (h2 : MLv w y.2.2 y.1.rep.levels) (h3 : y.2.1.ownBlock ≠ out.ownBlock) (h4 : y.2.2.ownBlock ≠ out.ownBlock) : TE w out (E ++ [y]) := fun z hz => by
  rcases List.mem_append.1 hz with hz | hz
  · exact h z hz
  · rw [List.mem_singleton.1 hz]
    exact ⟨h1, h2, h3, h4⟩
/-- the last op of a twin -/
def lastO : Opx := ⟨⟨⟨#[]⟩, 0, [], ⟨#[]⟩, 0, 0⟩, ⟨⟨#[]⟩, 0, 0, [], 0⟩, -7, 0, false⟩
theorem TE.twin {w : World} {base : Nat} {out : Value} {E : List Opv} (h : TE w out E) (ho : w.ownsRow base 35 14 out (E.length + 1) (E.flatMap encO ++ encO (lastO, .slice none 0 0, .slice none 0 0))) :
    ∃ g cap, out = .slice (some ⟨g, 0, none⟩) (E.length + 1) cap ∧ E.length + 1 ≤ cap ∧ cap ≤ 9223372036854775807 ∧ TO w (.slice (some ⟨g, 0, none⟩) E.length cap) (E.map (·.1)) := by
  have hc := fun g hg => World.ownsRow.cells ho (g := g) hg
  rcases ho.2 with ⟨_, h0⟩ | ⟨g, cap, cur, rfl, _, hgg, hn, hm, _⟩
  · omega
  have hm2 : cap ≤ 9223372036854775807 := hm
  refine ⟨g, cap, rfl, hn, hm2, g, cap, by rw [List.length_map], ⟨by rw [List.length_map]; exact hn, hm2⟩, fun j hj => ?_, ?_⟩
  · rw [List.length_map] at hj
    obtain ⟨h1, h2, _⟩ := h E[j] (List.getElem_mem hj)
    rw [List.getElem_map]
    refine ⟨_, _, fun i u hu => ?_, h1, h2⟩
    have hi : i < 14 := by have := (List.getElem?_eq_some_iff.1 hu).1; rwa [opC_len] at this
    have := hc g rfl (j * 14 + i) u (by rw [List.getElem?_append_left (by rw [eo_len]; omega), eo_at E j hj i hi]; exact hu)
    rw [Addr.add_lit, Nat.zero_add] at this
    exact this
  · rw [List.length_map]
    have := hc g rfl (E.length * 14 + 11) (.int .i64 (-7)) (by rw [List.getElem?_append_right (by rw [eo_len]; omega), eo_len, show E.length * 14 + 11 - E.length * 14 = 11 by omega]; rfl)
    rw [Addr.add_lit, Nat.zero_add] at this
    exact this
/-- an op's block, its lines, its levels written over -/
theorem OB.lines {W : World} {b : Nat} {x : Opx} {v1 v2 : Value} (h : OB W b x v1 v2) (u : Value) : OB (W.setCell ⟨b, 2, none⟩ u) b x u v2 := Lib.heap_setCell_same h u
theorem OB.levels {W : World} {b : Nat} {x : Opx} {v1 v2 : Value} (h : OB W b x v1 v2) (u : Value) : OB (W.setCell ⟨b, 9, none⟩ u) b x v1 u := Lib.heap_setCell_same h u
/-- one op as a slice -/
def bsO (parts : Array (Nat × Value)) : Sem Value := Instr.buildSlice 22 1 parts
theorem bsO_op (parts : Array (Nat × Value)) : Instr.buildSlice 22 1 parts = bsO parts := rfl
theorem run_bsO (w : World) (x : Opx) (v1 v2 : Value) : (bsO #[(0, opA x v1 v2)]).run Try.prog w = .ok (.slice (some ⟨w.heap.size, 0, none⟩) 1 1) (w.alloc (.cells (opC x v1 v2).toArray 35)) := by
  obtain ⟨i, hi, hz, hs, _⟩ := info_parts opinfo
  refine run_buildSlice w _ 35 1 _ (opC x v1 v2).toArray i _ Try.underlying22 hi hz (by rw [hs]; decide) (by rw [hs]; decide) ?_
  rw [hs]
  have := Great.fill_whole (s := 14) (by decide) [opA x v1 v2] ((Array.range (1 * 14)).map ((Value.agg opZ).cells[· % (Value.agg opZ).cells.size]!)) (fun v hv => by rw [List.mem_singleton.1 hv]; rfl) (by simp)
  simpa [Value.cells, opA, opZ] using this
end Go.Proofs.Ytgjalfmnnoaemaa
