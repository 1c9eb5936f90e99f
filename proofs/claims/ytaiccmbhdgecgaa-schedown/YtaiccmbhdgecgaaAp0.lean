/-
  Several lists in blocks of the call's own, told apart by colours: no two colours share a block.
-/
import Derived.Test.YtaiccmbhdgecgaaRows
import Derived.WalkKit
import Derived.RowKit
import Derived.Below
import Derived.Maps.AppendAt
import Derived.Laws.AppendOwnNone
import Derived.Laws.OwnMore
import Derived.Lib.Builder
import Derived.Lib.BufferMore
namespace Go.Proofs.Ytaiccmbhdgecgaa
open Go.RowKit
set_option maxRecDepth 100000

/-- behind an append the elder slice reads as it read -/
theorem run_append_keep {P : Program} (w : World) (base : Nat) (t ty e : TypeId) (i : TypeInfo) (z : Value) (size bytes : Nat) (ht : P.underlying t = some (.slice e)) (hi : P.info? e = some i) (hz : i.zero = some z)
    (hsize : i.size = size) (hby : i.bytes = bytes) (hzs : z.cells.size = size) (hsz : 0 < size) (v : Value) (n : Nat) (xs : List Value) (hown : w.ownsRow base e size v n xs)
    (a : Addr) (m c : Nat) (news : List Value) (hl : news.length = m * size) (hnews : ∀ j u, news[j]? = some u → w.cell? (a.add j) = some u) (h1 : ∀ u ∈ news, u.oneCell' = true)
    (h63 : n + m ≤ maxLen) (hbytes : (n + m) * bytes ≤ 140737488355328) (hbase : base ≤ w.heap.size) :
    ∃ v' w', (Builtin.append_ #[t, t] ty #[v, .slice (some a) m c]).run P w = .ok v' w' ∧ w'.ownsRow base e size v' (n + m) (xs ++ news) ∧ w.grownBy w' v.ownBlock ∧
      (v'.ownBlock = v.ownBlock ∨ v'.ownBlock = some w.heap.size) ∧ w'.ownsRow base e size v n xs := by
  obtain ⟨v', w', hr, h2, h3, _, h5⟩ := run_append_own_at (P := P) w base t ty e i z size bytes ht hi hz hsize hby hzs hsz v n xs hown a m c news hl hnews h1 h63 hbytes hbase
  refine ⟨v', w', hr, h2, h3, h5, hown.1, ?_⟩
  subst hsize hby
  rcases hown.2 with h0 | ⟨g, cap, cur, rfl, hbg, hg, hnc, hcm, hcs, htake⟩
  · exact .inl h0
  right
  by_cases hroom : n + m ≤ cap
  · have hfit : n * i.size + news.length ≤ cur.size := by rw [hl, hcs, ← Nat.add_mul]; exact Nat.mul_le_mul_right _ hroom
    have hq := hr.symm.trans (run_append_room (P := P) w t ty e i ht hi g n cap cur hg a m c news hl hnews h1 hroom hfit)
    cases hq
    refine ⟨g, cap, _, rfl, hbg, setRow_heap w g cur _ e _ hg, hnc, hcm, ?_, ?_⟩
    · simp only [List.size_toArray, List.length_append, List.length_take, List.length_drop, Array.length_toList]
      omega
    · have hlen : xs.length = n * i.size := hown.1
      simp only [htake, List.append_assoc]
      rw [← hlen]
      exact List.take_left
  · have holds : ∀ j u, xs[j]? = some u → w.cell? ((⟨g, 0, none⟩ : Addr).add j) = some u := hown.cells (g := g) rfl
    have hq := hr.symm.trans (run_append_grow (P := P) w t ty e i z ht hi hz ⟨g, 0, none⟩ n cap xs hown.1 holds a m c news hl hnews (by omega) (by simp only [maxLen] at h63; omega) (growslice_fits (by omega) hbytes))
    cases hq
    exact ⟨g, cap, cur, rfl, hbg, (by rw [heap_alloc_old w.drew]; (· exact hg); exact (Array.getElem?_eq_some_iff.1 hg).1), hnc, hcm, hcs, htake⟩

/-- a list in a block of the call's own, of colour c -/
def Ow {α : Type} (enc : α → List Value) (k : Nat) (t : TypeId) (col : Nat → Nat) (c : Nat) (w : World) (base : Nat) (v : Value) (L : List α) : Prop :=
  w.ownsRow base t k v L.length (L.flatMap enc) ∧ ∀ g, v.ownBlock = some g → col g = c
section
variable {α : Type} {enc : α → List Value} {k : Nat} {t : TypeId} {col col' : Nat → Nat} {c c' : Nat} {w w' : World} {base : Nat} {v : Value} {L : List α}
theorem fl_len (hk : ∀ x, (enc x).length = k) (L : List α) : (L.flatMap enc).length = L.length * k := by
  induction L with
  | nil => simp
  | cons x t ih => simp [List.flatMap_cons, hk, ih, Nat.add_mul]; omega
theorem fl_at (hk : ∀ x, (enc x).length = k) : ∀ (L : List α) (i : Nat) (hi : i < L.length) (j : Nat), j < k → (L.flatMap enc)[i * k + j]? = (enc L[i])[j]?
  | x :: t, 0, _, j, hj => by
    rw [List.flatMap_cons, List.getElem?_append_left (by rw [hk]; omega)]
    simp
  | x :: t, i + 1, hi, j, hj => by
    rw [List.flatMap_cons, List.getElem?_append_right (by rw [hk, Nat.add_mul, Nat.one_mul]; omega), hk, show (i + 1) * k + j - k = i * k + j by rw [Nat.add_mul, Nat.one_mul]; omega, fl_at hk t i (by simpa using hi) j hj]
    simp
theorem Ow.nil (col : Nat → Nat) (c : Nat) (w : World) (base : Nat) : Ow enc k t col c w base (.slice none 0 0) ([] : List α) := ⟨World.ownsRow_nil _ _ _ _, fun g h => by simp [Value.ownBlock] at h⟩
theorem Ow.len (h : Ow enc k t col c w base v L) : ∃ ao cap, v = .slice ao L.length cap ∧ L.length ≤ cap ∧ L.length ≤ maxLen := by
  rcases h.1.2 with ⟨rfl, h0⟩ | ⟨g, cap, cur, rfl, _, _, h1, h2, _⟩
  · rw [h0]; exact ⟨none, 0, rfl, Nat.le_refl _, Nat.zero_le _⟩
  · exact ⟨_, cap, rfl, h1, Nat.le_trans h1 h2⟩
theorem Ow.lt (h : Ow enc k t col c w base v L) : ∀ g, v.ownBlock = some g → base ≤ g ∧ g < w.heap.size := fun g hg => World.ownsRow.lt h.1 g hg
theorem Ow.at (hk : ∀ x, (enc x).length = k) (h : Ow enc k t col c w base v L) (i : Nat) (hi : i < L.length) :
    ∃ g cap, v = .slice (some ⟨g, 0, none⟩) L.length cap ∧ L.length ≤ cap ∧ base ≤ g ∧ g < w.heap.size ∧ col g = c ∧ (∀ j u, (enc L[i])[j]? = some u → w.cell? ⟨g, i * k + j, none⟩ = some u) ∧ ∀ o, w.frozen? ⟨g, o, none⟩ = false := by
  have hc := fun g hg => World.ownsRow.cells h.1 (g := g) hg
  rcases h.1.2 with ⟨rfl, h0⟩ | ⟨g, cap, cur, rfl, hb, hg, h1, _⟩
  · omega
  · refine ⟨g, cap, rfl, h1, hb, (Array.getElem?_eq_some_iff.1 hg).1, h.2 g rfl, fun j u hj => ?_, fun o => Lib.frozen_of_heap hg o⟩
    have hjk : j < k := by have := (List.getElem?_eq_some_iff.1 hj).1; rwa [hk] at this
    have := hc g rfl (i * k + j) u (by rw [fl_at hk L i hi j hjk]; exact hj)
    rw [Addr.add_lit, Nat.zero_add] at this
    exact this
theorem Ow.at' (hk : ∀ x, (enc x).length = k) (h : Ow enc k t col c w base v L) (i : Nat) (hi : i < L.length) :
    ∃ g cap, v = .slice (some ⟨g, 0, none⟩) L.length cap ∧ L.length ≤ cap ∧ base ≤ g ∧ g < w.heap.size ∧ col g = c ∧ (∀ j u, (enc L[i])[j]? = some u → w.cell? ⟨g, i * k + j, none⟩ = some u) ∧ (∀ o, w.frozen? ⟨g, o, none⟩ = false) ∧ ∃ cur, w.heap[g]? = some (.cells cur t (0, 0)) := by
  obtain ⟨g, cap, hv, h1, h2, h3, h4, h5, h6⟩ := h.at hk i hi
  subst hv
  rcases h.1.2 with ⟨h0, _⟩ | ⟨g', cap', cur, hv, _, hg, _⟩
  · cases h0
  · cases hv
    exact ⟨g, cap, rfl, h1, h2, h3, h4, h5, h6, cur, hg⟩
theorem Ow.recol (h : Ow enc k t col c w base v L) (hc : ∀ g, g < w.heap.size → col' g = col g) : Ow enc k t col' c w base v L := ⟨h.1, fun g hg => by rw [hc g (h.lt g hg).2]; exact h.2 g hg⟩
theorem Ow.later (h : Ow enc k t col c w base v L) (hb : Below w.heap.size w w') : Ow enc k t col c w' base v L :=
  ⟨World.ownsRow.kept h.1 (row := none) ⟨hb.os, hb.tape, hb.output, hb.size, fun k hk _ => hb.block k hk⟩ (by cases v.ownBlock <;> simp), h.2⟩
theorem Ow.alloc (h : Ow enc k t col c w base v L) (o : Obj) : Ow enc k t col c (w.alloc o) base v L := h.later ((Below.refl _ _).alloc (Nat.le_refl _) _)
/-- what another colour's block turns leaves it -/
theorem Ow.other {row : Option Nat} (h : Ow enc k t col c w base v L) (hg : w.grownBy w' row) (hr : ∀ g, row = some g → col g = c') (hne : c ≠ c') : Ow enc k t col c w' base v L := by
  refine ⟨World.ownsRow.kept h.1 hg ?_, h.2⟩
  cases hv : v.ownBlock with
  | none => simp
  | some g =>
    refine .inr fun e => hne ?_
    rw [← h.2 g hv, hr g e.symm]
theorem Ow.lower {base' : Nat} (h : Ow enc k t col c w base v L) (hb : base' ≤ base) : Ow enc k t col c w base' v L := by
  refine ⟨⟨h.1.1, ?_⟩, h.2⟩
  rcases h.1.2 with h2 | ⟨g, cap, cur, hv, hg, r⟩
  · exact .inl h2
  · exact .inr ⟨g, cap, cur, hv, Nat.le_trans hb hg, r⟩
/-- one element more, or several: the new slice, the elder one, the colours: as an equation -/
theorem run_appC {st : TypeId} {z : Value} {bytes : Nat} (inf : (Try.prog.info? t).map (fun i => (i.zero, i.size, i.bytes)) = some (some z, k, bytes)) (hst : Try.prog.underlying st = some (.slice t)) (hzs : z.cells.size = k) (hk0 : 0 < k) (hk : ∀ x, (enc x).length = k)
    (hown : Ow enc k t col c w base v L) (ad : Addr) (m cp : Nat) (M : List α) (hm : M.length = m) (h1 : ∀ x ∈ M, ∀ u ∈ enc x, u.oneCell' = true) (hnews : ∀ j u, (M.flatMap enc)[j]? = some u → w.cell? (ad.add j) = some u)
    (hlen : (L.length + M.length) * bytes ≤ 140737488355328) (hlen2 : L.length + M.length ≤ maxLen) (hbase : base ≤ w.heap.size) (ty : TypeId) :
    ∃ v' w' col', (Builtin.append_ #[st, st] ty #[v, .slice (some ad) m cp]).run Try.prog w = .ok v' w' ∧ Ow enc k t col' c w' base v' (L ++ M) ∧ Ow enc k t col' c w' base v L ∧ w.grownBy w' v.ownBlock ∧ (∀ g, g < w.heap.size → col' g = col g) := by
  obtain ⟨i, hi, hz, hsz, hby⟩ := info_parts inf
  subst hm
  obtain ⟨v', w', hr, h2, h3, h5, h6⟩ := run_append_keep (P := Try.prog) w base st ty t i z k bytes hst hi hz hsz hby hzs hk0 v L.length (L.flatMap enc) hown.1 ad M.length cp (M.flatMap enc) (fl_len hk M) hnews (fun u hu => by obtain ⟨y, hy1, hy⟩ := List.mem_flatMap.1 hu; exact h1 y hy1 u hy) hlen2 hlen hbase
  exact ⟨v', w', (fun g => if g = w.heap.size then c else col g), hr, ⟨by rw [List.flatMap_append, List.length_append]; exact h2, fun g hg => by
      rcases h5 with h5 | h5
      · rw [h5] at hg
        have := (hown.lt g hg).2
        show (if g = w.heap.size then c else col g) = c
        rw [if_neg (by omega)]
        exact hown.2 g hg
      · rw [h5] at hg
        cases hg
        show (if w.heap.size = w.heap.size then c else col w.heap.size) = c
        rw [if_pos rfl]⟩, ⟨h6, fun g hg => by have := (hown.lt g hg).2; show (if g = w.heap.size then c else col g) = c; rw [if_neg (by omega)]; exact hown.2 g hg⟩, h3, fun g hg => by show (if g = w.heap.size then c else col g) = col g; rw [if_neg (by omega)]⟩
/-- at the operation -/
theorem wpList_appC {st : TypeId} {z : Value} {bytes : Nat} (inf : (Try.prog.info? t).map (fun i => (i.zero, i.size, i.bytes)) = some (some z, k, bytes)) (hst : Try.prog.underlying st = some (.slice t)) (hzs : z.cells.size = k) (hk0 : 0 < k) (hk : ∀ x, (enc x).length = k)
    {ops : Array Oper} {rest : List Oper} {o : Oper} {a : Act} {Q : Exit → Act → World → Prop} (hgd : o.guard = none) (s x : Operand)
    (ho : o.op = .call { callee := .builtin .append, args := #[s, x], argTypes := #[st, st] })
    (hs : a.eval s = v) (hown : Ow enc k t col c w base v L) (ad : Addr) (m cp : Nat) (M : List α) (hx : a.eval x = .slice (some ad) m cp) (hm : M.length = m) (h1 : ∀ x ∈ M, ∀ u ∈ enc x, u.oneCell' = true) (hnews : ∀ j u, (M.flatMap enc)[j]? = some u → w.cell? (ad.add j) = some u)
    (hlen : (L.length + M.length) * bytes ≤ 140737488355328) (hlen2 : L.length + M.length ≤ maxLen) (hbase : base ≤ w.heap.size)
    (h : ∀ v' w' col', Ow enc k t col' c w' base v' (L ++ M) → Ow enc k t col' c w' base v L → w.grownBy w' v.ownBlock → (∀ g, v.ownBlock = some g → col g = c) → (∀ g, g < w.heap.size → col' g = col g) → wpList Try.prog ops Q rest (a.put o.dst v') w') : wpList Try.prog ops Q (o :: rest) a w := by
  refine wpList_plain hgd fun K hK => ?_
  obtain ⟨v', w', col', hr, h2, h3, h4, h5⟩ := run_appC inf hst hzs hk0 hk hown ad m cp M hm h1 hnews hlen hlen2 hbase o.type
  have hfin := h v' w' col' h2 h3 h4 hown.2 h5
  unfold Oper.wp execOp
  simp only [ho, resolve, invoke, builtin, Sem.run_bind, Sem.run_pure, Result.andThen_ok, List.map_toArray, List.map_cons, List.map_nil, hs, hx, hr]
  exact hK _ _ hfin
/-- an append in a region that draws, by its equation -/
theorem step_appC {st : TypeId} {ops : Array Oper} {o : Oper} {a : Act} {w w' : World} {K : Act → World → Prop} {Q : Exit → Act → World → Prop} {E : Prop} {v xv v' : Value}
    (hg : o.guard = none) (s x : Operand) (hop : o.op = Op.call { callee := Callee.builtin Builtin.append, args := #[s, x], argTypes := #[st, st] })
    (hs : a.eval s = v) (hx : a.eval x = xv) (hrun : (Builtin.append_ #[st, st] o.type #[v, xv]).run Try.prog w = .ok v' w') (hK : K (a.put o.dst v') w') :
    if Region.wanted o (yielded ops a.tmps) = true then Oper.wp Try.prog o a w K Q else E := by
  have hw : Region.wanted o (yielded ops a.tmps) = true := by simp [Region.wanted, hg]
  rw [if_pos hw]
  unfold Oper.wp
  simp [execOp, hop, resolve, invoke, builtin, hs, hx, hrun, Result.andThen]
  exact hK
theorem fl_set (hk : ∀ x, (enc x).length = k) (L : List α) (i : Nat) (hi : i < L.length) (x : α) (q : Nat) : ((L.set i x).flatMap enc)[q]? = if i * k ≤ q ∧ q < i * k + k then (enc x)[q - i * k]? else (L.flatMap enc)[q]? := by
  by_cases hq : q < L.length * k
  · have hk0 : 0 < k := by rcases Nat.eq_zero_or_pos k with h | h; (· subst h; simp at hq); exact h
    have e : q = q / k * k + q % k := by rw [Nat.mul_comm]; exact (Nat.div_add_mod q k).symm
    have hd : q / k < L.length := by rw [Nat.div_lt_iff_lt_mul hk0]; exact hq
    have hmod := Nat.mod_lt q hk0
    have l1 := fl_at hk (L.set i x) (q / k) (by simpa using hd) (q % k) hmod
    have l2 := fl_at hk L (q / k) hd (q % k) hmod
    rw [← e] at l1 l2
    rw [l1]
    by_cases he : i = q / k
    · rw [if_pos ⟨by rw [he]; omega, by rw [he]; omega⟩]
      subst he
      rw [List.getElem_set_self]
      congr 1
      omega
    · rw [List.getElem_set_ne he, ← l2, if_neg ?_]
      rintro ⟨h1, h2⟩
      apply he
      have h3 : i ≤ q / k := by rw [Nat.le_div_iff_mul_le hk0]; exact h1
      have h4 : q / k < i + 1 := by rw [Nat.div_lt_iff_lt_mul hk0, Nat.add_mul, Nat.one_mul]; exact h2
      omega
  · rw [List.getElem?_eq_none (by rw [fl_len hk, List.length_set]; omega), if_neg ?_, List.getElem?_eq_none (by rw [fl_len hk]; omega)]
    rintro ⟨_, h2⟩
    have : i * k + k ≤ L.length * k := by rw [← Nat.succ_mul]; exact Nat.mul_le_mul_right k hi
    omega
/-- an element written over, two cells each -/
theorem Ow.set2 {e2 : α → List Value} (h : Ow e2 2 t col c w base v L) (hk : ∀ x, (e2 x).length = 2) (i : Nat) (hi : i < L.length) (x : α) {g n cap : Nat} (hv : v = .slice (some ⟨g, 0, none⟩) n cap) {a b : Value} (hx : e2 x = [a, b]) :
    Ow e2 2 t col c ((w.setCell ⟨g, i * 2, none⟩ a).setCell ⟨g, i * 2 + 1, none⟩ b) base v (L.set i x) := by
  subst hv
  refine ⟨⟨by rw [fl_len hk, List.length_set], ?_⟩, h.2⟩
  rcases h.1.2 with ⟨h0, _⟩ | ⟨g', cap', cur, hv, hb, hg, h1, h2, h3, h4⟩
  · cases h0
  cases hv
  right
  refine ⟨g, cap, _, by rw [List.length_set], hb, Lib.heap_setCell_same (Lib.heap_setCell_same hg _) _, by rw [List.length_set]; exact h1, h2, by simpa using h3, ?_⟩
  rw [List.length_set]
  apply List.ext_getElem?
  intro q
  have hq0 := congrArg (·[q]?) h4
  simp only [List.getElem?_take] at hq0
  rw [fl_set hk L i hi x q, ← hq0, List.getElem?_take, hx]
  have hle : i * 2 + 2 ≤ L.length * 2 := by omega
  have hle2 : L.length * 2 ≤ cur.size := by rw [h3]; exact Nat.mul_le_mul_right 2 h1
  rw [Array.getElem?_toList, Array.getElem?_toList, Array.getElem?_setIfInBounds, Array.getElem?_setIfInBounds]
  by_cases c1 : i * 2 + 1 = q
  · subst c1
    rw [if_pos (by omega), if_pos rfl, if_pos (by simp; omega), if_pos (by omega), show i * 2 + 1 - i * 2 = 1 by omega]
    rfl
  · by_cases c0 : i * 2 = q
    · subst c0
      rw [if_pos (by omega), if_neg c1, if_pos rfl, if_pos (by omega), if_pos (by omega), Nat.sub_self]
      rfl
    · rw [if_neg c1, if_neg c0, if_neg (c := i * 2 ≤ q ∧ q < i * 2 + 2) (by omega), Array.getElem?_toList]
end
theorem gb_set (w : World) (g o : Nat) (u : Value) : w.grownBy (w.setCell ⟨g, o, none⟩ u) (some g) := ⟨rfl, rfl, rfl, by simp, fun i _ hne => Below.heap_setCell _ _ _ _ (by show i ≠ g; intro e; exact hne (by rw [e]))⟩
theorem gb_set2 (w : World) (g o o' : Nat) (u u' : Value) : w.grownBy ((w.setCell ⟨g, o, none⟩ u).setCell ⟨g, o', none⟩ u') (some g) := (gb_set w g o u).trans (gb_set _ g o' u')
/-- slices as cells -/
def eV (v : Value) : List Value := [v]
theorem eV_len (x : Value) : (eV x).length = 1 := rfl
end Go.Proofs.Ytaiccmbhdgecgaa
