/-
  Ap0: Several lists in blocks of the call's own, told apart by colours: no two colours share a block.
  Bk0: Books: lists of lists, each in a block of its own colour; an append that keeps every elder slice.
  Bk1: Books: apartInts: each list has memory of its own.
  Bt1: Books: apartTexts: each list of texts has memory of its own. Laid by mkbt1.py.
  Bt2: Books: apartTexts: each list of texts has memory of its own. Laid by mkbt2.py out of Bk1.
  Bn1: Books of rows: an entry with a mark (named).
-/
import Derived.Test.YtpgpeafmlijfkaaGreatDoorRows
import Derived.WalkKit
import Derived.RowKit
import Derived.Below
import Derived.Maps.AppendAt
import Derived.Laws.AppendOwnNone
import Derived.Laws.OwnMore
import Derived.Lib.Builder
import Derived.Lib.BufferMore
import Derived.Deep.LoopGhost
import Derived.Deep.RegionHeld3
import Derived.Deep.DeepCutAuto
import Derived.Deep.CutRange
import Derived.Laws.Strings2
import Derived.Deep.RegionWith
namespace Go.Proofs.YtpgpeafmlijfkaaGreatDoor
open Go.RowKit
set_option maxRecDepth 100000

/-- behind an append the elder slice reads as it read -/
theorem run_append_keep {P : Program} (w : World) (base : Nat) (t ty e : TypeId) (i : TypeInfo) (z : Value) (size bytes : Nat) (ht : P.underlying t = some (.slice e)) (hi : P.info? e = some i) (hz : i.zero = some z)
    (hsize : i.size = size) (hby : i.bytes = bytes) (hzs : z.cells.size = size) (hsz : 0 < size) (v : Value) (n : Nat) (xs : List Value) (hown : w.ownsRow base e size v n xs)
    (a : Addr) (m c : Nat) (news : List Value) (hl : news.length = m * size) (hnews : ∀ j u, news[j]? = some u → w.cell? (a.add j) = some u) (h1 : ∀ u ∈ news, u.oneCell' = true)
    (h63 : n + m ≤ maxLen) (hbytes : (n + m) * bytes ≤ 140737488355328) (hbase : base ≤ w.heap.size) :
    ∃ v' w', (Builtin.append_ #[t, t] ty #[v, .slice (some a) m c]).run P w = .ok v' w' ∧ w'.ownsRow base e size v' (n + m) (xs ++ news) ∧ w.grownBy w' v.ownBlock ∧
      (v'.ownBlock = v.ownBlock ∨ v'.ownBlock = some w.heap.size) ∧ w'.ownsRow base e size v n xs := by
  obtain ⟨v', w', hr, h2, h3, _, h5⟩ := run_append_own_at (P := P) w base t ty e i z size bytes ht hi hz hsize hby hzs hsz v n xs hown a m c news hl hnews h1 h63 hbytes hbase
  refine ⟨v', w', hr, h2, h3, h5, hown.1, ?_⟩
  subst hsize hby
  rcases hown.2 with h0 | ⟨g, cap, cur, rfl, hbg, hg, hnc, hcm, hcs, htake⟩
  · exact .inl h0
  right
  by_cases hroom : n + m ≤ cap
  · have hfit : n * i.size + news.length ≤ cur.size := by rw [hl, hcs, ← Nat.add_mul]; exact Nat.mul_le_mul_right _ hroom
    have hq := hr.symm.trans (run_append_room (P := P) w t ty e i ht hi g n cap cur hg a m c news hl hnews h1 hroom hfit)
    cases hq
    refine ⟨g, cap, _, rfl, hbg, setRow_heap w g cur _ e _ hg, hnc, hcm, ?_, ?_⟩
    · simp only [List.size_toArray, List.length_append, List.length_take, List.length_drop, Array.length_toList]
      omega
    · have hlen : xs.length = n * i.size := hown.1
      simp only [htake, List.append_assoc]
      rw [← hlen]
      exact List.take_left
  · have holds : ∀ j u, xs[j]? = some u → w.cell? ((⟨g, 0, none⟩ : Addr).add j) = some u := hown.cells (g := g) rfl
    have hq := hr.symm.trans (run_append_grow (P := P) w t ty e i z ht hi hz ⟨g, 0, none⟩ n cap xs hown.1 holds a m c news hl hnews (by omega) (by simp only [maxLen] at h63; omega) (growslice_fits (by omega) hbytes))
    cases hq
    exact ⟨g, cap, cur, rfl, hbg, (by rw [heap_alloc_old w.drew]; (· exact hg); exact (Array.getElem?_eq_some_iff.1 hg).1), hnc, hcm, hcs, htake⟩

/-- a list in a block of the call's own, of colour c -/
def Ow {α : Type} (enc : α → List Value) (k : Nat) (t : TypeId) (col : Nat → Nat) (c : Nat) (w : World) (base : Nat) (v : Value) (L : List α) : Prop :=
  w.ownsRow base t k v L.length (L.flatMap enc) ∧ ∀ g, v.ownBlock = some g → col g = c
section
variable {α : Type} {enc : α → List Value} {k : Nat} {t : TypeId} {col col' : Nat → Nat} {c c' : Nat} {w w' : World} {base : Nat} {v : Value} {L : List α}
theorem fl_len (hk : ∀ x, (enc x).length = k) (L : List α) : (L.flatMap enc).length = L.length * k := by
  induction L with
  | nil => simp
  | cons x t ih => simp [List.flatMap_cons, hk, ih, Nat.add_mul]; omega
theorem fl_at (hk : ∀ x, (enc x).length = k) : ∀ (L : List α) (i : Nat) (hi : i < L.length) (j : Nat), j < k → (L.flatMap enc)[i * k + j]? = (enc L[i])[j]?
  | x :: t, 0, _, j, hj => by
    rw [List.flatMap_cons, List.getElem?_append_left (by rw [hk]; omega)]
    simp
  | x :: t, i + 1, hi, j, hj => by
    rw [List.flatMap_cons, List.getElem?_append_right (by rw [hk, Nat.add_mul, Nat.one_mul]; omega), hk, show (i + 1) * k + j - k = i * k + j by rw [Nat.add_mul, Nat.one_mul]; omega, fl_at hk t i (by simpa using hi) j hj]
    simp
theorem Ow.nil (col : Nat → Nat) (c : Nat) (w : World) (base : Nat) : Ow enc k t col c w base (.slice none 0 0) ([] : List α) := ⟨World.ownsRow_nil _ _ _ _, fun g h => by simp [Value.ownBlock] at h⟩
theorem Ow.len (h : Ow enc k t col c w base v L) : ∃ ao cap, v = .slice ao L.length cap ∧ L.length ≤ cap ∧ L.length ≤ maxLen := by
  rcases h.1.2 with ⟨rfl, h0⟩ | ⟨g, cap, cur, rfl, _, _, h1, h2, _⟩
  · rw [h0]; exact ⟨none, 0, rfl, Nat.le_refl _, Nat.zero_le _⟩
  · exact ⟨_, cap, rfl, h1, Nat.le_trans h1 h2⟩
theorem Ow.lt (h : Ow enc k t col c w base v L) : ∀ g, v.ownBlock = some g → base ≤ g ∧ g < w.heap.size := fun g hg => World.ownsRow.lt h.1 g hg
theorem Ow.at (hk : ∀ x, (enc x).length = k) (h : Ow enc k t col c w base v L) (i : Nat) (hi : i < L.length) :
    ∃ g cap, v = .slice (some ⟨g, 0, none⟩) L.length cap ∧ L.length ≤ cap ∧ base ≤ g ∧ g < w.heap.size ∧ col g = c ∧ (∀ j u, (enc L[i])[j]? = some u → w.cell? ⟨g, i * k + j, none⟩ = some u) ∧ ∀ o, w.frozen? ⟨g, o, none⟩ = false := by
  have hc := fun g hg => World.ownsRow.cells h.1 (g := g) hg
  rcases h.1.2 with ⟨rfl, h0⟩ | ⟨g, cap, cur, rfl, hb, hg, h1, _⟩
  · omega
  · refine ⟨g, cap, rfl, h1, hb, (Array.getElem?_eq_some_iff.1 hg).1, h.2 g rfl, fun j u hj => ?_, fun o => Lib.frozen_of_heap hg o⟩
    have hjk : j < k := by have := (List.getElem?_eq_some_iff.1 hj).1; rwa [hk] at this
    have := hc g rfl (i * k + j) u (by rw [fl_at hk L i hi j hjk]; exact hj)
    rw [Addr.add_lit, Nat.zero_add] at this
    exact this
theorem Ow.at' (hk : ∀ x, (enc x).length = k) (h : Ow enc k t col c w base v L) (i : Nat) (hi : i < L.length) :
    ∃ g cap, v = .slice (some ⟨g, 0, none⟩) L.length cap ∧ L.length ≤ cap ∧ base ≤ g ∧ g < w.heap.size ∧ col g = c ∧ (∀ j u, (enc L[i])[j]? = some u → w.cell? ⟨g, i * k + j, none⟩ = some u) ∧ (∀ o, w.frozen? ⟨g, o, none⟩ = false) ∧ ∃ cur, w.heap[g]? = some (.cells cur t (0, 0)) := by
  obtain ⟨g, cap, hv, h1, h2, h3, h4, h5, h6⟩ := h.at hk i hi
  subst hv
  rcases h.1.2 with ⟨h0, _⟩ | ⟨g', cap', cur, hv, _, hg, _⟩
  · cases h0
  · cases hv
    exact ⟨g, cap, rfl, h1, h2, h3, h4, h5, h6, cur, hg⟩
theorem Ow.recol (h : Ow enc k t col c w base v L) (hc : ∀ g, g < w.heap.size → col' g = col g) : Ow enc k t col' c w base v L := ⟨h.1, fun g hg => by rw [hc g (h.lt g hg).2]; exact h.2 g hg⟩
theorem Ow.later (h : Ow enc k t col c w base v L) (hb : Below w.heap.size w w') : Ow enc k t col c w' base v L :=
  ⟨World.ownsRow.kept h.1 (row := none) ⟨hb.os, hb.tape, hb.output, hb.size, fun k hk _ => hb.block k hk⟩ (by cases v.ownBlock <;> simp), h.2⟩
theorem Ow.alloc (h : Ow enc k t col c w base v L) (o : Obj) : Ow enc k t col c (w.alloc o) base v L := h.later ((Below.refl _ _).alloc (Nat.le_refl _) _)
/-- what another colour's block turns leaves it -/
theorem Ow.other {row : Option Nat} (h : Ow enc k t col c w base v L) (hg : w.grownBy w' row) (hr : ∀ g, row = some g → col g = c') (hne : c ≠ c') : Ow enc k t col c w' base v L := by
  refine ⟨World.ownsRow.kept h.1 hg ?_, h.2⟩
  cases hv : v.ownBlock with
  | none => simp
  | some g =>
    refine .inr fun e => hne ?_
    rw [← h.2 g hv, hr g e.symm]
theorem Ow.lower {base' : Nat} (h : Ow enc k t col c w base v L) (hb : base' ≤ base) : Ow enc k t col c w base' v L := by
  refine ⟨⟨h.1.1, ?_⟩, h.2⟩
  rcases h.1.2 with h2 | ⟨g, cap, cur, hv, hg, r⟩
  · exact .inl h2
  · exact .inr ⟨g, cap, cur, hv, Nat.le_trans hb hg, r⟩
/-- one element more, or several: the new slice, the elder one, the colours: as an equation -/
theorem run_appC {st : TypeId} {z : Value} {bytes : Nat} (inf : (Tryz.prog.info? t).map (fun i => (i.zero, i.size, i.bytes)) = some (some z, k, bytes)) (hst : Tryz.prog.underlying st = some (.slice t)) (hzs : z.cells.size = k) (hk0 : 0 < k) (hk : ∀ x, (enc x).length = k)
    (hown : Ow enc k t col c w base v L) (ad : Addr) (m cp : Nat) (M : List α) (hm : M.length = m) (h1 : ∀ x ∈ M, ∀ u ∈ enc x, u.oneCell' = true) (hnews : ∀ j u, (M.flatMap enc)[j]? = some u → w.cell? (ad.add j) = some u)
    (hlen : (L.length + M.length) * bytes ≤ 140737488355328) (hlen2 : L.length + M.length ≤ maxLen) (hbase : base ≤ w.heap.size) (ty : TypeId) :
    ∃ v' w' col', (Builtin.append_ #[st, st] ty #[v, .slice (some ad) m cp]).run Tryz.prog w = .ok v' w' ∧ Ow enc k t col' c w' base v' (L ++ M) ∧ Ow enc k t col' c w' base v L ∧ w.grownBy w' v.ownBlock ∧ (∀ g, g < w.heap.size → col' g = col g) := by
  obtain ⟨i, hi, hz, hsz, hby⟩ := info_parts inf
  subst hm
  obtain ⟨v', w', hr, h2, h3, h5, h6⟩ := run_append_keep (P := Tryz.prog) w base st ty t i z k bytes hst hi hz hsz hby hzs hk0 v L.length (L.flatMap enc) hown.1 ad M.length cp (M.flatMap enc) (fl_len hk M) hnews (fun u hu => by obtain ⟨y, hy1, hy⟩ := List.mem_flatMap.1 hu; exact h1 y hy1 u hy) hlen2 hlen hbase
  exact ⟨v', w', (fun g => if g = w.heap.size then c else col g), hr, ⟨by rw [List.flatMap_append, List.length_append]; exact h2, fun g hg => by
      rcases h5 with h5 | h5
      · rw [h5] at hg
        have := (hown.lt g hg).2
        show (if g = w.heap.size then c else col g) = c
        rw [if_neg (by omega)]
        exact hown.2 g hg
      · rw [h5] at hg
        cases hg
        show (if w.heap.size = w.heap.size then c else col w.heap.size) = c
        rw [if_pos rfl]⟩, ⟨h6, fun g hg => by have := (hown.lt g hg).2; show (if g = w.heap.size then c else col g) = c; rw [if_neg (by omega)]; exact hown.2 g hg⟩, h3, fun g hg => by show (if g = w.heap.size then c else col g) = col g; rw [if_neg (by omega)]⟩
/-- at the operation -/
theorem wpList_appC {st : TypeId} {z : Value} {bytes : Nat} (inf : (Tryz.prog.info? t).map (fun i => (i.zero, i.size, i.bytes)) = some (some z, k, bytes)) (hst : Tryz.prog.underlying st = some (.slice t)) (hzs : z.cells.size = k) (hk0 : 0 < k) (hk : ∀ x, (enc x).length = k)
    {ops : Array Oper} {rest : List Oper} {o : Oper} {a : Act} {Q : Exit → Act → World → Prop} (hgd : o.guard = none) (s x : Operand)
    (ho : o.op = .call { callee := .builtin .append, args := #[s, x], argTypes := #[st, st] })
    (hs : a.eval s = v) (hown : Ow enc k t col c w base v L) (ad : Addr) (m cp : Nat) (M : List α) (hx : a.eval x = .slice (some ad) m cp) (hm : M.length = m) (h1 : ∀ x ∈ M, ∀ u ∈ enc x, u.oneCell' = true) (hnews : ∀ j u, (M.flatMap enc)[j]? = some u → w.cell? (ad.add j) = some u)
    (hlen : (L.length + M.length) * bytes ≤ 140737488355328) (hlen2 : L.length + M.length ≤ maxLen) (hbase : base ≤ w.heap.size)
    (h : ∀ v' w' col', Ow enc k t col' c w' base v' (L ++ M) → Ow enc k t col' c w' base v L → w.grownBy w' v.ownBlock → (∀ g, v.ownBlock = some g → col g = c) → (∀ g, g < w.heap.size → col' g = col g) → wpList Tryz.prog ops Q rest (a.put o.dst v') w') : wpList Tryz.prog ops Q (o :: rest) a w := by
  refine wpList_plain hgd fun K hK => ?_
  obtain ⟨v', w', col', hr, h2, h3, h4, h5⟩ := run_appC inf hst hzs hk0 hk hown ad m cp M hm h1 hnews hlen hlen2 hbase o.type
  have hfin := h v' w' col' h2 h3 h4 hown.2 h5
  unfold Oper.wp execOp
  simp only [ho, resolve, invoke, builtin, Sem.run_bind, Sem.run_pure, Result.andThen_ok, List.map_toArray, List.map_cons, List.map_nil, hs, hx, hr]
  exact hK _ _ hfin
/-- an append in a region that draws, by its equation -/
theorem step_appC {st : TypeId} {ops : Array Oper} {o : Oper} {a : Act} {w w' : World} {K : Act → World → Prop} {Q : Exit → Act → World → Prop} {E : Prop} {v xv v' : Value}
    (hg : o.guard = none) (s x : Operand) (hop : o.op = Op.call { callee := Callee.builtin Builtin.append, args := #[s, x], argTypes := #[st, st] })
    (hs : a.eval s = v) (hx : a.eval x = xv) (hrun : (Builtin.append_ #[st, st] o.type #[v, xv]).run Tryz.prog w = .ok v' w') (hK : K (a.put o.dst v') w') :
    if Region.wanted o (yielded ops a.tmps) = true then Oper.wp Tryz.prog o a w K Q else E := by
  have hw : Region.wanted o (yielded ops a.tmps) = true := by simp [Region.wanted, hg]
  rw [if_pos hw]
  unfold Oper.wp
  simp [execOp, hop, resolve, invoke, builtin, hs, hx, hrun, Result.andThen]
  exact hK
theorem fl_set (hk : ∀ x, (enc x).length = k) (L : List α) (i : Nat) (hi : i < L.length) (x : α) (q : Nat) : ((L.set i x).flatMap enc)[q]? = if i * k ≤ q ∧ q < i * k + k then (enc x)[q - i * k]? else (L.flatMap enc)[q]? := by
  by_cases hq : q < L.length * k
  · have hk0 : 0 < k := by rcases Nat.eq_zero_or_pos k with h | h; (· subst h; simp at hq); exact h
    have e : q = q / k * k + q % k := by rw [Nat.mul_comm]; exact (Nat.div_add_mod q k).symm
    have hd : q / k < L.length := by rw [Nat.div_lt_iff_lt_mul hk0]; exact hq
    have hmod := Nat.mod_lt q hk0
    have l1 := fl_at hk (L.set i x) (q / k) (by simpa using hd) (q % k) hmod
    have l2 := fl_at hk L (q / k) hd (q % k) hmod
    rw [← e] at l1 l2
    rw [l1]
    by_cases he : i = q / k
    · rw [if_pos ⟨by rw [he]; omega, by rw [he]; omega⟩]
      subst he
      rw [List.getElem_set_self]
      congr 1
      omega
    · rw [List.getElem_set_ne he, ← l2, if_neg ?_]
      rintro ⟨h1, h2⟩
      apply he
      have h3 : i ≤ q / k := by rw [Nat.le_div_iff_mul_le hk0]; exact h1
      have h4 : q / k < i + 1 := by rw [Nat.div_lt_iff_lt_mul hk0, Nat.add_mul, Nat.one_mul]; exact h2
      omega
  · rw [List.getElem?_eq_none (by rw [fl_len hk, List.length_set]; omega), if_neg ?_, List.getElem?_eq_none (by rw [fl_len hk]; omega)]
    rintro ⟨_, h2⟩
    have : i * k + k ≤ L.length * k := by rw [← Nat.succ_mul]; exact Nat.mul_le_mul_right k hi
    omega
/-- an element written over, two cells each -/
theorem Ow.set2 {e2 : α → List Value} (h : Ow e2 2 t col c w base v L) (hk : ∀ x, (e2 x).length = 2) (i : Nat) (hi : i < L.length) (x : α) {g n cap : Nat} (hv : v = .slice (some ⟨g, 0, none⟩) n cap) {a b : Value} (hx : e2 x = [a, b]) :
    Ow e2 2 t col c ((w.setCell ⟨g, i * 2, none⟩ a).setCell ⟨g, i * 2 + 1, none⟩ b) base v (L.set i x) := by
  subst hv
  refine ⟨⟨by rw [fl_len hk, List.length_set], ?_⟩, h.2⟩
  rcases h.1.2 with ⟨h0, _⟩ | ⟨g', cap', cur, hv, hb, hg, h1, h2, h3, h4⟩
  · cases h0
  cases hv
  right
  refine ⟨g, cap, _, by rw [List.length_set], hb, Lib.heap_setCell_same (Lib.heap_setCell_same hg _) _, by rw [List.length_set]; exact h1, h2, by simpa using h3, ?_⟩
  rw [List.length_set]
  apply List.ext_getElem?
  intro q
  have hq0 := congrArg (·[q]?) h4
  simp only [List.getElem?_take] at hq0
  rw [fl_set hk L i hi x q, ← hq0, List.getElem?_take, hx]
  have hle : i * 2 + 2 ≤ L.length * 2 := by omega
  have hle2 : L.length * 2 ≤ cur.size := by rw [h3]; exact Nat.mul_le_mul_right 2 h1
  rw [Array.getElem?_toList, Array.getElem?_toList, Array.getElem?_setIfInBounds, Array.getElem?_setIfInBounds]
  by_cases c1 : i * 2 + 1 = q
  · subst c1
    rw [if_pos (by omega), if_pos rfl, if_pos (by simp; omega), if_pos (by omega), show i * 2 + 1 - i * 2 = 1 by omega]
    rfl
  · by_cases c0 : i * 2 = q
    · subst c0
      rw [if_pos (by omega), if_neg c1, if_pos rfl, if_pos (by omega), if_pos (by omega), Nat.sub_self]
      rfl
    · rw [if_neg c1, if_neg c0, if_neg (c := i * 2 ≤ q ∧ q < i * 2 + 2) (by omega), Array.getElem?_toList]
end
theorem gb_set (w : World) (g o : Nat) (u : Value) : w.grownBy (w.setCell ⟨g, o, none⟩ u) (some g) := ⟨rfl, rfl, rfl, by simp, fun i _ hne => Below.heap_setCell _ _ _ _ (by show i ≠ g; intro e; exact hne (by rw [e]))⟩
theorem gb_set2 (w : World) (g o o' : Nat) (u u' : Value) : w.grownBy ((w.setCell ⟨g, o, none⟩ u).setCell ⟨g, o', none⟩ u') (some g) := (gb_set w g o u).trans (gb_set _ g o' u')
/-- slices as cells -/
def eV (v : Value) : List Value := [v]
theorem eV_len (x : Value) : (eV x).length = 1 := rfl
end Go.Proofs.YtpgpeafmlijfkaaGreatDoor

namespace Go.Proofs.YtpgpeafmlijfkaaGreatDoor
open Go.RowKit
set_option maxRecDepth 100000
set_option linter.unusedVariables false

theorem hib {p : Prop} (h : p) : Hid p := h
/-- behind an append every slice of the same block that is not longer, and every slice of another block, reads as it read -/
theorem run_append_keep2 {P : Program} (w : World) (base : Nat) (t ty e : TypeId) (i : TypeInfo) (z : Value) (size bytes : Nat) (ht : P.underlying t = some (.slice e)) (hi : P.info? e = some i) (hz : i.zero = some z)
    (hsize : i.size = size) (hby : i.bytes = bytes) (hzs : z.cells.size = size) (hsz : 0 < size) (v : Value) (n : Nat) (xs : List Value) (hown : w.ownsRow base e size v n xs)
    (a : Addr) (m c : Nat) (news : List Value) (hl : news.length = m * size) (hnews : ∀ j u, news[j]? = some u → w.cell? (a.add j) = some u) (h1 : ∀ u ∈ news, u.oneCell' = true)
    (h63 : n + m ≤ maxLen) (hbytes : (n + m) * bytes ≤ 140737488355328) (hbase : base ≤ w.heap.size) :
    ∃ v' w', (Builtin.append_ #[t, t] ty #[v, .slice (some a) m c]).run P w = .ok v' w' ∧ w'.ownsRow base e size v' (n + m) (xs ++ news) ∧ w.grownBy w' v.ownBlock ∧
      (v'.ownBlock = v.ownBlock ∨ v'.ownBlock = some w.heap.size) ∧ ∀ u n' xs', w.ownsRow base e size u n' xs' → n' ≤ n → w'.ownsRow base e size u n' xs' := by
  obtain ⟨v', w', hr, h2, h3, _, h5⟩ := run_append_own_at (P := P) w base t ty e i z size bytes ht hi hz hsize hby hzs hsz v n xs hown a m c news hl hnews h1 h63 hbytes hbase
  refine ⟨v', w', hr, h2, h3, h5, fun u n' xs' hu hn' => ?_⟩
  by_cases hsame : u.ownBlock ≠ none ∧ u.ownBlock = v.ownBlock
  case neg =>
    refine World.ownsRow.kept hu h3 ?_
    by_cases h0 : u.ownBlock = none
    · exact .inl h0
    · exact .inr fun e => hsame ⟨h0, e⟩
  obtain ⟨hne, hsame⟩ := hsame
  refine ⟨hu.1, ?_⟩
  subst hsize hby
  rcases hown.2 with ⟨h0, _⟩ | ⟨g, cap, cur, rfl, hbg, hg, hnc, hcm, hcs, htake⟩
  · rw [h0] at hsame
    exact absurd hsame (by simpa [Value.ownBlock] using hne)
  rcases hu.2 with ⟨h0, _⟩ | ⟨g2, cap2, cur2, rfl, hbg2, hg2, hnc2, hcm2, hcs2, htake2⟩
  · rw [h0] at hne
    exact absurd rfl hne
  have eg : g2 = g := by simpa [Value.ownBlock] using hsame
  subst eg
  have ec : cur2 = cur := by
    have := hg2.symm.trans hg
    injection this with h
    injection h
  subst ec
  right
  by_cases hroom : n + m ≤ cap
  · have hfit : n * i.size + news.length ≤ cur2.size := by rw [hl, hcs, ← Nat.add_mul]; exact Nat.mul_le_mul_right _ hroom
    have hq := hr.symm.trans (run_append_room (P := P) w t ty e i ht hi g2 n cap cur2 hg a m c news hl hnews h1 hroom hfit)
    cases hq
    refine ⟨g2, cap2, _, rfl, hbg, setRow_heap w g2 cur2 _ e _ hg, hnc2, hcm2, ?_, ?_⟩
    · simp only [List.size_toArray, List.length_append, List.length_take, List.length_drop, Array.length_toList]
      omega
    · have hlen : xs.length = n * i.size := hown.1
      have hle : n' * i.size ≤ n * i.size := Nat.mul_le_mul_right _ hn'
      have hxs : xs' = xs.take (n' * i.size) := by
        rw [← htake2, ← htake, List.take_take, Nat.min_eq_left hle]
      simp only [htake, List.append_assoc]
      rw [List.take_append_of_le_length (by rw [hlen]; exact hle), hxs]
  · have holds : ∀ j u, xs[j]? = some u → w.cell? ((⟨g2, 0, none⟩ : Addr).add j) = some u := hown.cells (g := g2) rfl
    have hq := hr.symm.trans (run_append_grow (P := P) w t ty e i z ht hi hz ⟨g2, 0, none⟩ n cap xs hown.1 holds a m c news hl hnews (by omega) (by simp only [maxLen] at h63; omega) (growslice_fits (by omega) hbytes))
    cases hq
    exact ⟨g2, cap2, cur2, rfl, hbg, (by rw [heap_alloc_old w.drew]; (· exact hg); exact (Array.getElem?_eq_some_iff.1 hg).1), hnc2, hcm2, hcs2, htake2⟩

section
variable {α : Type} {enc : α → List Value} {k : Nat} {t : TypeId} {col col' : Nat → Nat} {c c' : Nat} {w w' : World} {base : Nat} {v : Value} {L : List α}
/-- append, at the operation: the new slice; all elder ones of that block, or of others -/
theorem wpList_appD {st : TypeId} {z : Value} {bytes : Nat} (inf : (Tryz.prog.info? t).map (fun i => (i.zero, i.size, i.bytes)) = some (some z, k, bytes)) (hst : Tryz.prog.underlying st = some (.slice t)) (hzs : z.cells.size = k) (hk0 : 0 < k) (hk : ∀ x, (enc x).length = k)
    {ops : Array Oper} {rest : List Oper} {o : Oper} {a : Act} {Q : Exit → Act → World → Prop} (hgd : o.guard = none) (s x : Operand)
    (ho : o.op = .call { callee := .builtin .append, args := #[s, x], argTypes := #[st, st] })
    (hs : a.eval s = v) (hown : Ow enc k t col c w base v L) (ad : Addr) (m cp : Nat) (M : List α) (hx : a.eval x = .slice (some ad) m cp) (hm : M.length = m) (h1 : ∀ x ∈ M, ∀ u ∈ enc x, u.oneCell' = true) (hnews : ∀ j u, (M.flatMap enc)[j]? = some u → w.cell? (ad.add j) = some u)
    (hlen : (L.length + M.length) * bytes ≤ 140737488355328) (hlen2 : L.length + M.length ≤ maxLen) (hbase : base ≤ w.heap.size)
    (h : ∀ v' w' col', Ow enc k t col' c w' base v' (L ++ M) → (∀ u c2 (L2 : List α), Ow enc k t col c2 w base u L2 → L2.length ≤ L.length → Ow enc k t col' c2 w' base u L2) → w.grownBy w' v.ownBlock → (∀ g, v.ownBlock = some g → col g = c ∧ g < w.heap.size) → (∀ g, g < w.heap.size → col' g = col g) → wpList Tryz.prog ops Q rest (a.put o.dst v') w') : wpList Tryz.prog ops Q (o :: rest) a w := by
  refine wpList_plain hgd fun K hK => ?_
  obtain ⟨i, hi, hz, hsz, hby⟩ := info_parts inf
  subst hm
  obtain ⟨v', w', hr, h2, h3, h5, h6⟩ := run_append_keep2 (P := Tryz.prog) w base st o.type t i z k bytes hst hi hz hsz hby hzs hk0 v L.length (L.flatMap enc) hown.1 ad M.length cp (M.flatMap enc) (fl_len hk M) hnews (fun u hu => by obtain ⟨y, hy1, hy⟩ := List.mem_flatMap.1 hu; exact h1 y hy1 u hy) hlen2 hlen hbase
  have hcol : ∀ g, g < w.heap.size → (fun g => if g = w.heap.size then c else col g) g = col g := fun g hg => by show (if g = w.heap.size then c else col g) = col g; rw [if_neg (by omega)]
  have hfin := h v' w' (fun g => if g = w.heap.size then c else col g) ⟨by rw [List.flatMap_append, List.length_append]; exact h2, fun g hg => by
      rcases h5 with h5 | h5
      · rw [h5] at hg
        rw [hcol g (hown.lt g hg).2]
        exact hown.2 g hg
      · rw [h5] at hg
        cases hg
        show (if w.heap.size = w.heap.size then c else col w.heap.size) = c
        rw [if_pos rfl]⟩ (fun u c2 L2 hu hl => ⟨h6 u _ _ hu.1 hl, fun g hg => by rw [hcol g (hu.lt g hg).2]; exact hu.2 g hg⟩) h3 (fun g hg => ⟨hown.2 g hg, (hown.lt g hg).2⟩) hcol
  unfold Oper.wp execOp
  simp only [ho, resolve, invoke, builtin, Sem.run_bind, Sem.run_pure, Result.andThen_ok, List.map_toArray, List.map_cons, List.map_nil, hs, hx, hr]
  exact hK _ _ hfin
/-- an element of one cell written over -/
theorem Ow.set1 {e1 : α → List Value} (h : Ow e1 1 t col c w base v L) (hk : ∀ x, (e1 x).length = 1) (i : Nat) (hi : i < L.length) (x : α) {g n cap : Nat} (hv : v = .slice (some ⟨g, 0, none⟩) n cap) {a : Value} (hx : e1 x = [a]) :
    Ow e1 1 t col c (w.setCell ⟨g, i, none⟩ a) base v (L.set i x) := by
  subst hv
  refine ⟨⟨by rw [fl_len hk, List.length_set], ?_⟩, h.2⟩
  rcases h.1.2 with ⟨h0, _⟩ | ⟨g', cap', cur, hv, hb, hg, h1, h2, h3, h4⟩
  · cases h0
  cases hv
  right
  refine ⟨g, cap, _, by rw [List.length_set], hb, Lib.heap_setCell_same hg _, by rw [List.length_set]; exact h1, h2, by simpa using h3, ?_⟩
  rw [List.length_set]
  apply List.ext_getElem?
  intro q
  have hq0 := congrArg (·[q]?) h4
  simp only [List.getElem?_take] at hq0
  rw [fl_set hk L i hi x q, ← hq0, List.getElem?_take, hx]
  have hle2 : L.length * 1 ≤ cur.size := by rw [h3]; exact Nat.mul_le_mul_right 1 h1
  rw [Array.getElem?_toList, Array.getElem?_setIfInBounds]
  by_cases c1 : i = q
  · subst c1
    rw [if_pos (by omega), if_pos rfl, if_pos (by omega), if_pos (by omega), Nat.mul_one, Nat.sub_self]
    rfl
  · rw [if_neg c1, if_neg (c := i * 1 ≤ q ∧ q < i * 1 + 1) (by omega), Array.getElem?_toList]
theorem Ow.app {row : Option Nat} (h : Ow enc k t col c w base v L) (hg : w.grownBy w' row) (hr : ∀ g, row = some g → col g = c' ∧ g < w.heap.size) (hcc : ∀ g, g < w.heap.size → col' g = col g) (hne : c ≠ c') : Ow enc k t col' c w' base v L :=
  (h.recol hcc).other hg (fun g e => by rw [hcc g (hr g e).2]; exact (hr g e).1) hne
/-- so many lists, each of a colour of its own -/
def RwG (enc : α → List Value) (k : Nat) (t : TypeId) (f : Nat → Nat) (col : Nat → Nat) (w : World) (B : Nat) (p : Nat → Prop) (V : List Value) (X : Nat → List α) : Prop := ∀ j (h : j < V.length), p j → Ow enc k t col (f j) w B V[j] (X j)
variable {f : Nat → Nat} {B : Nat} {p : Nat → Prop} {V : List Value} {X : Nat → List α}
theorem RwG.later (h : RwG enc k t f col w B p V X) (hb : Below w.heap.size w w') : RwG enc k t f col w' B p V X := fun j h1 hp => (h j h1 hp).later hb
theorem RwG.recol (h : RwG enc k t f col w B p V X) (hc : ∀ g, g < w.heap.size → col' g = col g) : RwG enc k t f col' w B p V X := fun j h1 hp => (h j h1 hp).recol hc
theorem RwG.other {row : Option Nat} (h : RwG enc k t f col w B p V X) (hg : w.grownBy w' row) (hr : ∀ g, row = some g → col g = c) (hne : ∀ j, j < V.length → p j → f j ≠ c) : RwG enc k t f col w' B p V X := fun j h1 hp => (h j h1 hp).other hg hr (hne j h1 hp)
theorem RwG.imp {q : Nat → Prop} (h : RwG enc k t f col w B p V X) (hq : ∀ j, j < V.length → q j → p j) : RwG enc k t f col w B q V X := fun j h1 hp => h j h1 (hq j h1 hp)
theorem RwG.snoc (h : RwG enc k t f col w B p V X) (hn : p V.length → Ow enc k t col (f V.length) w B v (X V.length)) : RwG enc k t f col w B p (V ++ [v]) X := fun j h1 hp => by
  by_cases hj : j < V.length
  · rw [List.getElem_append_left hj]
    exact h j hj hp
  · have : j = V.length := by simp at h1; omega
    subst this
    have e1 : (V ++ [v])[V.length]'h1 = v := by simp
    rw [e1]
    exact hn hp
theorem RwG.app {row : Option Nat} (h : RwG enc k t f col w B p V X) (hg : w.grownBy w' row) (hr : ∀ g, row = some g → col g = c ∧ g < w.heap.size) (hcc : ∀ g, g < w.heap.size → col' g = col g) (hne : ∀ j, j < V.length → p j → f j ≠ c) : RwG enc k t f col' w' B p V X := fun j h1 hp => (h j h1 hp).app hg hr hcc (hne j h1 hp)
theorem RwG.nil (enc : α → List Value) (k : Nat) (t : TypeId) (f : Nat → Nat) (col : Nat → Nat) (w : World) (B : Nat) (p : Nat → Prop) (X : Nat → List α) : RwG enc k t f col w B p [] X := fun j h => by simp at h
end
theorem Ow.cellV {ts : TypeId} {col : Nat → Nat} {c : Nat} {w : World} {B : Nat} {v : Value} {V : List Value} (h : Ow eV 1 ts col c w B v V) (i : Nat) (hi : i < V.length) : ∃ g cap, v = .slice (some ⟨g, 0, none⟩) V.length cap ∧ V.length ≤ cap ∧ w.cell? ⟨g, i, none⟩ = some V[i] := by
  obtain ⟨g, cap, hv, h1, _, _, _, hq, _⟩ := Ow.at eV_len h i hi
  refine ⟨g, cap, hv, h1, ?_⟩
  have := hq 0 V[i] rfl
  simpa using this
/-- marks up to a place -/
def FilM {α : Type} (mk : Nat → α) (j : Nat) (x : List α) (n : Nat) : Prop := ∀ q, q < n → x[q]? = some (mk j)
theorem FilM.step {α : Type} {mk : Nat → α} {j n : Nat} {x : List α} (h : FilM mk j x n) (hn : n < x.length) : FilM mk j (x.set n (mk j)) (n + 1) := by
  intro q hq
  by_cases e : q = n
  · subst e
    rw [List.getElem?_set_self hn]
  · rw [List.getElem?_set_ne (fun h => e h.symm)]
    exact h q (by omega)
theorem FilM.all {α : Type} {mk : Nat → α} {j : Nat} {x : List α} (h : FilM mk j x x.length) (n : Nat) : FilM mk j (x ++ List.replicate n (mk j)) (x.length + n) := by
  intro q hq
  by_cases e : q < x.length
  · rw [List.getElem?_append_left e]
    exact h q e
  · rw [List.getElem?_append_right (by omega), List.getElem?_replicate, if_pos (by omega)]
end Go.Proofs.YtpgpeafmlijfkaaGreatDoor

namespace Go.Proofs.YtpgpeafmlijfkaaGreatDoor
open Go.RowKit
set_option maxRecDepth 100000
set_option linter.unusedVariables false
set_option linter.unusedSimpArgs false

theorem gb_below {B : Nat} {a w w' : World} {row : Option Nat} (h : Below B a w) (hB : B ≤ a.heap.size) (hg : w.grownBy w' row) (hr : ∀ g, row = some g → B ≤ g) : Below B a w' :=
  ⟨hg.os.trans h.os, hg.tape.trans h.tape, hg.output.trans h.output, Nat.le_trans h.size hg.size, fun k hk => (hg.block k (by have := h.size; omega) (fun e => by have := hr k e.symm; omega)).trans (h.block k hk)⟩
/-- nothing below B, and nothing whose colour is not a list's, has turned -/
structure Bx (B : Nat) (col : Nat → Nat) (w w' : World) : Prop where
  bel : Below B w w'
  oth : ∀ g, g < w.heap.size → col g % 4 ≠ 0 → w'.heap[g]? = w.heap[g]?
theorem Bx.refl (B : Nat) (col : Nat → Nat) (w : World) : Bx B col w w := ⟨Below.refl _ _, fun _ _ _ => rfl⟩
theorem Bx.set {B : Nat} {col : Nat → Nat} {w w' : World} (h : Bx B col w w') {g i : Nat} (hg : B ≤ g) (hc : col g = 4 * i) (k : Nat) (u : Value) : Bx B col w (w'.setCell ⟨g, k, none⟩ u) :=
  ⟨h.bel.setCell (p := ⟨g, k, none⟩) hg u, fun q hq hne => ((gb_set w' g k u).block q (Nat.lt_of_lt_of_le hq h.bel.size) (fun e => by injection e with e; subst e; omega)).trans (h.oth q hq hne)⟩
theorem Bx.later {B : Nat} {col : Nat → Nat} {w w' w2 : World} (h : Bx B col w w') (hB : B ≤ w.heap.size) (hb : Below w'.heap.size w' w2) : Bx B col w w2 :=
  ⟨h.bel.trans (hb.mono (Nat.le_trans hB h.bel.size)), fun q hq hne => (hb.block q (Nat.lt_of_lt_of_le hq h.bel.size)).trans (h.oth q hq hne)⟩
theorem Bx.grown {B : Nat} {col : Nat → Nat} {w w' w2 : World} {row : Option Nat} (h : Bx B col w w') (hB : B ≤ w.heap.size) (hg : w'.grownBy w2 row) (hr : ∀ g, row = some g → B ≤ g ∧ (w.heap.size ≤ g ∨ col g % 4 = 0)) : Bx B col w w2 :=
  ⟨gb_below h.bel hB hg (fun g e => (hr g e).1), fun q hq hne => (hg.block q (Nat.lt_of_lt_of_le hq h.bel.size) (fun e => by rcases (hr q e.symm).2 with h | h <;> omega)).trans (h.oth q hq hne)⟩
def eN (x : Int) : List Value := [.int .i64 x]
theorem eN_len (x : Int) : (eN x).length = 1 := rfl
theorem eN_one (x : Int) : ∀ u ∈ eN x, u.oneCell' = true := by simp [eN, Value.oneCell']
def mkJ (i : Nat) : Int := (i : Int)
theorem iinf : (Tryz.prog.info? 3).map (fun i => (i.zero, i.size, i.bytes)) = some (some (.int .i64 0), 1, 8) := by kernel_rfl
theorem siinf : (Tryz.prog.info? 126).map (fun i => (i.zero, i.size, i.bytes)) = some (some (.slice none 0 0), 1, 24) := by kernel_rfl
/-- lists of ints in memory -/
def I1 (col : Nat → Nat) (w : World) (B : Nat) (iv : Value) (V : List Value) (Y : Nat → List Int) : Prop := Ow eV 1 126 col 2 w B iv V ∧ RwG eN 1 3 (fun j => 4 * j) col w B (fun _ => True) V Y
theorem I1.set {col : Nat → Nat} {w : World} {B : Nat} {iv : Value} {V : List Value} {Y : Nat → List Int} (h : I1 col w B iv V Y) (i k : Nat) (hi : i < V.length) (hk : k < (Y i).length) (x : Int) {g n cap : Nat} (hv : V[i] = .slice (some ⟨g, 0, none⟩) n cap) :
    I1 col (w.setCell ⟨g, k, none⟩ (.int .i64 x)) B iv V (fun j => if j = i then (Y i).set k x else Y j) := by
  have ho := h.2 i hi trivial
  have hcg : col g = 4 * i := ho.2 g (by rw [hv]; rfl)
  have gb := gb_set w g k (.int .i64 x)
  refine ⟨h.1.other gb (fun g' e => by cases e; exact hcg) (by (try dsimp only); omega), fun j hj _ => ?_⟩
  by_cases e : j = i
  · subst e
    show Ow eN 1 3 col (4 * j) _ B V[j] (if j = j then (Y j).set k x else Y j)
    rw [if_pos rfl]
    exact ho.set1 eN_len k hk x hv rfl
  · show Ow eN 1 3 col (4 * j) _ B V[j] (if j = i then (Y i).set k x else Y j)
    rw [if_neg e]
    exact (h.2 j hj trivial).other gb (fun g' e => by cases e; exact hcg) (by (try dsimp only); omega)
/-- while the grown lists are gathered -/
def I2 (col : Nat → Nat) (w : World) (B B2 : Nat) (iv mv : Value) (V M : List Value) (Y : Nat → List Int) : Prop := I1 col w B iv V Y ∧ Ow eV 1 126 col 10 w B2 mv M ∧ RwG eN 1 3 (fun j => 4 * j) col w B (fun _ => True) M (fun j => Y j ++ List.replicate 9 (mkJ j))
theorem I2.later {col : Nat → Nat} {w w' : World} {B B2 : Nat} {iv mv : Value} {V M : List Value} {Y : Nat → List Int} (h : I2 col w B B2 iv mv V M Y) (hb : Below w.heap.size w w') : I2 col w' B B2 iv mv V M Y := ⟨⟨h.1.1.later hb, h.1.2.later hb⟩, h.2.1.later hb, h.2.2.later hb⟩
theorem cell_new (w : World) (a : Value) (t : TypeId) (enc : Int → List Value) (x : Int) (hx : enc x = [a]) : ∀ j u, (([x] : List Int).flatMap enc)[j]? = some u → (w.alloc (.cells #[a] t)).cell? ((⟨w.heap.size, 0, none⟩ : Addr).add j) = some u := by
  intro j u hj
  match j, hj with
  | 0, hj => simp [hx] at hj; subst hj; simp [Addr.add]
  | j + 1, hj => simp [hx] at hj
theorem cell_newV (w : World) (a : Value) (t : TypeId) : ∀ j u, (([a] : List Value).flatMap eV)[j]? = some u → (w.alloc (.cells #[a] t)).cell? ((⟨w.heap.size, 0, none⟩ : Addr).add j) = some u := by
  intro j u hj
  match j, hj with
  | 0, hj => simp [eV] at hj; subst hj; simp [Addr.add]
  | j + 1, hj => simp [eV] at hj
theorem Ow.sl {α : Type} {enc : α → List Value} {k : Nat} {t : TypeId} {col : Nat → Nat} {c : Nat} {w : World} {B : Nat} {v : Value} {L : List α} (h : Ow enc k t col c w B v L) : ∃ ao cap, v = .slice ao L.length cap := by
  obtain ⟨ao, cap, e, _⟩ := h.len
  exact ⟨ao, cap, e⟩
/-- an int of a list -/
theorem Ow.atI {col : Nat → Nat} {c : Nat} {w : World} {B : Nat} {v : Value} {L : List Int} (h : Ow eN 1 3 col c w B v L) (i : Nat) (hi : i < L.length) : ∃ g cap, v = .slice (some ⟨g, 0, none⟩) L.length cap ∧ L.length ≤ cap ∧ w.cell? ⟨g, i, none⟩ = some (.int .i64 L[i]) ∧ w.frozen? ⟨g, i, none⟩ = false ∧ B ≤ g := by
  obtain ⟨g, cap, hv, h1, h2, _, _, hq, hf⟩ := Ow.at eN_len h i hi
  refine ⟨g, cap, hv, h1, ?_, hf _, h2⟩
  have := hq 0 (.int .i64 L[i]) rfl
  simpa using this
set_option maxHeartbeats 8000000 in
theorem apInts_any (w : World) (B : Nat) (col : Nat → Nat) (iv : Value) (V : List Value) (X : Nat → List Int) (hI : I1 col w B iv V X) (hB : B ≤ w.heap.size) (hX : ∀ j, (X j).length ≤ 1000000000000) (hl : V.length ≤ 1000000000000) :
    Calls Tryz.prog 40 #[iv] w fun e w' => e = .returned (.bool true) ∧ Bx B col w w' := by
  obtain ⟨io, ic, hiv⟩ := hI.1.sl
  subst hiv
  have HI := hib hI
  have HX := hib hX
  clear hI hX
  go_enter Tryz.func40, Tryz.ntmps40
  go_wp2_with fail
  go_loopg [3] V.length (fun g s3 wr => ∃ (i : Nat) (Y : Nat → List Int), i ≤ V.length ∧ V.length - i ≤ g ∧ s3 = .int .i64 (i : Int) ∧ Hid (I1 col wr B (.slice io V.length ic) V Y) ∧ Hid (∀ a, (Y a).length = (X a).length) ∧ Hid (∀ a, a < i → FilM mkJ a (Y a) (Y a).length) ∧ Hid (Bx B col w wr))
  case atStart => exact ⟨0, X, Nat.zero_le _, Nat.le_refl _, rfl, HI, hib (fun _ => rfl), hib (fun a h => by omega), hib (Bx.refl _ _ _)⟩
  case round =>
    obtain ⟨i, Y, hi, hm, h3, HS, HY, HF, HB⟩ := hrel
    subst h3
    by_cases hlt : i < V.length
    · have hltI : (i : Int) < (V.length : Int) := by omega
      have hdI : decide (i < V.length) = true := by simp; exact hlt
      obtain ⟨gO, hgO⟩ : ∃ gO, gO = gk := ⟨_, rfl⟩
      obtain ⟨bk, kc, hkv, hkc, _⟩ := HS.out.1.cellV i hlt
      injection hkv with e1 _ e3
      subst e1 e3
      obtain ⟨ai, ci, hvi⟩ := (HS.out.2 i hlt trivial).sl
      obtain ⟨N, hN⟩ : ∃ N, N = (X i).length := ⟨_, rfl⟩
      rw [HY.out i, ← hN] at hvi
      have HVI := hib hvi
      have HN := hib hN
      have hNl : N ≤ 1000000000000 := by rw [hN]; exact HX.out i
      have HG := hib (And.intro hgO hm)
      clear hvi hN hgO hm
      go_wp2_with fail
      go_loopg [4] N (fun g s4 wr => ∃ (k : Nat) (Y : Nat → List Int), k ≤ N ∧ N - k ≤ g ∧ s4 = .int .i64 (k : Int) ∧ Hid (I1 col wr B (.slice (some ⟨bk, 0, none⟩) V.length ic) V Y) ∧ Hid (∀ a, (Y a).length = (X a).length) ∧ Hid (∀ a, a < i → FilM mkJ a (Y a) (Y a).length) ∧ Hid (FilM mkJ i (Y i) k) ∧ Hid (Bx B col w wr))
      case atStart => exact ⟨0, Y, Nat.zero_le _, Nat.le_refl _, rfl, HS, HY, HF, hib (fun q h => by omega), HB⟩
      case round =>
        obtain ⟨k, Y2, hk, hm2, h4, HS2, HY2, HF2, HFi, HB2⟩ := hrel
        subst h4
        have ck : wr.cell? ⟨bk, i, none⟩ = some (.slice ai N ci) := by
          obtain ⟨g', c', e, _, hq⟩ := HS2.out.1.cellV i hlt
          cases e
          rw [HVI.out] at hq
          exact hq
        clear HS HY HF HB
        by_cases hk3 : k < N
        · have hkI : (k : Int) < (N : Int) := by omega
          have hdk : decide (k < N) = true := by simp; exact hk3
          obtain ⟨gi, ci', e, hci, hc, hf, hBg⟩ := (HS2.out.2 i hlt trivial).atI k (by rw [HY2.out i, ← HN.out]; exact hk3)
          rw [HVI.out] at e
          injection e with e1 e2 e3
          subst e1 e3
          obtain ⟨z0, hz0⟩ : ∃ z, wr.cell? ⟨gi, k, none⟩ = some (.int .i64 z) := ⟨_, hc⟩
          have hS3 := HS2.out.set i k hlt (by rw [HY2.out i, ← HN.out]; exact hk3) (i : Int) HVI.out
          have HS3 := hib hS3
          have hY3 : ∀ a, ((fun j => if j = i then (Y2 i).set k (i : Int) else Y2 j) a).length = (X a).length := fun a => by
            show (if a = i then (Y2 i).set k (i : Int) else Y2 a).length = _
            by_cases e : a = i
            · subst e; rw [if_pos rfl, List.length_set]; exact HY2.out _
            · rw [if_neg e]; exact HY2.out a
          have hF3 : ∀ a, a < i → FilM mkJ a ((fun j => if j = i then (Y2 i).set k (i : Int) else Y2 j) a) ((fun j => if j = i then (Y2 i).set k (i : Int) else Y2 j) a).length := fun a ha => by
            show FilM mkJ a (if a = i then (Y2 i).set k (i : Int) else Y2 a) (if a = i then (Y2 i).set k (i : Int) else Y2 a).length
            rw [if_neg (by omega)]
            exact HF2.out a ha
          have hFi3 : FilM mkJ i ((fun j => if j = i then (Y2 i).set k (i : Int) else Y2 j) i) (k + 1) := by
            show FilM mkJ i (if i = i then (Y2 i).set k (i : Int) else Y2 i) (k + 1)
            rw [if_pos rfl]
            exact HFi.out.step (by rw [HY2.out i, ← HN.out]; exact hk3)
          have HY3 := hib hY3
          have HF3 := hib hF3
          have HFi3 := hib hFi3
          have HB3 := hib (HB2.out.set hBg ((HS2.out.2 i hlt trivial).2 gi (by rw [HVI.out]; rfl)) k (.int .i64 (i : Int)))
          generalize (fun j => if j = i then (Y2 i).set k (i : Int) else Y2 j) = Y3 at HS3 HY3 HF3 HFi3
          clear hS3 hY3 hF3 hFi3 hc e2 hk3
          go_wp2
          go_roundg (gk - 1)
          case measure => omega
          case rel => exact ⟨k + 1, Y3, by omega, by omega, by first | rfl | go_num, HS3, HY3, HF3, HFi3, HB3⟩
        · have hkI : ¬ (k : Int) < (N : Int) := by omega
          have hdk : decide (k < N) = false := by simp; omega
          have HF3 := hib (show ∀ a, a < i + 1 → FilM mkJ a (Y2 a) (Y2 a).length from fun a ha => by
            by_cases e : a = i
            · subst e
              rw [HY2.out, ← HN.out]
              have : k = N := by omega
              subst this
              exact HFi.out
            · exact HF2.out a (by omega))
          clear hk3 hm2
          go_wp2
          go_roundg (gO - 1)
          case measure => obtain ⟨h1, h2⟩ := HG.out; omega
          case rel => exact ⟨i + 1, Y2, by omega, by obtain ⟨h1, h2⟩ := HG.out; omega, by first | rfl | go_num, HS2, HY2, HF3, HB2⟩
    · have hltI : ¬ (i : Int) < (V.length : Int) := by omega
      have hdI : decide (i < V.length) = false := by simp; omega
      have HFA := hib (show ∀ a, a < V.length → FilM mkJ a (Y a) (Y a).length from fun a ha => HF.out a (by omega))
      clear HF hm hlt
      go_wp2_with fail
      go_loopg [5, 6] V.length (fun g s5 s6 wr => ∃ (q : Nat) (col2 : Nat → Nat) (M : List Value), q ≤ V.length ∧ V.length - q ≤ g ∧ s6 = .int .i64 (q : Int) ∧ Hid (M.length = q) ∧ Hid (∀ g, g < w.heap.size → col2 g = col g) ∧ Hid (I2 col2 wr B w.heap.size (.slice io V.length ic) s5 V M Y) ∧ Hid (Bx B col w wr))
      case atStart => exact ⟨0, col, [], Nat.zero_le _, Nat.le_refl _, rfl, hib rfl, hib (fun _ _ => rfl), hib ⟨HS.out, Ow.nil _ _ _ _, RwG.nil _ _ _ _ _ _ _ _ _⟩, HB⟩
      case round =>
        obtain ⟨q, col2, M, hq, hm, h6, HM, HC2, HS2, HB2⟩ := hrel
        subst h6
        clear HS HB
        obtain ⟨mo, mc, hmv⟩ := HS2.out.2.1.sl
        rw [HM.out] at hmv
        subst hmv
        by_cases hlt : q < V.length
        · have hltI : (q : Int) < (V.length : Int) := by omega
          have hdI : decide (q < V.length) = true := by simp; exact hlt
          obtain ⟨gO, hgO⟩ : ∃ gO, gO = gk := ⟨_, rfl⟩
          obtain ⟨bk, kc, hkv, hkc, ck⟩ := HS2.out.1.1.cellV q hlt
          injection hkv with e1 _ e3
          subst e1 e3
          have hYl : (Y q).length ≤ 1000000000000 := by rw [HY.out q]; exact HX.out q
          obtain ⟨V9, hV9⟩ : ∃ u, u = V[q] := ⟨_, rfl⟩
          rw [← hV9] at ck
          have hOw := HS2.out.1.2 q hlt trivial
          rw [← hV9] at hOw
          have HOw := hib hOw
          have HG := hib (And.intro hgO hm)
          have HV9 := hib hV9
          clear hOw hgO hm hV9
          go_wp2_with fail
          go_loopg [7, 8] 9 (fun g s7 s8 wr => ∃ (k : Nat) (col3 : Nat → Nat), k ≤ 9 ∧ 9 - k ≤ g ∧ s8 = .int .i64 (k : Int) ∧ Hid (∀ g, g < w.heap.size → col3 g = col g) ∧ Hid (I2 col3 wr B w.heap.size (.slice (some ⟨bk, 0, none⟩) V.length ic) (.slice mo q mc) V M Y) ∧ Hid (Ow eN 1 3 col3 (4 * q) wr B s7 (Y q ++ List.replicate k (mkJ q))) ∧ Hid (Bx B col w wr))
          case atStart => exact ⟨0, col2, by omega, by omega, rfl, HC2, HS2, hib (by simpa using HOw.out), HB2⟩
          case round =>
            obtain ⟨k, col3, hk, hm2, h8, HC3, HS3, HO3, HB3⟩ := hrel
            subst h8
            clear HS2 HB2 HOw ck
            obtain ⟨o7, c7, hv7⟩ := HO3.out.sl
            subst hv7
            have hBw : B ≤ wr.heap.size := by have := HB3.out.bel.size; omega
            have hww : w.heap.size ≤ wr.heap.size := HB3.out.bel.size
            by_cases hk9 : k < 9
            · have hkI : (k : Int) < 9 := by omega
              have hdk : decide (k < 9) = true := by simp; exact hk9
              have b1 : Below wr.heap.size wr (wr.alloc (.cells #[.int .i64 (q : Int)] 3)) := (Below.refl _ _).alloc (Nat.le_refl _) _
              have HO4 := hib (HO3.out.later b1)
              have HS4 := hib (HS3.out.later b1)
              have HB4 := hib (HB3.out.later hB b1)
              have hnew := cell_new wr (.int .i64 (q : Int)) 3 eN (mkJ q) rfl
              have HNw := hib hnew
              have hL1 : ((Y q ++ List.replicate k (mkJ q)).length + ([mkJ q] : List Int).length) * 8 ≤ 140737488355328 := by simp; omega
              have hL2 : (Y q ++ List.replicate k (mkJ q)).length + ([mkJ q] : List Int).length ≤ maxLen := by unfold maxLen; simp; omega
              have HL := hib (And.intro hL1 hL2)
              have hBa : B ≤ (wr.alloc (.cells #[.int .i64 (q : Int)] 3)).heap.size := by simp; omega
              have HBa := hib hBa
              clear hnew hL1 hL2 hBa b1 HO3 HS3 HB3
              go_wp2_with (at_builtin; refine wpList_appD iinf Tryz.underlying126 rfl (by decide) eN_len rfl (.tmp 47) (.tmp 49) rfl rfl HO4.out _ _ _ [mkJ q] rfl rfl (fun x hx => eN_one x) HNw.out HL.out.1 HL.out.2 HBa.out ?n1)
              case n1 =>
              intro v' w5 col4 ho5 hkeep hg5 hr5' hc5'
              have hr5 := fun g e => And.intro (hr5' g e).1 (show g < (wr.alloc (.cells #[.int .i64 (q : Int)] 3)).heap.size by simpa using (hr5' g e).2)
              have hc5 := fun g (h : g < (wr.alloc (.cells #[.int .i64 (q : Int)] 3)).heap.size) => hc5' g (by simpa using h)
              clear hr5' hc5'
              have HO5 := hib (show Ow eN 1 3 col4 (4 * q) w5 B v' (Y q ++ List.replicate (k + 1) (mkJ q)) by rw [List.replicate_succ']; first | exact ho5 | (rw [← List.append_assoc]; exact ho5))
              have HS5 := hib (show I2 col4 w5 B w.heap.size (.slice (some ⟨bk, 0, none⟩) V.length ic) (.slice mo q mc) V M Y from by
                have h4 := HS4.out
                refine ⟨⟨h4.1.1.app hg5 hr5 hc5 (by (try dsimp only); omega), fun j hj _ => ?_⟩, h4.2.1.app hg5 hr5 hc5 (by (try dsimp only); omega), h4.2.2.app hg5 hr5 hc5 (fun j hj _ => by have := HM.out; (try dsimp only); omega)⟩
                by_cases e : j = q
                · subst e
                  exact hkeep _ _ _ (h4.1.2 j hj trivial) (by simp)
                · exact (h4.1.2 j hj trivial).app hg5 hr5 hc5 (by (try dsimp only); omega))
              have HB5 := hib (HB4.out.grown hB hg5 (fun g e => ⟨(HO4.out.lt g (by first | exact e | simpa using e)).1, by
                rcases Nat.lt_or_ge g w.heap.size with h | h
                · right
                  rw [← HC3.out g h, (hr5 g e).1]
                  omega
                · exact .inl h⟩))
              have HC5 := hib (show ∀ g, g < w.heap.size → col4 g = col g from fun g h => (hc5 g (by simp; omega)).trans (HC3.out g h))
              clear ho5 hkeep hg5 hr5 hc5 HO4 HS4 HB4 HNw HL HBa hk9
              obtain ⟨o5, c5, hv5⟩ := HO5.out.sl
              subst hv5
              go_wp2
              go_roundg (gk - 1)
              case measure => omega
              case rel => exact ⟨k + 1, col4, by omega, by omega, by first | rfl | go_num, HC5, HS5, HO5, HB5⟩
            · have hkI : ¬ (k : Int) < 9 := by omega
              have hdk : decide (k < 9) = false := by simp; omega
              have hk0 : k = 9 := by omega
              subst hk0
              have b1 : Below wr.heap.size wr (wr.alloc (.cells #[.slice o7 (Y q ++ List.replicate 9 (mkJ q)).length c7] 126)) := (Below.refl _ _).alloc (Nat.le_refl _) _
              have HO4 := hib (HO3.out.later b1)
              have HS4 := hib (HS3.out.later b1)
              have HB4 := hib (HB3.out.later hB b1)
              have HNw := hib (cell_newV wr (.slice o7 (Y q ++ List.replicate 9 (mkJ q)).length c7) 126)
              have hML := HM.out
              have HL := hib (show (M.length + ([.slice o7 (Y q ++ List.replicate 9 (mkJ q)).length c7] : List Value).length) * 24 ≤ 140737488355328 ∧ M.length + ([.slice o7 (Y q ++ List.replicate 9 (mkJ q)).length c7] : List Value).length ≤ maxLen from ⟨by simp; omega, by unfold maxLen; simp; omega⟩)
              have HBa := hib (show w.heap.size ≤ (wr.alloc (.cells #[.slice o7 (Y q ++ List.replicate 9 (mkJ q)).length c7] 126)).heap.size by simp; omega)
              generalize hln : (Y q ++ List.replicate 9 (mkJ q)).length = ln at *
              have HLn := hib hln
              clear hln b1 HO3 HS3 HB3 hML hk9
              go_wp2_with (at_builtin; refine wpList_appD siinf Tryz.underlying31 rfl (by decide) eV_len rfl (.tmp 51) (.tmp 53) rfl rfl HS4.out.2.1 _ _ _ [.slice o7 ln c7] rfl rfl (fun x hx => by simp at hx; subst hx; simp [eV, Value.oneCell']) HNw.out HL.out.1 HL.out.2 HBa.out ?n2)
              case n2 =>
              intro v' w5 col4 ho5 hkeep hg5 hr5' hc5'
              have hr5 := fun g e => And.intro (hr5' g e).1 (show g < (wr.alloc (.cells #[.slice o7 ln c7] 126)).heap.size by simpa using (hr5' g e).2)
              have hc5 := fun g (h : g < (wr.alloc (.cells #[.slice o7 ln c7] 126)).heap.size) => hc5' g (by simpa using h)
              clear hr5' hc5'
              have HS5 := hib (show I2 col4 w5 B w.heap.size (.slice (some ⟨bk, 0, none⟩) V.length ic) v' V (M ++ [.slice o7 ln c7]) Y from by
                have h4 := HS4.out
                refine ⟨⟨h4.1.1.app hg5 hr5 hc5 (by (try dsimp only); omega), h4.1.2.app hg5 hr5 hc5 (fun j hj _ => by (try dsimp only); omega)⟩, ho5, RwG.snoc (h4.2.2.app hg5 hr5 hc5 (fun j hj _ => by (try dsimp only); omega)) fun _ => ?_⟩
                have := HO4.out.app hg5 hr5 hc5 (by (try dsimp only); omega)
                rw [HM.out]
                exact this)
              have HB5 := hib (HB4.out.grown hB hg5 (fun g e => by have := (HS4.out.2.1.lt g (by first | exact e | simpa using e)).1; exact ⟨by omega, .inl this⟩))
              have HC5 := hib (show ∀ g, g < w.heap.size → col4 g = col g from fun g h => (hc5 g (by simp; omega)).trans (HC3.out g h))
              have HM5 := hib (show (M ++ [Value.slice o7 ln c7]).length = q + 1 by rw [List.length_append, HM.out]; rfl)
              clear ho5 hkeep hg5 hr5 hc5 HO4 HS4 HB4 HNw HL HBa
              obtain ⟨o5, c5, hv5⟩ := HS5.out.2.1.sl
              subst hv5
              go_wp2
              go_roundg (gO - 1)
              case measure => obtain ⟨h1, h2⟩ := HG.out; omega
              case rel => exact ⟨q + 1, col4, _, by omega, by obtain ⟨h1, h2⟩ := HG.out; omega, by first | rfl | go_num, HM5, HC5, HS5, HB5⟩
        · have hltI : ¬ (q : Int) < (V.length : Int) := by omega
          have hdI : decide (q < V.length) = false := by simp; omega
          have hqV : q = V.length := by omega
          have HMV := hib (show M.length = V.length by rw [HM.out]; exact hqV)
          clear hm hlt
          go_wp2_with fail
          obtain ⟨w6, hw6⟩ : ∃ w6, w6 = wr := ⟨_, rfl⟩
          subst hw6
          go_loopg [9] V.length (fun g s9 wc => ∃ (p : Nat), p ≤ V.length ∧ V.length - p ≤ g ∧ s9 = .int .i64 (p : Int) ∧ wc = w6)
          case atStart => exact ⟨0, Nat.zero_le _, Nat.le_refl _, rfl, rfl⟩
          case round =>
            obtain ⟨p, hp, hm, h9, hwc⟩ := hrel
            subst h9
            replace hwc := hwc.symm
            subst hwc
            by_cases hlt : p < V.length
            · have hltI : (p : Int) < (V.length : Int) := by omega
              have hdI : decide (p < V.length) = true := by simp; exact hlt
              obtain ⟨gO, hgO⟩ : ∃ gO, gO = gk := ⟨_, rfl⟩
              have hltM : p < M.length := by rw [HMV.out]; exact hlt
              obtain ⟨bk, kc, hkv, hkc, ck⟩ := HS2.out.1.1.cellV p hlt
              injection hkv with e1 _ e3
              subst e1 e3
              obtain ⟨bm, kc2, hmv, hkc2, cm⟩ := HS2.out.2.1.cellV p hltM
              injection hmv with e1 e2 e3
              subst e1 e3
              obtain ⟨ap, cp, hvp⟩ := (HS2.out.1.2 p hlt trivial).sl
              obtain ⟨gm, cpm, hmp, hcm, _⟩ := (HS2.out.2.2 p hltM trivial).atI 0 (by simp)
              obtain ⟨N, hN⟩ : ∃ N, N = (Y p).length := ⟨_, rfl⟩
              obtain ⟨N9, hN9⟩ : ∃ N9, N9 = (Y p ++ List.replicate 9 (mkJ p)).length := ⟨_, rfl⟩
              have hN9' : N9 = N + 9 := by rw [hN9, hN]; simp
              rw [← hN] at hvp
              rw [← hN9] at hmp hcm
              have hmore : ∀ k, k < N9 → w6.cell? ⟨gm, k, none⟩ = some (.int .i64 (p : Int)) := by
                intro k hk
                have hk' : k < (Y p ++ List.replicate 9 (mkJ p)).length := by rw [← hN9]; exact hk
                obtain ⟨g', c', e, _, hc, _⟩ := (HS2.out.2.2 p hltM trivial).atI k hk'
                rw [hmp] at e
                injection e with e1
                injection e1 with e1
                injection e1 with e1
                subst e1
                have hf := (HFA.out p hlt).all 9 k (by rw [← hN]; omega)
                rw [List.getElem?_eq_getElem hk'] at hf
                injection hf with hf
                rw [hf] at hc
                exact hc
              have hlist : ∀ k, k < N → ∃ gp, ap = some ⟨gp, 0, none⟩ ∧ N ≤ cp ∧ w6.cell? ⟨gp, k, none⟩ = some (.int .i64 (p : Int)) := by
                intro k hk
                have hk' : k < (Y p).length := by rw [← hN]; exact hk
                obtain ⟨g', c', e, hcc, hc, _⟩ := (HS2.out.1.2 p hlt trivial).atI k hk'
                rw [hvp] at e
                injection e with e1 e2 e3
                subst e3
                have hf := HFA.out p hlt k (by rw [← hN]; exact hk)
                rw [List.getElem?_eq_getElem hk'] at hf
                injection hf with hf
                rw [hf] at hc
                exact ⟨g', e1, by rw [hN]; exact hcc, hc⟩
              rw [hvp] at ck
              rw [hmp] at cm
              have hNb : N ≤ 1000000000000 := by rw [hN, HY.out p]; exact HX.out p
              have HMo := hib hmore
              have HLi := hib hlist
              have HG := hib (And.intro hgO hm)
              have HN9 := hib hN9'
              have hN9b : N9 ≤ 1000000000009 := by omega
              clear hgO hm hmore hlist hvp hmp hN hN9 hN9' e2
              go_wp2_with fail
              go_loopg [10] N9 (fun g s10 wc => ∃ (k : Nat), k ≤ N9 ∧ N9 - k ≤ g ∧ s10 = .int .i64 (k : Int) ∧ wc = w6)
              case atStart => exact ⟨0, Nat.zero_le _, Nat.le_refl _, rfl, rfl⟩
              case round =>
                obtain ⟨k, hk, hm2, h10, hwc⟩ := hrel
                subst h10
                replace hwc := hwc.symm
                subst hwc
                by_cases hk9 : k < N9
                · have hkI : (k : Int) < (N9 : Int) := by omega
                  have hdk : decide (k < N9) = true := by simp; exact hk9
                  have hc1 := HMo.out k hk9
                  by_cases hkN : k < N
                  · have hkNI : (k : Int) < (N : Int) := by omega
                    have hdN : decide (k < N) = true := by simp; exact hkN
                    obtain ⟨gp, hap, hcp, hc2⟩ := HLi.out k hkN
                    subst hap
                    clear hkN hk9
                    go_wp2
                    go_roundg (gk - 1)
                    case measure => omega
                    case rel => exact ⟨k + 1, by omega, by omega, by first | rfl | go_num, rfl⟩
                  · have hkNI : ¬ (k : Int) < (N : Int) := by omega
                    have hdN : decide (k < N) = false := by simp; omega
                    clear hkN hk9
                    go_wp2
                    go_roundg (gk - 1)
                    case measure => omega
                    case rel => exact ⟨k + 1, by omega, by omega, by first | rfl | go_num, rfl⟩
                · have hkI : ¬ (k : Int) < (N9 : Int) := by omega
                  have hdk : decide (k < N9) = false := by simp; omega
                  clear hk9 hm2
                  go_wp2
                  go_roundg (gO - 1)
                  case measure => obtain ⟨h1, h2⟩ := HG.out; omega
                  case rel => exact ⟨p + 1, by omega, by obtain ⟨h1, h2⟩ := HG.out; omega, by first | rfl | go_num, rfl⟩
            · have hltI : ¬ (p : Int) < (V.length : Int) := by omega
              have hdI : decide (p < V.length) = false := by simp; omega
              go_wp2
              go_ret
              exact ⟨rfl, HB2.out⟩
end Go.Proofs.YtpgpeafmlijfkaaGreatDoor

namespace Go.Proofs.YtpgpeafmlijfkaaGreatDoor
open Go.RowKit
set_option maxRecDepth 100000
set_option linter.unusedVariables false
set_option linter.unusedSimpArgs false

def eT (x : ByteArray) : List Value := [.string x]
theorem eT_len (x : ByteArray) : (eT x).length = 1 := rfl
theorem eT_one (x : ByteArray) : ∀ u ∈ eT x, u.oneCell' = true := by simp [eT, Value.oneCell']
/-- the mark of the list i -/
def nt (i : Nat) : ByteArray := ⟨#[UInt8.ofNat (i % 251), UInt8.ofNat (i / 251)]⟩
def LtC (w w' : World) : Prop := Below w.heap.size w w'
theorem LtC.refl (w : World) : LtC w w := Below.refl _ _
theorem LtC.step {a b c : World} (h : LtC a b) (k : Below b.heap.size b c) : LtC a c := Below.trans h (Below.mono k (Below.size h))
theorem LtC.drew (w : World) : LtC w w.drew := (Below.refl _ _).drew
theorem txinf : (Tryz.prog.info? 9).map (fun i => (i.zero, i.size, i.bytes)) = some (some (.string ⟨#[]⟩), 1, 16) := by kernel_rfl
theorem stinf : (Tryz.prog.info? 28).map (fun i => (i.zero, i.size, i.bytes)) = some (some (.slice none 0 0), 1, 24) := by kernel_rfl
theorem noteA (k : Nat) (hk : k ≤ 5000000000000) (w : World) : Calls Tryz.prog 61 #[.int .i64 (k : Int)] w fun e w' => e = .returned (.string (nt k)) ∧ Below w.heap.size w w' := by
  have h1 : (k : Int).tmod 251 = ((k % 251 : Nat) : Int) := by rw [Int.tmod_eq_emod_of_nonneg (by omega)]; omega
  have h2 : (k : Int).tdiv 251 = ((k / 251 : Nat) : Int) := by rw [Int.tdiv_eq_ediv_of_nonneg (by omega)]; omega
  have h3 : IntKind.u8.wrap ((k % 251 : Nat) : Int) = ((k % 251 : Nat) : Int) := by rw [IntKind.wrap_u8]; omega
  have h4 : IntKind.u8.wrap ((k / 251 : Nat) : Int) = (((k / 251 : Nat) : Int) % 256) := by rw [IntKind.wrap_u8]
  have h5 : k / 251 ≤ 5000000000000 := by omega
  have q1 : ∀ W : World, W = w.alloc (.cells #[.int .u8 ((k % 251 : Nat) : Int), .int .u8 (((k / 251 : Nat) : Int) % 256)] 5) → (convert 37 9 (.slice (some ⟨w.heap.size, 0, none⟩) 2 2)).run Tryz.prog W = .ok (.string (nt k)) W := fun W hW => by
    have := run_convert_bytes_arg (P := Tryz.prog) W 37 5 Tryz.underlying37 Tryz.underlying5 w.heap.size 0 2 2 [((k % 251 : Nat) : Int), (((k / 251 : Nat) : Int) % 256)] rfl (fun i hi => by
      subst hW
      match i, hi with
      | 0, _ => simp
      | 1, _ => simp)
    refine (this 9 Tryz.underlying9).trans ?_
    have e : UInt8.ofNat (((k / 251 : Nat) : Int) % 256).toNat = UInt8.ofNat (k / 251) := by
      apply UInt8.toNat_inj.1
      simp
      omega
    have e0 : strOfNums [((k % 251 : Nat) : Int), (((k / 251 : Nat) : Int) % 256)] = nt k := by
      show (⟨#[UInt8.ofNat (((k % 251 : Nat) : Int)).toNat, UInt8.ofNat ((((k / 251 : Nat) : Int) % 256)).toNat]⟩ : ByteArray) = ⟨#[UInt8.ofNat (k % 251), UInt8.ofNat (k / 251)]⟩
      rw [e, Int.toNat_natCast]
    rw [e0]
  have q2 := q1 _ rfl
  clear q1
  generalize k % 251 = a at *
  generalize k / 251 = b at *
  go_enter Tryz.func61, Tryz.ntmps61
  go_wp2_with fail
  go_ret
  exact ⟨rfl, (Below.refl _ _).alloc (Nat.le_refl _) _⟩
end Go.Proofs.YtpgpeafmlijfkaaGreatDoor

namespace Go.Proofs.YtpgpeafmlijfkaaGreatDoor
open Go.RowKit
set_option maxRecDepth 100000
set_option linter.unusedVariables false
set_option linter.unusedSimpArgs false

theorem cell_newT (w : World) (x : ByteArray) : ∀ j u, (([x] : List ByteArray).flatMap eT)[j]? = some u → (w.alloc (.cells #[.string x] 9)).cell? ((⟨w.heap.size, 0, none⟩ : Addr).add j) = some u := by
  intro j u hj
  match j, hj with
  | 0, hj => simp [eT] at hj; subst hj; simp [Addr.add]
  | j + 1, hj => simp [eT] at hj
/-- nothing below B, and nothing whose colour is not a list's, has turned -/
structure By (B : Nat) (col : Nat → Nat) (w w' : World) : Prop where
  bel : Below B w w'
  oth : ∀ g, g < w.heap.size → col g % 8 ≠ 0 → w'.heap[g]? = w.heap[g]?
theorem By.refl (B : Nat) (col : Nat → Nat) (w : World) : By B col w w := ⟨Below.refl _ _, fun _ _ _ => rfl⟩
theorem By.set {B : Nat} {col : Nat → Nat} {w w' : World} (h : By B col w w') {g i : Nat} (hg : B ≤ g) (hc : col g = 8 * i) (k : Nat) (u : Value) : By B col w (w'.setCell ⟨g, k, none⟩ u) :=
  ⟨h.bel.setCell (p := ⟨g, k, none⟩) hg u, fun q hq hne => ((gb_set w' g k u).block q (Nat.lt_of_lt_of_le hq h.bel.size) (fun e => by injection e with e; subst e; omega)).trans (h.oth q hq hne)⟩
theorem By.later {B : Nat} {col : Nat → Nat} {w w' w2 : World} (h : By B col w w') (hB : B ≤ w.heap.size) (hb : Below w'.heap.size w' w2) : By B col w w2 :=
  ⟨h.bel.trans (hb.mono (Nat.le_trans hB h.bel.size)), fun q hq hne => (hb.block q (Nat.lt_of_lt_of_le hq h.bel.size)).trans (h.oth q hq hne)⟩
theorem By.grown {B : Nat} {col : Nat → Nat} {w w' w2 : World} {row : Option Nat} (h : By B col w w') (hB : B ≤ w.heap.size) (hg : w'.grownBy w2 row) (hr : ∀ g, row = some g → B ≤ g ∧ (w.heap.size ≤ g ∨ col g % 8 = 0)) : By B col w w2 :=
  ⟨gb_below h.bel hB hg (fun g e => (hr g e).1), fun q hq hne => (hg.block q (Nat.lt_of_lt_of_le hq h.bel.size) (fun e => by rcases (hr q e.symm).2 with h | h <;> omega)).trans (h.oth q hq hne)⟩
theorem belC {w w' : World} (hb : LtC w w') {p : Addr} {u : Value} (h : w.cell? p = some u) : w'.cell? p = some u := (Below.cell hb (p := p) (World.block_lt_of_cell? _ _ h)).trans h
/-- lists of texts in memory -/
def J1 (col : Nat → Nat) (w : World) (B : Nat) (iv : Value) (V : List Value) (Y : Nat → List ByteArray) : Prop := Ow eV 1 28 col 4 w B iv V ∧ RwG eT 1 9 (fun j => 8 * j) col w B (fun _ => True) V Y
theorem J1.set {col : Nat → Nat} {w : World} {B : Nat} {iv : Value} {V : List Value} {Y : Nat → List ByteArray} (h : J1 col w B iv V Y) (i k : Nat) (hi : i < V.length) (hk : k < (Y i).length) (x : ByteArray) {g n cap : Nat} (hv : V[i] = .slice (some ⟨g, 0, none⟩) n cap) :
    J1 col (w.setCell ⟨g, k, none⟩ (.string x)) B iv V (fun j => if j = i then (Y i).set k x else Y j) := by
  have ho := h.2 i hi trivial
  have hcg : col g = 8 * i := ho.2 g (by rw [hv]; rfl)
  have gb := gb_set w g k (.string x)
  refine ⟨h.1.other gb (fun g' e => by cases e; exact hcg) (by (try dsimp only); omega), fun j hj _ => ?_⟩
  by_cases e : j = i
  · subst e
    show Ow eT 1 9 col (8 * j) _ B V[j] (if j = j then (Y j).set k x else Y j)
    rw [if_pos rfl]
    exact ho.set1 eT_len k hk x hv rfl
  · show Ow eT 1 9 col (8 * j) _ B V[j] (if j = i then (Y i).set k x else Y j)
    rw [if_neg e]
    exact (h.2 j hj trivial).other gb (fun g' e => by cases e; exact hcg) (by (try dsimp only); omega)
/-- while the grown lists are gathered -/
def J2 (col : Nat → Nat) (w : World) (B B2 : Nat) (iv mv : Value) (V M : List Value) (Y : Nat → List ByteArray) : Prop := J1 col w B iv V Y ∧ Ow eV 1 28 col 20 w B2 mv M ∧ RwG eT 1 9 (fun j => 8 * j) col w B (fun _ => True) M (fun j => Y j ++ List.replicate 9 (nt j))
theorem J2.later {col : Nat → Nat} {w w' : World} {B B2 : Nat} {iv mv : Value} {V M : List Value} {Y : Nat → List ByteArray} (h : J2 col w B B2 iv mv V M Y) (hb : Below w.heap.size w w') : J2 col w' B B2 iv mv V M Y := ⟨⟨h.1.1.later hb, h.1.2.later hb⟩, h.2.1.later hb, h.2.2.later hb⟩
/-- a text of a list -/
theorem Ow.atT {col : Nat → Nat} {c : Nat} {w : World} {B : Nat} {v : Value} {L : List ByteArray} (h : Ow eT 1 9 col c w B v L) (i : Nat) (hi : i < L.length) : ∃ g cap, v = .slice (some ⟨g, 0, none⟩) L.length cap ∧ L.length ≤ cap ∧ w.cell? ⟨g, i, none⟩ = some (.string L[i]) ∧ w.frozen? ⟨g, i, none⟩ = false ∧ B ≤ g := by
  obtain ⟨g, cap, hv, h1, h2, _, _, hq, hf⟩ := Ow.at eT_len h i hi
  refine ⟨g, cap, hv, h1, ?_, hf _, h2⟩
  have := hq 0 (.string L[i]) rfl
  simpa using this
set_option maxHeartbeats 8000000 in
theorem apTexts_any (w : World) (B : Nat) (col : Nat → Nat) (iv : Value) (V : List Value) (X : Nat → List ByteArray) (hI : J1 col w B iv V X) (hB : B ≤ w.heap.size) (hX : ∀ j, (X j).length ≤ 1000000000000) (hl : V.length ≤ 1000000000000) :
    Calls Tryz.prog 41 #[iv] w fun e w' => e = .returned (.bool true) ∧ By B col w w' := by
  obtain ⟨io, ic, hiv⟩ := hI.1.sl
  subst hiv
  have HI := hib hI
  have HX := hib hX
  clear hI hX
  go_enter Tryz.func41, Tryz.ntmps41
  go_wp2_with fail
  go_loopg [3] V.length (fun g s3 wr => ∃ (i : Nat) (Y : Nat → List ByteArray), i ≤ V.length ∧ V.length - i ≤ g ∧ s3 = .int .i64 (i : Int) ∧ Hid (J1 col wr B (.slice io V.length ic) V Y) ∧ Hid (∀ a, (Y a).length = (X a).length) ∧ Hid (∀ a, a < i → FilM nt a (Y a) (Y a).length) ∧ Hid (By B col w wr))
  case atStart => exact ⟨0, X, Nat.zero_le _, Nat.le_refl _, rfl, HI, hib (fun _ => rfl), hib (fun a h => by omega), hib (By.refl _ _ _)⟩
  case round =>
    obtain ⟨i, Y, hi, hm, h3, HS, HY, HF, HB⟩ := hrel
    subst h3
    by_cases hlt : i < V.length
    · have hltI : (i : Int) < (V.length : Int) := by omega
      have hdI : decide (i < V.length) = true := by simp; exact hlt
      obtain ⟨gO, hgO⟩ : ∃ gO, gO = gk := ⟨_, rfl⟩
      obtain ⟨bk, kc, hkv, hkc, _⟩ := HS.out.1.cellV i hlt
      injection hkv with e1 _ e3
      subst e1 e3
      obtain ⟨ai, ci, hvi⟩ := (HS.out.2 i hlt trivial).sl
      obtain ⟨N, hN⟩ : ∃ N, N = (X i).length := ⟨_, rfl⟩
      rw [HY.out i, ← hN] at hvi
      have HVI := hib hvi
      have HN := hib hN
      have hNl : N ≤ 1000000000000 := by rw [hN]; exact HX.out i
      have HG := hib (And.intro hgO hm)
      clear hvi hN hgO hm
      go_wp2_with fail
      go_loopg [4] N (fun g s4 wr => ∃ (k : Nat) (Y : Nat → List ByteArray), k ≤ N ∧ N - k ≤ g ∧ s4 = .int .i64 (k : Int) ∧ Hid (J1 col wr B (.slice (some ⟨bk, 0, none⟩) V.length ic) V Y) ∧ Hid (∀ a, (Y a).length = (X a).length) ∧ Hid (∀ a, a < i → FilM nt a (Y a) (Y a).length) ∧ Hid (FilM nt i (Y i) k) ∧ Hid (By B col w wr))
      case atStart => exact ⟨0, Y, Nat.zero_le _, Nat.le_refl _, rfl, HS, HY, HF, hib (fun q h => by omega), HB⟩
      case round =>
        obtain ⟨k, Y2, hk, hm2, h4, HS2, HY2, HF2, HFi, HB2⟩ := hrel
        subst h4
        have ck : wr.cell? ⟨bk, i, none⟩ = some (.slice ai N ci) := by
          obtain ⟨g', c', e, _, hq⟩ := HS2.out.1.cellV i hlt
          cases e
          rw [HVI.out] at hq
          exact hq
        clear HS HY HF HB
        by_cases hk3 : k < N
        · have hkI : (k : Int) < (N : Int) := by omega
          have hdk : decide (k < N) = true := by simp; exact hk3
          obtain ⟨gi, ci', e, hci, hc, hf, hBg⟩ := (HS2.out.2 i hlt trivial).atT k (by rw [HY2.out i, ← HN.out]; exact hk3)
          rw [HVI.out] at e
          injection e with e1 e2 e3
          subst e1 e3
          obtain ⟨z0, hz0⟩ : ∃ z, wr.cell? ⟨gi, k, none⟩ = some (.string z) := ⟨_, hc⟩
          have hS3 := HS2.out.set i k hlt (by rw [HY2.out i, ← HN.out]; exact hk3) (nt i) HVI.out
          have HS3 := hib hS3
          have hY3 : ∀ a, ((fun j => if j = i then (Y2 i).set k (nt i) else Y2 j) a).length = (X a).length := fun a => by
            show (if a = i then (Y2 i).set k (nt i) else Y2 a).length = _
            by_cases e : a = i
            · subst e; rw [if_pos rfl, List.length_set]; exact HY2.out _
            · rw [if_neg e]; exact HY2.out a
          have hF3 : ∀ a, a < i → FilM nt a ((fun j => if j = i then (Y2 i).set k (nt i) else Y2 j) a) ((fun j => if j = i then (Y2 i).set k (nt i) else Y2 j) a).length := fun a ha => by
            show FilM nt a (if a = i then (Y2 i).set k (nt i) else Y2 a) (if a = i then (Y2 i).set k (nt i) else Y2 a).length
            rw [if_neg (by omega)]
            exact HF2.out a ha
          have hFi3 : FilM nt i ((fun j => if j = i then (Y2 i).set k (nt i) else Y2 j) i) (k + 1) := by
            show FilM nt i (if i = i then (Y2 i).set k (nt i) else Y2 i) (k + 1)
            rw [if_pos rfl]
            exact HFi.out.step (by rw [HY2.out i, ← HN.out]; exact hk3)
          have HY3 := hib hY3
          have HF3 := hib hF3
          have HFi3 := hib hFi3
          have hcol := (HS2.out.2 i hlt trivial).2 gi (by rw [HVI.out]; rfl)
          have HW3 := hib (show ∀ w5, LtC wr w5 → J1 col (w5.setCell ⟨gi, k, none⟩ (.string (nt i))) B (.slice (some ⟨bk, 0, none⟩) V.length ic) V (fun j => if j = i then (Y2 i).set k (nt i) else Y2 j) ∧ By B col w (w5.setCell ⟨gi, k, none⟩ (.string (nt i))) from fun w5 h5 =>
            ⟨J1.set ⟨HS2.out.1.later h5, HS2.out.2.later h5⟩ i k hlt (by rw [HY2.out i, ← HN.out]; exact hk3) (nt i) HVI.out, (HB2.out.later hB h5).set hBg hcol k _⟩)
          have KK := hib (show ∀ wx, LtC wr wx → wx.cell? ⟨bk, i, none⟩ = some (.slice (some ⟨gi, 0, none⟩) N ci) ∧ wx.cell? ⟨gi, k, none⟩ = some (.string z0) ∧ wx.frozen? ⟨gi, k, none⟩ = false from fun wx hx => ⟨belC hx ck, belC hx hz0, (World.frozen?_of_block (hx.block gi (World.block_lt_of_cell? _ _ hz0))).trans hf⟩)
          generalize (fun j => if j = i then (Y2 i).set k (nt i) else Y2 j) = Y3 at HW3 HY3 HF3 HFi3
          have K0 := LtC.refl wr
          have K1 := LtC.drew wr
          clear hS3 hY3 hF3 hFi3 hc e2 hk3 HS3 hcol
          go_upto_region 7 with fail
          obtain ⟨d1, d2, d3⟩ := KK.out _ K1
          go_region_with (first
            | (go_at_call 61; refine (noteA i (by omega) _).mono ?_; rintro e w5 ⟨rfl, s5⟩; have K5 := LtC.step (by assumption) s5; obtain ⟨f1, f2, f3⟩ := KK.out _ K5; clear s5))
          all_goals go_wp2
          all_goals go_roundg (gk - 1)
          all_goals first
            | omega
            | exact ⟨k + 1, Y3, by omega, by omega, by first | rfl | go_num, hib (HW3.out _ (by assumption)).1, HY3, HF3, HFi3, hib (HW3.out _ (by assumption)).2⟩
        · have hkI : ¬ (k : Int) < (N : Int) := by omega
          have hdk : decide (k < N) = false := by simp; omega
          have HF3 := hib (show ∀ a, a < i + 1 → FilM nt a (Y2 a) (Y2 a).length from fun a ha => by
            by_cases e : a = i
            · subst e
              rw [HY2.out, ← HN.out]
              have : k = N := by omega
              subst this
              exact HFi.out
            · exact HF2.out a (by omega))
          clear hk3 hm2
          go_wp2
          go_roundg (gO - 1)
          case measure => obtain ⟨h1, h2⟩ := HG.out; omega
          case rel => exact ⟨i + 1, Y2, by omega, by obtain ⟨h1, h2⟩ := HG.out; omega, by first | rfl | go_num, HS2, HY2, HF3, HB2⟩
    · have hltI : ¬ (i : Int) < (V.length : Int) := by omega
      have hdI : decide (i < V.length) = false := by simp; omega
      have HFA := hib (show ∀ a, a < V.length → FilM nt a (Y a) (Y a).length from fun a ha => HF.out a (by omega))
      clear HF hm hlt
      go_wp2_with fail
      go_loopg [5, 6] V.length (fun g s5 s6 wr => ∃ (q : Nat) (col2 : Nat → Nat) (M : List Value), q ≤ V.length ∧ V.length - q ≤ g ∧ s6 = .int .i64 (q : Int) ∧ Hid (M.length = q) ∧ Hid (∀ g, g < w.heap.size → col2 g = col g) ∧ Hid (J2 col2 wr B w.heap.size (.slice io V.length ic) s5 V M Y) ∧ Hid (By B col w wr))
      case atStart => exact ⟨0, col, [], Nat.zero_le _, Nat.le_refl _, rfl, hib rfl, hib (fun _ _ => rfl), hib ⟨HS.out, Ow.nil _ _ _ _, RwG.nil _ _ _ _ _ _ _ _ _⟩, HB⟩
      case round =>
        obtain ⟨q, col2, M, hq, hm, h6, HM, HC2, HS2, HB2⟩ := hrel
        subst h6
        clear HS HB
        obtain ⟨mo, mc, hmv⟩ := HS2.out.2.1.sl
        rw [HM.out] at hmv
        subst hmv
        by_cases hlt : q < V.length
        · have hltI : (q : Int) < (V.length : Int) := by omega
          have hdI : decide (q < V.length) = true := by simp; exact hlt
          obtain ⟨gO, hgO⟩ : ∃ gO, gO = gk := ⟨_, rfl⟩
          obtain ⟨bk, kc, hkv, hkc, ck⟩ := HS2.out.1.1.cellV q hlt
          injection hkv with e1 _ e3
          subst e1 e3
          have hYl : (Y q).length ≤ 1000000000000 := by rw [HY.out q]; exact HX.out q
          obtain ⟨V9, hV9⟩ : ∃ u, u = V[q] := ⟨_, rfl⟩
          rw [← hV9] at ck
          have hOw := HS2.out.1.2 q hlt trivial
          rw [← hV9] at hOw
          have HOw := hib hOw
          have HG := hib (And.intro hgO hm)
          have HV9 := hib hV9
          clear hOw hgO hm hV9
          go_wp2_with fail
          go_loopg [7, 8] 9 (fun g s7 s8 wr => ∃ (k : Nat) (col3 : Nat → Nat), k ≤ 9 ∧ 9 - k ≤ g ∧ s8 = .int .i64 (k : Int) ∧ Hid (∀ g, g < w.heap.size → col3 g = col g) ∧ Hid (J2 col3 wr B w.heap.size (.slice (some ⟨bk, 0, none⟩) V.length ic) (.slice mo q mc) V M Y) ∧ Hid (Ow eT 1 9 col3 (8 * q) wr B s7 (Y q ++ List.replicate k (nt q))) ∧ Hid (By B col w wr))
          case atStart => exact ⟨0, col2, by omega, by omega, rfl, HC2, HS2, hib (by simpa using HOw.out), HB2⟩
          case round =>
            obtain ⟨k, col3, hk, hm2, h8, HC3, HS3, HO3, HB3⟩ := hrel
            subst h8
            clear HS2 HB2 HOw ck
            obtain ⟨o7, c7, hv7⟩ := HO3.out.sl
            obtain ⟨ln, hln⟩ : ∃ ln, ln = (Y q ++ List.replicate k (nt q)).length := ⟨_, rfl⟩
            rw [← hln] at hv7
            subst hv7
            have HLn := hib hln
            clear hln
            have hBw : B ≤ wr.heap.size := by have := HB3.out.bel.size; omega
            have hww : w.heap.size ≤ wr.heap.size := HB3.out.bel.size
            by_cases hk9 : k < 9
            · have hkI : (k : Int) < 9 := by omega
              have hdk : decide (k < 9) = true := by simp; exact hk9
              have HNo := hib (noteA q (by omega) wr)
              go_wp2_with fail
              refine Calls.mono HNo.out ?_
              rintro e wq ⟨rfl, bq⟩
              have hBq : B ≤ wq.heap.size := by have := bq.size; omega
              have hwq : w.heap.size ≤ wq.heap.size := by have := bq.size; omega
              have HOq := hib (HO3.out.later bq)
              have HSq := hib (HS3.out.later bq)
              have HBq := hib (HB3.out.later hB bq)
              clear HO3 HS3 HB3 bq HNo
              have b1 : Below wq.heap.size wq (wq.alloc (.cells #[.string (nt q)] 9)) := (Below.refl _ _).alloc (Nat.le_refl _) _
              have HO4 := hib (HOq.out.later b1)
              have HS4 := hib (HSq.out.later b1)
              have HB4 := hib (HBq.out.later hB b1)
              have hnew := cell_newT wq (nt q)
              have HNw := hib hnew
              have hL1 : ((Y q ++ List.replicate k (nt q)).length + ([nt q] : List ByteArray).length) * 16 ≤ 140737488355328 := by simp; omega
              have hL2 : (Y q ++ List.replicate k (nt q)).length + ([nt q] : List ByteArray).length ≤ maxLen := by unfold maxLen; simp; omega
              have HL := hib (And.intro hL1 hL2)
              have hBa : B ≤ (wq.alloc (.cells #[.string (nt q)] 9)).heap.size := by simp; omega
              have HBa := hib hBa
              clear hnew hL1 hL2 hBa b1 HOq HSq HBq
              go_wp2_with (at_builtin; refine wpList_appD txinf Tryz.underlying28 rfl (by decide) eT_len rfl (.tmp 48) (.tmp 51) rfl rfl HO4.out _ _ _ [nt q] rfl rfl (fun x hx => eT_one x) HNw.out HL.out.1 HL.out.2 HBa.out ?n1)
              case n1 =>
              intro v' w5 col4 ho5 hkeep hg5 hr5' hc5'
              have hr5 := fun g e => And.intro (hr5' g e).1 (show g < (wq.alloc (.cells #[.string (nt q)] 9)).heap.size by simpa using (hr5' g e).2)
              have hc5 := fun g (h : g < (wq.alloc (.cells #[.string (nt q)] 9)).heap.size) => hc5' g (by simpa using h)
              clear hr5' hc5'
              have HO5 := hib (show Ow eT 1 9 col4 (8 * q) w5 B v' (Y q ++ List.replicate (k + 1) (nt q)) by rw [List.replicate_succ']; first | exact ho5 | (rw [← List.append_assoc]; exact ho5))
              have HS5 := hib (show J2 col4 w5 B w.heap.size (.slice (some ⟨bk, 0, none⟩) V.length ic) (.slice mo q mc) V M Y from by
                have h4 := HS4.out
                refine ⟨⟨h4.1.1.app hg5 hr5 hc5 (by (try dsimp only); omega), fun j hj _ => ?_⟩, h4.2.1.app hg5 hr5 hc5 (by (try dsimp only); omega), h4.2.2.app hg5 hr5 hc5 (fun j hj _ => by have := HM.out; (try dsimp only); omega)⟩
                by_cases e : j = q
                · subst e
                  exact hkeep _ _ _ (h4.1.2 j hj trivial) (by simp)
                · exact (h4.1.2 j hj trivial).app hg5 hr5 hc5 (by (try dsimp only); omega))
              have HB5 := hib (HB4.out.grown hB hg5 (fun g e => ⟨(HO4.out.lt g (by first | exact e | simpa using e)).1, by
                rcases Nat.lt_or_ge g w.heap.size with h | h
                · right
                  rw [← HC3.out g h, (hr5 g e).1]
                  omega
                · exact .inl h⟩))
              have HC5 := hib (show ∀ g, g < w.heap.size → col4 g = col g from fun g h => (hc5 g (by simp; omega)).trans (HC3.out g h))
              clear ho5 hkeep hg5 hr5 hc5 HO4 HS4 HB4 HNw HL HBa hk9
              obtain ⟨o5, c5, hv5⟩ := HO5.out.sl
              subst hv5
              go_wp2
              go_roundg (gk - 1)
              case measure => omega
              case rel => exact ⟨k + 1, col4, by omega, by omega, by first | rfl | go_num, HC5, HS5, HO5, HB5⟩
            · have hkI : ¬ (k : Int) < 9 := by omega
              have hdk : decide (k < 9) = false := by simp; omega
              have hk0 : k = 9 := by omega
              subst hk0
              have b1 : Below wr.heap.size wr (wr.alloc (.cells #[.slice o7 ln c7] 28)) := (Below.refl _ _).alloc (Nat.le_refl _) _
              have HO4 := hib (HO3.out.later b1)
              have HS4 := hib (HS3.out.later b1)
              have HB4 := hib (HB3.out.later hB b1)
              have HNw := hib (cell_newV wr (.slice o7 ln c7) 28)
              have hML := HM.out
              have HL := hib (show (M.length + ([.slice o7 ln c7] : List Value).length) * 24 ≤ 140737488355328 ∧ M.length + ([.slice o7 ln c7] : List Value).length ≤ maxLen from ⟨by simp; omega, by unfold maxLen; simp; omega⟩)
              have HBa := hib (show w.heap.size ≤ (wr.alloc (.cells #[.slice o7 ln c7] 28)).heap.size by simp; omega)
              clear b1 HO3 HS3 HB3 hML hk9
              go_wp2_with (at_builtin; refine wpList_appD stinf Tryz.underlying30 rfl (by decide) eV_len rfl (.tmp 53) (.tmp 55) rfl rfl HS4.out.2.1 _ _ _ [.slice o7 ln c7] rfl rfl (fun x hx => by simp at hx; subst hx; simp [eV, Value.oneCell']) HNw.out HL.out.1 HL.out.2 HBa.out ?n2)
              case n2 =>
              intro v' w5 col4 ho5 hkeep hg5 hr5' hc5'
              have hr5 := fun g e => And.intro (hr5' g e).1 (show g < (wr.alloc (.cells #[.slice o7 ln c7] 28)).heap.size by simpa using (hr5' g e).2)
              have hc5 := fun g (h : g < (wr.alloc (.cells #[.slice o7 ln c7] 28)).heap.size) => hc5' g (by simpa using h)
              clear hr5' hc5'
              have HS5 := hib (show J2 col4 w5 B w.heap.size (.slice (some ⟨bk, 0, none⟩) V.length ic) v' V (M ++ [.slice o7 ln c7]) Y from by
                have h4 := HS4.out
                refine ⟨⟨h4.1.1.app hg5 hr5 hc5 (by (try dsimp only); omega), h4.1.2.app hg5 hr5 hc5 (fun j hj _ => by (try dsimp only); omega)⟩, ho5, RwG.snoc (h4.2.2.app hg5 hr5 hc5 (fun j hj _ => by (try dsimp only); omega)) fun _ => ?_⟩
                have := HO4.out.app hg5 hr5 hc5 (by (try dsimp only); omega)
                rw [HM.out]
                exact this)
              have HB5 := hib (HB4.out.grown hB hg5 (fun g e => by have := (HS4.out.2.1.lt g (by first | exact e | simpa using e)).1; exact ⟨by omega, .inl this⟩))
              have HC5 := hib (show ∀ g, g < w.heap.size → col4 g = col g from fun g h => (hc5 g (by simp; omega)).trans (HC3.out g h))
              have HM5 := hib (show (M ++ [Value.slice o7 ln c7]).length = q + 1 by rw [List.length_append, HM.out]; rfl)
              clear ho5 hkeep hg5 hr5 hc5 HO4 HS4 HB4 HNw HL HBa
              obtain ⟨o5, c5, hv5⟩ := HS5.out.2.1.sl
              subst hv5
              go_wp2
              go_roundg (gO - 1)
              case measure => obtain ⟨h1, h2⟩ := HG.out; omega
              case rel => exact ⟨q + 1, col4, _, by omega, by obtain ⟨h1, h2⟩ := HG.out; omega, by first | rfl | go_num, HM5, HC5, HS5, HB5⟩
        · have hltI : ¬ (q : Int) < (V.length : Int) := by omega
          have hdI : decide (q < V.length) = false := by simp; omega
          have hqV : q = V.length := by omega
          have HMV := hib (show M.length = V.length by rw [HM.out]; exact hqV)
          clear hm hlt
          go_wp2_with fail
          obtain ⟨w6, hw6⟩ : ∃ w6, w6 = wr := ⟨_, rfl⟩
          subst hw6
          go_loopg [9] V.length (fun g s9 wc => ∃ (p : Nat), p ≤ V.length ∧ V.length - p ≤ g ∧ s9 = .int .i64 (p : Int) ∧ Hid (LtC w6 wc))
          case atStart => exact ⟨0, Nat.zero_le _, Nat.le_refl _, rfl, hib (LtC.refl _)⟩
          case round =>
            obtain ⟨p, hp, hm, h9, HL9⟩ := hrel
            subst h9
            by_cases hlt : p < V.length
            · have hltI : (p : Int) < (V.length : Int) := by omega
              have hdI : decide (p < V.length) = true := by simp; exact hlt
              obtain ⟨gO, hgO⟩ : ∃ gO, gO = gk := ⟨_, rfl⟩
              have hltM : p < M.length := by rw [HMV.out]; exact hlt
              obtain ⟨bk, kc, hkv, hkc, ck⟩ := HS2.out.1.1.cellV p hlt
              injection hkv with e1 _ e3
              subst e1 e3
              obtain ⟨bm, kc2, hmv, hkc2, cm⟩ := HS2.out.2.1.cellV p hltM
              injection hmv with e1 e2 e3
              subst e1 e3
              obtain ⟨ap, cp, hvp⟩ := (HS2.out.1.2 p hlt trivial).sl
              obtain ⟨gm, cpm, hmp, hcm, _⟩ := (HS2.out.2.2 p hltM trivial).atT 0 (by simp)
              obtain ⟨N, hN⟩ : ∃ N, N = (Y p).length := ⟨_, rfl⟩
              obtain ⟨N9, hN9⟩ : ∃ N9, N9 = (Y p ++ List.replicate 9 (nt p)).length := ⟨_, rfl⟩
              have hN9' : N9 = N + 9 := by rw [hN9, hN]; simp
              rw [← hN] at hvp
              rw [← hN9] at hmp hcm
              have hmore : ∀ k, k < N9 → w6.cell? ⟨gm, k, none⟩ = some (.string (nt p)) := by
                intro k hk
                have hk' : k < (Y p ++ List.replicate 9 (nt p)).length := by rw [← hN9]; exact hk
                obtain ⟨g', c', e, _, hc, _⟩ := (HS2.out.2.2 p hltM trivial).atT k hk'
                rw [hmp] at e
                injection e with e1
                injection e1 with e1
                injection e1 with e1
                subst e1
                have hf := (HFA.out p hlt).all 9 k (by rw [← hN]; omega)
                rw [List.getElem?_eq_getElem hk'] at hf
                injection hf with hf
                rw [hf] at hc
                exact hc
              have hlist : ∀ k, k < N → ∃ gp, ap = some ⟨gp, 0, none⟩ ∧ N ≤ cp ∧ w6.cell? ⟨gp, k, none⟩ = some (.string (nt p)) := by
                intro k hk
                have hk' : k < (Y p).length := by rw [← hN]; exact hk
                obtain ⟨g', c', e, hcc, hc, _⟩ := (HS2.out.1.2 p hlt trivial).atT k hk'
                rw [hvp] at e
                injection e with e1 e2 e3
                subst e3
                have hf := HFA.out p hlt k (by rw [← hN]; exact hk)
                rw [List.getElem?_eq_getElem hk'] at hf
                injection hf with hf
                rw [hf] at hc
                exact ⟨g', e1, by rw [hN]; exact hcc, hc⟩
              rw [hvp] at ck
              rw [hmp] at cm
              have hNb : N ≤ 1000000000000 := by rw [hN, HY.out p]; exact HX.out p
              have HMo := hib hmore
              have HLi := hib hlist
              have HG := hib (And.intro hgO hm)
              have HN9 := hib hN9'
              have hN9b : N9 ≤ 1000000000009 := by omega
              have HCk := hib (And.intro ck cm)
              have cks := belC HL9.out ck
              have cms := belC HL9.out cm
              clear hgO hm hmore hlist hvp hmp hN hN9 hN9' e2 ck cm
              go_wp2_with fail
              go_loopg [10] N9 (fun g s10 wc => ∃ (k : Nat), k ≤ N9 ∧ N9 - k ≤ g ∧ s10 = .int .i64 (k : Int) ∧ Hid (LtC w6 wc))
              case atStart => exact ⟨0, Nat.zero_le _, Nat.le_refl _, rfl, HL9⟩
              case round =>
                obtain ⟨k, hk, hm2, h10, HL10⟩ := hrel
                subst h10
                have ck := belC HL10.out HCk.out.1
                have cm := belC HL10.out HCk.out.2
                clear cks cms
                by_cases hk9 : k < N9
                · have hkI : (k : Int) < (N9 : Int) := by omega
                  have hdk : decide (k < N9) = true := by simp; exact hk9
                  have hc1 := belC HL10.out (HMo.out k hk9)
                  have K0 := LtC.refl wr
                  have K1 := LtC.drew wr
                  by_cases hkN : k < N
                  · have hkNI : (k : Int) < (N : Int) := by omega
                    have hdN : decide (k < N) = true := by simp; exact hkN
                    obtain ⟨gp, hap, hcp, hc2'⟩ := HLi.out k hkN
                    have hc2 := belC HL10.out hc2'
                    subst hap
                    obtain ⟨np, hnp⟩ : ∃ np, np = nt p := ⟨_, rfl⟩
                    have HNp := hib (fun wx => noteA p (by omega) wx)
                    rw [← hnp] at hc1 HNp hc2
                    have KK := hib (show ∀ wx, LtC wr wx → wx.cell? ⟨bk, p, none⟩ = some (.slice (some ⟨gp, 0, none⟩) N cp) ∧ wx.cell? ⟨bm, p, none⟩ = some (.slice (some ⟨gm, 0, none⟩) N9 cpm) ∧ wx.cell? ⟨gm, k, none⟩ = some (.string np) ∧ wx.cell? ⟨gp, k, none⟩ = some (.string np) from fun wx hx => ⟨belC hx ck, belC hx cm, belC hx hc1, belC hx hc2⟩)
                    have hsm : (np.toList == np.toList) = true := by simp
                    have HRw := hib HL10.out
                    clear hkN hk9 hnp HMo HLi hc2'
                    go_upto_region 24 with fail
                    go_cut [102] from 63 to 102 (fun v wx => v = .bool false ∧ LtC wr wx)
                    case first =>
                      go_region_held3 (fun wx => wx.cell? ⟨bk, p, none⟩ = some (.slice (some ⟨gp, 0, none⟩) N cp) ∧ wx.cell? ⟨bm, p, none⟩ = some (.slice (some ⟨gm, 0, none⟩) N9 cpm) ∧ wx.cell? ⟨gm, k, none⟩ = some (.string np) ∧ wx.cell? ⟨gp, k, none⟩ = some (.string np)) (exact KK.out _ (by assumption)) (first
                        | (go_at_call 61; refine (HNp.out _).mono ?_; rintro e w5 ⟨rfl, s5⟩; have K5 := LtC.step (by assumption) s5; clear s5))
                      all_goals
                        go_wp2_with fail
                        go_meet
                        exact ⟨by simp, by assumption⟩
                    case rest =>
                    obtain ⟨hv, h5⟩ := hcut
                    subst hv
                    have HL11 := hib (LtC.step HRw.out h5)
                    clear h5 hc1 hc2 ck cm K0 K1 KK
                    go_wp2
                    go_roundg (gk - 1)
                    case measure => omega
                    case rel => exact ⟨k + 1, by omega, by omega, by first | rfl | go_num, HL11⟩
                  · have hkNI : ¬ (k : Int) < (N : Int) := by omega
                    have hdN : decide (k < N) = false := by simp; omega
                    obtain ⟨np, hnp⟩ : ∃ np, np = nt p := ⟨_, rfl⟩
                    have HNp := hib (fun wx => noteA p (by omega) wx)
                    rw [← hnp] at hc1 HNp
                    have KK := hib (show ∀ wx, LtC wr wx → wx.cell? ⟨bk, p, none⟩ = some (.slice ap N cp) ∧ wx.cell? ⟨bm, p, none⟩ = some (.slice (some ⟨gm, 0, none⟩) N9 cpm) ∧ wx.cell? ⟨gm, k, none⟩ = some (.string np) from fun wx hx => ⟨belC hx ck, belC hx cm, belC hx hc1⟩)
                    have hsm : (np.toList == np.toList) = true := by simp
                    have HRw := hib HL10.out
                    clear hkN hk9 hnp HMo HLi
                    go_upto_region 24 with fail
                    obtain ⟨d1, d2, d3⟩ := KK.out _ K1
                    have hq1 : (p : Int) < (q : Int) := by omega
                    have hq2 : p < q := by omega
                    have hn1 : (N : Int) ≤ (k : Int) := by omega
                    have hdN2 : decide ((k : Int) < (N : Int)) = false := by simp; omega
                    have hdN3 : decide ((N : Int) ≤ (k : Int)) = true := by simp; omega
                    refine wp_region_any (by kernel_rfl) ?_
                    try (change wpAny _ _ _ _ _ _ _ (World.drew _))
                    refine wpAny_take (i := 0) (v := (.slice (some ⟨bm, 0, none⟩) q mc)) rfl (by kernel_rfl) (by kernel_rfl) (by kernel_rfl) (fun _ _ _ h => h) (Or.inl ⟨by kernel_rfl, by intro w; go_simp⟩) ?_
                    refine wpAny_take (i := 1) (v := (.int .i64 (p : Int))) rfl (by kernel_rfl) (by kernel_rfl) (by kernel_rfl) (fun _ _ _ h => h) (Or.inl ⟨by kernel_rfl, by intro w; go_simp⟩) ?_
                    refine wpAny_take (i := 2) (v := (.pointer (some ⟨bm, p, none⟩))) rfl (by kernel_rfl) (by kernel_rfl) (by kernel_rfl) (fun _ _ _ h => h) (Or.inl ⟨by kernel_rfl, by intro w; go_simp⟩) ?_
                    refine wpAny_take (i := 4) (v := (.int .i64 (k : Int))) rfl (by kernel_rfl) (by kernel_rfl) (by kernel_rfl) (fun _ _ _ h => h) (Or.inl ⟨by kernel_rfl, by intro w; go_simp⟩) ?_
                    refine wpAny_take (i := 7) (v := (.int .i64 (p : Int))) rfl (by kernel_rfl) (by kernel_rfl) (by kernel_rfl) (fun _ _ _ h => h) (Or.inl ⟨by kernel_rfl, by intro w; go_simp⟩) ?_
                    refine wpAny_ready (rs := [3, 8]) (by kernel_rfl) (by simp) ?_
                    refine (AllReady.cons rfl (fun K hK => ?_) (AllReady.cons rfl (fun K hK => ?_) AllReady.nil))
                    · go_simp
                      refine hK _ _ ?_
                      clear hK K
                      refine wpAny_take (i := 5) (v := (.pointer (some ⟨gm, k, none⟩))) rfl (by kernel_rfl) (by kernel_rfl) (by kernel_rfl) (fun _ _ _ h => h) (Or.inl ⟨by kernel_rfl, by intro w; go_simp⟩) ?_
                      refine wpAny_ready (rs := [6, 8]) (by kernel_rfl) (by simp) ?_
                      refine (AllReady.cons rfl (fun K hK => ?_) (AllReady.cons rfl (fun K hK => ?_) AllReady.nil))
                      · go_simp
                        refine hK _ _ ?_
                        clear hK K
                        refine wpAny_ready (rs := [8]) (by kernel_rfl) (by simp) ?_
                        refine (AllReady.cons rfl (fun K hK => ?_) AllReady.nil)
                        go_simp
                        go_wp2_with fail
                        refine (HNp.out _).mono ?_
                        rintro e w5 ⟨rfl, s5⟩
                        have K5 := LtC.step K1 s5
                        obtain ⟨f1, f2, f3⟩ := KK.out _ K5
                        clear s5
                        go_wp2_with fail
                        refine wpAny_take (i := 9) (v := (.bool false)) rfl (by kernel_rfl) (by kernel_rfl) (by kernel_rfl) (fun _ _ _ h => h) (Or.inl ⟨by kernel_rfl, by intro w; go_simp⟩) ?_
                        refine wpAny_take (i := 10) (v := (.bool false)) rfl (by kernel_rfl) (by kernel_rfl) (by kernel_rfl) (fun _ _ _ h => h) (Or.inl ⟨by kernel_rfl, by intro w; go_simp⟩) ?_
                        refine wpAny_take (i := 11) (v := (.int .i64 (k : Int))) rfl (by kernel_rfl) (by kernel_rfl) (by kernel_rfl) (fun _ _ _ h => h) (Or.inl ⟨by kernel_rfl, by intro w; go_simp⟩) ?_
                        refine wpAny_take (i := 12) (v := (.slice (some ⟨bk, 0, none⟩) V.length ic)) rfl (by kernel_rfl) (by kernel_rfl) (by kernel_rfl) (fun _ _ _ h => h) (Or.inl ⟨by kernel_rfl, by intro w; go_simp⟩) ?_
                        refine wpAny_take (i := 13) (v := (.int .i64 (p : Int))) rfl (by kernel_rfl) (by kernel_rfl) (by kernel_rfl) (fun _ _ _ h => h) (Or.inl ⟨by kernel_rfl, by intro w; go_simp⟩) ?_
                        refine wpAny_take (i := 14) (v := (.pointer (some ⟨bk, p, none⟩))) rfl (by kernel_rfl) (by kernel_rfl) (by kernel_rfl) (fun _ _ _ h => h) (Or.inl ⟨by kernel_rfl, by intro w; go_simp⟩) ?_
                        refine wpAny_ready (rs := [15]) (by kernel_rfl) (by simp) ?_
                        refine (AllReady.cons rfl (fun K hK => ?_) AllReady.nil)
                        go_simp
                        refine hK _ _ ?_
                        clear hK K
                        refine wpAny_take (i := 16) (v := (.int .i64 (N : Int))) rfl (by kernel_rfl) (by kernel_rfl) (by kernel_rfl) (fun _ _ _ h => h) (Or.inl ⟨by kernel_rfl, by intro w; go_simp⟩) ?_
                        refine wpAny_take (i := 17) (v := (.bool false)) rfl (by kernel_rfl) (by kernel_rfl) (by kernel_rfl) (fun _ _ _ h => h) (Or.inl ⟨by kernel_rfl, by intro w; go_simp⟩) ?_
                        refine wpAny_take (i := 18) (v := (.bool false)) rfl (by kernel_rfl) (by kernel_rfl) (by kernel_rfl) (fun _ _ _ h => h) (Or.inl ⟨by kernel_rfl, by intro w; go_simp⟩) ?_
                        refine wpAny_take (i := 19) (v := undef) rfl (by kernel_rfl) (by kernel_rfl) (by kernel_rfl) (fun _ _ _ h => h) (Or.inr ⟨by kernel_rfl, rfl⟩) ?_
                        refine wpAny_take (i := 20) (v := undef) rfl (by kernel_rfl) (by kernel_rfl) (by kernel_rfl) (fun _ _ _ h => h) (Or.inr ⟨by kernel_rfl, rfl⟩) ?_
                        refine wpAny_take (i := 21) (v := undef) rfl (by kernel_rfl) (by kernel_rfl) (by kernel_rfl) (fun _ _ _ h => h) (Or.inr ⟨by kernel_rfl, rfl⟩) ?_
                        refine wpAny_take (i := 22) (v := undef) rfl (by kernel_rfl) (by kernel_rfl) (by kernel_rfl) (fun _ _ _ h => h) (Or.inr ⟨by kernel_rfl, rfl⟩) ?_
                        refine wpAny_take (i := 23) (v := undef) rfl (by kernel_rfl) (by kernel_rfl) (by kernel_rfl) (fun _ _ _ h => h) (Or.inr ⟨by kernel_rfl, rfl⟩) ?_
                        refine wpAny_take (i := 24) (v := undef) rfl (by kernel_rfl) (by kernel_rfl) (by kernel_rfl) (fun _ _ _ h => h) (Or.inr ⟨by kernel_rfl, rfl⟩) ?_
                        refine wpAny_take (i := 25) (v := undef) rfl (by kernel_rfl) (by kernel_rfl) (by kernel_rfl) (fun _ _ _ h => h) (Or.inr ⟨by kernel_rfl, rfl⟩) ?_
                        refine wpAny_take (i := 26) (v := undef) rfl (by kernel_rfl) (by kernel_rfl) (by kernel_rfl) (fun _ _ _ h => h) (Or.inr ⟨by kernel_rfl, rfl⟩) ?_
                        refine wpAny_take (i := 27) (v := undef) rfl (by kernel_rfl) (by kernel_rfl) (by kernel_rfl) (fun _ _ _ h => h) (Or.inr ⟨by kernel_rfl, rfl⟩) ?_
                        refine wpAny_take (i := 28) (v := undef) rfl (by kernel_rfl) (by kernel_rfl) (by kernel_rfl) (fun _ _ _ h => h) (Or.inr ⟨by kernel_rfl, rfl⟩) ?_
                        refine wpAny_take (i := 29) (v := (.bool false)) rfl (by kernel_rfl) (by kernel_rfl) (by kernel_rfl) (fun _ _ _ h => h) (Or.inl ⟨by kernel_rfl, by intro w; go_simp⟩) ?_
                        refine wpAny_take (i := 30) (v := (.bool false)) rfl (by kernel_rfl) (by kernel_rfl) (by kernel_rfl) (fun _ _ _ h => h) (Or.inl ⟨by kernel_rfl, by intro w; go_simp⟩) ?_
                        refine wpAny_done (by kernel_rfl) ?_ _
                        go_simp
                        have HL11 := hib (LtC.step HRw.out K5)
                        clear K5 f1 f2 f3 d1 d2 d3 hc1 ck cm K0 K1 KK
                        go_wp2
                        go_roundg (gk - 1)
                        case measure => omega
                        case rel => exact ⟨k + 1, by omega, by omega, by first | rfl | go_num, HL11⟩
                      · go_simp
                        go_wp2_with fail
                        refine (HNp.out _).mono ?_
                        rintro e w5 ⟨rfl, s5⟩
                        have K5 := LtC.step K1 s5
                        obtain ⟨f1, f2, f3⟩ := KK.out _ K5
                        clear s5
                        go_wp2_with fail
                        refine wpAny_ready (rs := [6]) (by kernel_rfl) (by simp) ?_
                        refine (AllReady.cons rfl (fun K hK => ?_) AllReady.nil)
                        go_simp
                        refine hK _ _ ?_
                        clear hK K
                        refine wpAny_take (i := 9) (v := (.bool false)) rfl (by kernel_rfl) (by kernel_rfl) (by kernel_rfl) (fun _ _ _ h => h) (Or.inl ⟨by kernel_rfl, by intro w; go_simp⟩) ?_
                        refine wpAny_take (i := 10) (v := (.bool false)) rfl (by kernel_rfl) (by kernel_rfl) (by kernel_rfl) (fun _ _ _ h => h) (Or.inl ⟨by kernel_rfl, by intro w; go_simp⟩) ?_
                        refine wpAny_take (i := 11) (v := (.int .i64 (k : Int))) rfl (by kernel_rfl) (by kernel_rfl) (by kernel_rfl) (fun _ _ _ h => h) (Or.inl ⟨by kernel_rfl, by intro w; go_simp⟩) ?_
                        refine wpAny_take (i := 12) (v := (.slice (some ⟨bk, 0, none⟩) V.length ic)) rfl (by kernel_rfl) (by kernel_rfl) (by kernel_rfl) (fun _ _ _ h => h) (Or.inl ⟨by kernel_rfl, by intro w; go_simp⟩) ?_
                        refine wpAny_take (i := 13) (v := (.int .i64 (p : Int))) rfl (by kernel_rfl) (by kernel_rfl) (by kernel_rfl) (fun _ _ _ h => h) (Or.inl ⟨by kernel_rfl, by intro w; go_simp⟩) ?_
                        refine wpAny_take (i := 14) (v := (.pointer (some ⟨bk, p, none⟩))) rfl (by kernel_rfl) (by kernel_rfl) (by kernel_rfl) (fun _ _ _ h => h) (Or.inl ⟨by kernel_rfl, by intro w; go_simp⟩) ?_
                        refine wpAny_ready (rs := [15]) (by kernel_rfl) (by simp) ?_
                        refine (AllReady.cons rfl (fun K hK => ?_) AllReady.nil)
                        go_simp
                        refine hK _ _ ?_
                        clear hK K
                        refine wpAny_take (i := 16) (v := (.int .i64 (N : Int))) rfl (by kernel_rfl) (by kernel_rfl) (by kernel_rfl) (fun _ _ _ h => h) (Or.inl ⟨by kernel_rfl, by intro w; go_simp⟩) ?_
                        refine wpAny_take (i := 17) (v := (.bool false)) rfl (by kernel_rfl) (by kernel_rfl) (by kernel_rfl) (fun _ _ _ h => h) (Or.inl ⟨by kernel_rfl, by intro w; go_simp⟩) ?_
                        refine wpAny_take (i := 18) (v := (.bool false)) rfl (by kernel_rfl) (by kernel_rfl) (by kernel_rfl) (fun _ _ _ h => h) (Or.inl ⟨by kernel_rfl, by intro w; go_simp⟩) ?_
                        refine wpAny_take (i := 19) (v := undef) rfl (by kernel_rfl) (by kernel_rfl) (by kernel_rfl) (fun _ _ _ h => h) (Or.inr ⟨by kernel_rfl, rfl⟩) ?_
                        refine wpAny_take (i := 20) (v := undef) rfl (by kernel_rfl) (by kernel_rfl) (by kernel_rfl) (fun _ _ _ h => h) (Or.inr ⟨by kernel_rfl, rfl⟩) ?_
                        refine wpAny_take (i := 21) (v := undef) rfl (by kernel_rfl) (by kernel_rfl) (by kernel_rfl) (fun _ _ _ h => h) (Or.inr ⟨by kernel_rfl, rfl⟩) ?_
                        refine wpAny_take (i := 22) (v := undef) rfl (by kernel_rfl) (by kernel_rfl) (by kernel_rfl) (fun _ _ _ h => h) (Or.inr ⟨by kernel_rfl, rfl⟩) ?_
                        refine wpAny_take (i := 23) (v := undef) rfl (by kernel_rfl) (by kernel_rfl) (by kernel_rfl) (fun _ _ _ h => h) (Or.inr ⟨by kernel_rfl, rfl⟩) ?_
                        refine wpAny_take (i := 24) (v := undef) rfl (by kernel_rfl) (by kernel_rfl) (by kernel_rfl) (fun _ _ _ h => h) (Or.inr ⟨by kernel_rfl, rfl⟩) ?_
                        refine wpAny_take (i := 25) (v := undef) rfl (by kernel_rfl) (by kernel_rfl) (by kernel_rfl) (fun _ _ _ h => h) (Or.inr ⟨by kernel_rfl, rfl⟩) ?_
                        refine wpAny_take (i := 26) (v := undef) rfl (by kernel_rfl) (by kernel_rfl) (by kernel_rfl) (fun _ _ _ h => h) (Or.inr ⟨by kernel_rfl, rfl⟩) ?_
                        refine wpAny_take (i := 27) (v := undef) rfl (by kernel_rfl) (by kernel_rfl) (by kernel_rfl) (fun _ _ _ h => h) (Or.inr ⟨by kernel_rfl, rfl⟩) ?_
                        refine wpAny_take (i := 28) (v := undef) rfl (by kernel_rfl) (by kernel_rfl) (by kernel_rfl) (fun _ _ _ h => h) (Or.inr ⟨by kernel_rfl, rfl⟩) ?_
                        refine wpAny_take (i := 29) (v := (.bool false)) rfl (by kernel_rfl) (by kernel_rfl) (by kernel_rfl) (fun _ _ _ h => h) (Or.inl ⟨by kernel_rfl, by intro w; go_simp⟩) ?_
                        refine wpAny_take (i := 30) (v := (.bool false)) rfl (by kernel_rfl) (by kernel_rfl) (by kernel_rfl) (fun _ _ _ h => h) (Or.inl ⟨by kernel_rfl, by intro w; go_simp⟩) ?_
                        refine wpAny_done (by kernel_rfl) ?_ _
                        go_simp
                        have HL11 := hib (LtC.step HRw.out K5)
                        clear K5 f1 f2 f3 d1 d2 d3 hc1 ck cm K0 K1 KK
                        go_wp2
                        go_roundg (gk - 1)
                        case measure => omega
                        case rel => exact ⟨k + 1, by omega, by omega, by first | rfl | go_num, HL11⟩
                    · go_simp
                      go_wp2_with fail
                      refine (HNp.out _).mono ?_
                      rintro e w5 ⟨rfl, s5⟩
                      have K5 := LtC.step K1 s5
                      obtain ⟨f1, f2, f3⟩ := KK.out _ K5
                      clear s5
                      go_wp2_with fail
                      refine wpAny_ready (rs := [3]) (by kernel_rfl) (by simp) ?_
                      refine (AllReady.cons rfl (fun K hK => ?_) AllReady.nil)
                      go_simp
                      refine hK _ _ ?_
                      clear hK K
                      refine wpAny_take (i := 5) (v := (.pointer (some ⟨gm, k, none⟩))) rfl (by kernel_rfl) (by kernel_rfl) (by kernel_rfl) (fun _ _ _ h => h) (Or.inl ⟨by kernel_rfl, by intro w; go_simp⟩) ?_
                      refine wpAny_ready (rs := [6]) (by kernel_rfl) (by simp) ?_
                      refine (AllReady.cons rfl (fun K hK => ?_) AllReady.nil)
                      go_simp
                      refine hK _ _ ?_
                      clear hK K
                      refine wpAny_take (i := 9) (v := (.bool false)) rfl (by kernel_rfl) (by kernel_rfl) (by kernel_rfl) (fun _ _ _ h => h) (Or.inl ⟨by kernel_rfl, by intro w; go_simp⟩) ?_
                      refine wpAny_take (i := 10) (v := (.bool false)) rfl (by kernel_rfl) (by kernel_rfl) (by kernel_rfl) (fun _ _ _ h => h) (Or.inl ⟨by kernel_rfl, by intro w; go_simp⟩) ?_
                      refine wpAny_take (i := 11) (v := (.int .i64 (k : Int))) rfl (by kernel_rfl) (by kernel_rfl) (by kernel_rfl) (fun _ _ _ h => h) (Or.inl ⟨by kernel_rfl, by intro w; go_simp⟩) ?_
                      refine wpAny_take (i := 12) (v := (.slice (some ⟨bk, 0, none⟩) V.length ic)) rfl (by kernel_rfl) (by kernel_rfl) (by kernel_rfl) (fun _ _ _ h => h) (Or.inl ⟨by kernel_rfl, by intro w; go_simp⟩) ?_
                      refine wpAny_take (i := 13) (v := (.int .i64 (p : Int))) rfl (by kernel_rfl) (by kernel_rfl) (by kernel_rfl) (fun _ _ _ h => h) (Or.inl ⟨by kernel_rfl, by intro w; go_simp⟩) ?_
                      refine wpAny_take (i := 14) (v := (.pointer (some ⟨bk, p, none⟩))) rfl (by kernel_rfl) (by kernel_rfl) (by kernel_rfl) (fun _ _ _ h => h) (Or.inl ⟨by kernel_rfl, by intro w; go_simp⟩) ?_
                      refine wpAny_ready (rs := [15]) (by kernel_rfl) (by simp) ?_
                      refine (AllReady.cons rfl (fun K hK => ?_) AllReady.nil)
                      go_simp
                      refine hK _ _ ?_
                      clear hK K
                      refine wpAny_take (i := 16) (v := (.int .i64 (N : Int))) rfl (by kernel_rfl) (by kernel_rfl) (by kernel_rfl) (fun _ _ _ h => h) (Or.inl ⟨by kernel_rfl, by intro w; go_simp⟩) ?_
                      refine wpAny_take (i := 17) (v := (.bool false)) rfl (by kernel_rfl) (by kernel_rfl) (by kernel_rfl) (fun _ _ _ h => h) (Or.inl ⟨by kernel_rfl, by intro w; go_simp⟩) ?_
                      refine wpAny_take (i := 18) (v := (.bool false)) rfl (by kernel_rfl) (by kernel_rfl) (by kernel_rfl) (fun _ _ _ h => h) (Or.inl ⟨by kernel_rfl, by intro w; go_simp⟩) ?_
                      refine wpAny_take (i := 19) (v := undef) rfl (by kernel_rfl) (by kernel_rfl) (by kernel_rfl) (fun _ _ _ h => h) (Or.inr ⟨by kernel_rfl, rfl⟩) ?_
                      refine wpAny_take (i := 20) (v := undef) rfl (by kernel_rfl) (by kernel_rfl) (by kernel_rfl) (fun _ _ _ h => h) (Or.inr ⟨by kernel_rfl, rfl⟩) ?_
                      refine wpAny_take (i := 21) (v := undef) rfl (by kernel_rfl) (by kernel_rfl) (by kernel_rfl) (fun _ _ _ h => h) (Or.inr ⟨by kernel_rfl, rfl⟩) ?_
                      refine wpAny_take (i := 22) (v := undef) rfl (by kernel_rfl) (by kernel_rfl) (by kernel_rfl) (fun _ _ _ h => h) (Or.inr ⟨by kernel_rfl, rfl⟩) ?_
                      refine wpAny_take (i := 23) (v := undef) rfl (by kernel_rfl) (by kernel_rfl) (by kernel_rfl) (fun _ _ _ h => h) (Or.inr ⟨by kernel_rfl, rfl⟩) ?_
                      refine wpAny_take (i := 24) (v := undef) rfl (by kernel_rfl) (by kernel_rfl) (by kernel_rfl) (fun _ _ _ h => h) (Or.inr ⟨by kernel_rfl, rfl⟩) ?_
                      refine wpAny_take (i := 25) (v := undef) rfl (by kernel_rfl) (by kernel_rfl) (by kernel_rfl) (fun _ _ _ h => h) (Or.inr ⟨by kernel_rfl, rfl⟩) ?_
                      refine wpAny_take (i := 26) (v := undef) rfl (by kernel_rfl) (by kernel_rfl) (by kernel_rfl) (fun _ _ _ h => h) (Or.inr ⟨by kernel_rfl, rfl⟩) ?_
                      refine wpAny_take (i := 27) (v := undef) rfl (by kernel_rfl) (by kernel_rfl) (by kernel_rfl) (fun _ _ _ h => h) (Or.inr ⟨by kernel_rfl, rfl⟩) ?_
                      refine wpAny_take (i := 28) (v := undef) rfl (by kernel_rfl) (by kernel_rfl) (by kernel_rfl) (fun _ _ _ h => h) (Or.inr ⟨by kernel_rfl, rfl⟩) ?_
                      refine wpAny_take (i := 29) (v := (.bool false)) rfl (by kernel_rfl) (by kernel_rfl) (by kernel_rfl) (fun _ _ _ h => h) (Or.inl ⟨by kernel_rfl, by intro w; go_simp⟩) ?_
                      refine wpAny_take (i := 30) (v := (.bool false)) rfl (by kernel_rfl) (by kernel_rfl) (by kernel_rfl) (fun _ _ _ h => h) (Or.inl ⟨by kernel_rfl, by intro w; go_simp⟩) ?_
                      refine wpAny_done (by kernel_rfl) ?_ _
                      go_simp
                      have HL11 := hib (LtC.step HRw.out K5)
                      clear K5 f1 f2 f3 d1 d2 d3 hc1 ck cm K0 K1 KK
                      go_wp2
                      go_roundg (gk - 1)
                      case measure => omega
                      case rel => exact ⟨k + 1, by omega, by omega, by first | rfl | go_num, HL11⟩
                · have hkI : ¬ (k : Int) < (N9 : Int) := by omega
                  have hdk : decide (k < N9) = false := by simp; omega
                  clear hk9 hm2
                  go_wp2
                  go_roundg (gO - 1)
                  case measure => obtain ⟨h1, h2⟩ := HG.out; omega
                  case rel => exact ⟨p + 1, by omega, by obtain ⟨h1, h2⟩ := HG.out; omega, by first | rfl | go_num, HL10⟩
            · have hltI : ¬ (p : Int) < (V.length : Int) := by omega
              have hdI : decide (p < V.length) = false := by simp; omega
              go_wp2
              go_ret
              exact ⟨rfl, HB2.out.later hB HL9.out⟩
end Go.Proofs.YtpgpeafmlijfkaaGreatDoor

namespace Go.Proofs.YtpgpeafmlijfkaaGreatDoor
open Go.RowKit
set_option maxRecDepth 100000
set_option linter.unusedVariables false
set_option linter.unusedSimpArgs false

theorem belC0 {w w' : World} (hb : LtC w w') {p : Addr} {u : Value} (h : w.cell? p = some u) : w'.cell? p = some u := (Below.cell hb (p := p) (World.block_lt_of_cell? _ _ h)).trans h
/-- v is an entry with the mark i alone -/
def Nm (w : World) (v : Value) (i : Nat) : Prop := ∃ g c, v = .slice (some ⟨g, 0, none⟩) 1 c ∧ 1 ≤ c ∧ w.cell? ⟨g, 0, none⟩ = some (.string (nt i))
theorem Nm.later {w w' : World} {v : Value} {i : Nat} (h : Nm w v i) (hb : LtC w w') : Nm w' v i := by
  obtain ⟨g, c, e, h1, h2⟩ := h
  exact ⟨g, c, e, h1, belC0 hb h2⟩
set_option maxHeartbeats 1000000 in
theorem named_any (v : Value) (i : Nat) (w : World) (hv : Nm w v i) (hi : i ≤ 5000000000000) : Calls Tryz.prog 62 #[v, .int .i64 (i : Int)] w fun e w' => e = .returned (.bool true) ∧ Below w.heap.size w w' := by
  obtain ⟨g, c, rfl, hc, hcell⟩ := hv
  have HNp := hib (fun wx => noteA i hi wx)
  generalize nt i = np at hcell HNp
  have K0 := LtC.refl w
  have K1 := LtC.drew w
  have KK := hib (show ∀ wx, LtC w wx → wx.cell? ⟨g, 0, none⟩ = some (.string np) from fun wx hx => belC0 hx hcell)
  have hsm : (np.toList == np.toList) = true := by simp
  go_enter Tryz.func62, Tryz.ntmps62
  go_upto_region 1 with fail
  go_region_held3 (fun wx => wx.cell? ⟨g, 0, none⟩ = some (.string np)) (exact KK.out _ (by assumption)) (first
    | (go_at_call 61; refine (HNp.out _).mono ?_; rintro e w5 ⟨rfl, s5⟩; have K5 := LtC.step (by assumption) s5; clear s5))
  all_goals
    go_wp2_with fail
    go_ret
    exact ⟨by simp, by assumption⟩
end Go.Proofs.YtpgpeafmlijfkaaGreatDoor
