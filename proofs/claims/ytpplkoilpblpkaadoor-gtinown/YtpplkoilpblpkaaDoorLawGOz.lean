/-
  Ap0: Several lists in blocks of the call's own, told apart by colours: no two colours share a block.
  Own1: Lists of elements of one's own, in rows of rows.
  Cv1: One byte as a text, in any world.
  LawGOw: GtinOwn: the law's own walk, out of the contracts.
-/
import Derived.Test.YtpplkoilpblpkaaDoorRows
import Derived.WalkKit
import Derived.RowKit
import Derived.Below
import Derived.Maps.AppendAt
import Derived.Laws.AppendOwnNone
import Derived.Laws.OwnMore
import Derived.Lib.Builder
import Derived.Lib.BufferMore
import Derived.Test.YtpplkoilpblpkaaDoorPse
import Derived.Test.YtpplkoilpblpkaaDoorShn
import Derived.Laws.BytesArg
import Derived.Test.YtpplkoilpblpkaaDoorGrw
import Derived.Test.YtpplkoilpblpkaaDoorWrk
import Derived.Test.YtpplkoilpblpkaaDoorFind
import Derived.Deep.LoopGhost
import Derived.Deep.DeepCutAuto
import Derived.Deep.RegionHeld3
import Derived.BigQuiet
namespace Go.Proofs.YtpplkoilpblpkaaDoor
open Go.RowKit
set_option maxRecDepth 100000

/-- behind an append the elder slice reads as it read -/
theorem run_append_keep {P : Program} (w : World) (base : Nat) (t ty e : TypeId) (i : TypeInfo) (z : Value) (size bytes : Nat) (ht : P.underlying t = some (.slice e)) (hi : P.info? e = some i) (hz : i.zero = some z)
    (hsize : i.size = size) (hby : i.bytes = bytes) (hzs : z.cells.size = size) (hsz : 0 < size) (v : Value) (n : Nat) (xs : List Value) (hown : w.ownsRow base e size v n xs)
    (a : Addr) (m c : Nat) (news : List Value) (hl : news.length = m * size) (hnews : ∀ j u, news[j]? = some u → w.cell? (a.add j) = some u) (h1 : ∀ u ∈ news, u.oneCell' = true)
    (h63 : n + m ≤ maxLen) (hbytes : (n + m) * bytes ≤ 140737488355328) (hbase : base ≤ w.heap.size) :
    ∃ v' w', (Builtin.append_ #[t, t] ty #[v, .slice (some a) m c]).run P w = .ok v' w' ∧ w'.ownsRow base e size v' (n + m) (xs ++ news) ∧ w.grownBy w' v.ownBlock ∧
      (v'.ownBlock = v.ownBlock ∨ v'.ownBlock = some w.heap.size) ∧ w'.ownsRow base e size v n xs := by
  obtain ⟨v', w', hr, h2, h3, _, h5⟩ := run_append_own_at (P := P) w base t ty e i z size bytes ht hi hz hsize hby hzs hsz v n xs hown a m c news hl hnews h1 h63 hbytes hbase
  refine ⟨v', w', hr, h2, h3, h5, hown.1, ?_⟩
  subst hsize hby
  rcases hown.2 with h0 | ⟨g, cap, cur, rfl, hbg, hg, hnc, hcm, hcs, htake⟩
  · exact .inl h0
  right
  by_cases hroom : n + m ≤ cap
  · have hfit : n * i.size + news.length ≤ cur.size := by rw [hl, hcs, ← Nat.add_mul]; exact Nat.mul_le_mul_right _ hroom
    have hq := hr.symm.trans (run_append_room (P := P) w t ty e i ht hi g n cap cur hg a m c news hl hnews h1 hroom hfit)
    cases hq
    refine ⟨g, cap, _, rfl, hbg, setRow_heap w g cur _ e _ hg, hnc, hcm, ?_, ?_⟩
    · simp only [List.size_toArray, List.length_append, List.length_take, List.length_drop, Array.length_toList]
      omega
    · have hlen : xs.length = n * i.size := hown.1
      simp only [htake, List.append_assoc]
      rw [← hlen]
      exact List.take_left
  · have holds : ∀ j u, xs[j]? = some u → w.cell? ((⟨g, 0, none⟩ : Addr).add j) = some u := hown.cells (g := g) rfl
    have hq := hr.symm.trans (run_append_grow (P := P) w t ty e i z ht hi hz ⟨g, 0, none⟩ n cap xs hown.1 holds a m c news hl hnews (by omega) (by simp only [maxLen] at h63; omega) (growslice_fits (by omega) hbytes))
    cases hq
    exact ⟨g, cap, cur, rfl, hbg, (by rw [heap_alloc_old w.drew]; (· exact hg); exact (Array.getElem?_eq_some_iff.1 hg).1), hnc, hcm, hcs, htake⟩

/-- a list in a block of the call's own, of colour c -/
def Ow {α : Type} (enc : α → List Value) (k : Nat) (t : TypeId) (col : Nat → Nat) (c : Nat) (w : World) (base : Nat) (v : Value) (L : List α) : Prop :=
  w.ownsRow base t k v L.length (L.flatMap enc) ∧ ∀ g, v.ownBlock = some g → col g = c
section
variable {α : Type} {enc : α → List Value} {k : Nat} {t : TypeId} {col col' : Nat → Nat} {c c' : Nat} {w w' : World} {base : Nat} {v : Value} {L : List α}
theorem fl_len (hk : ∀ x, (enc x).length = k) (L : List α) : (L.flatMap enc).length = L.length * k := by
  induction L with
  | nil => simp
  | cons x t ih => simp [List.flatMap_cons, hk, ih, Nat.add_mul]; omega
theorem fl_at (hk : ∀ x, (enc x).length = k) : ∀ (L : List α) (i : Nat) (hi : i < L.length) (j : Nat), j < k → (L.flatMap enc)[i * k + j]? = (enc L[i])[j]?
  | x :: t, 0, _, j, hj => by
    rw [List.flatMap_cons, List.getElem?_append_left (by rw [hk]; omega)]
    simp
  | x :: t, i + 1, hi, j, hj => by
    rw [List.flatMap_cons, List.getElem?_append_right (by rw [hk, Nat.add_mul, Nat.one_mul]; omega), hk, show (i + 1) * k + j - k = i * k + j by rw [Nat.add_mul, Nat.one_mul]; omega, fl_at hk t i (by simpa using hi) j hj]
    simp
theorem Ow.nil (col : Nat → Nat) (c : Nat) (w : World) (base : Nat) : Ow enc k t col c w base (.slice none 0 0) ([] : List α) := ⟨World.ownsRow_nil _ _ _ _, fun g h => by simp [Value.ownBlock] at h⟩
theorem Ow.len (h : Ow enc k t col c w base v L) : ∃ ao cap, v = .slice ao L.length cap ∧ L.length ≤ cap ∧ L.length ≤ maxLen := by
  rcases h.1.2 with ⟨rfl, h0⟩ | ⟨g, cap, cur, rfl, _, _, h1, h2, _⟩
  · rw [h0]; exact ⟨none, 0, rfl, Nat.le_refl _, Nat.zero_le _⟩
  · exact ⟨_, cap, rfl, h1, Nat.le_trans h1 h2⟩
theorem Ow.lt (h : Ow enc k t col c w base v L) : ∀ g, v.ownBlock = some g → base ≤ g ∧ g < w.heap.size := fun g hg => World.ownsRow.lt h.1 g hg
theorem Ow.at (hk : ∀ x, (enc x).length = k) (h : Ow enc k t col c w base v L) (i : Nat) (hi : i < L.length) :
    ∃ g cap, v = .slice (some ⟨g, 0, none⟩) L.length cap ∧ L.length ≤ cap ∧ base ≤ g ∧ g < w.heap.size ∧ col g = c ∧ (∀ j u, (enc L[i])[j]? = some u → w.cell? ⟨g, i * k + j, none⟩ = some u) ∧ ∀ o, w.frozen? ⟨g, o, none⟩ = false := by
  have hc := fun g hg => World.ownsRow.cells h.1 (g := g) hg
  rcases h.1.2 with ⟨rfl, h0⟩ | ⟨g, cap, cur, rfl, hb, hg, h1, _⟩
  · omega
  · refine ⟨g, cap, rfl, h1, hb, (Array.getElem?_eq_some_iff.1 hg).1, h.2 g rfl, fun j u hj => ?_, fun o => Lib.frozen_of_heap hg o⟩
    have hjk : j < k := by have := (List.getElem?_eq_some_iff.1 hj).1; rwa [hk] at this
    have := hc g rfl (i * k + j) u (by rw [fl_at hk L i hi j hjk]; exact hj)
    rw [Addr.add_lit, Nat.zero_add] at this
    exact this
theorem Ow.at' (hk : ∀ x, (enc x).length = k) (h : Ow enc k t col c w base v L) (i : Nat) (hi : i < L.length) :
    ∃ g cap, v = .slice (some ⟨g, 0, none⟩) L.length cap ∧ L.length ≤ cap ∧ base ≤ g ∧ g < w.heap.size ∧ col g = c ∧ (∀ j u, (enc L[i])[j]? = some u → w.cell? ⟨g, i * k + j, none⟩ = some u) ∧ (∀ o, w.frozen? ⟨g, o, none⟩ = false) ∧ ∃ cur, w.heap[g]? = some (.cells cur t (0, 0)) := by
  obtain ⟨g, cap, hv, h1, h2, h3, h4, h5, h6⟩ := h.at hk i hi
  subst hv
  rcases h.1.2 with ⟨h0, _⟩ | ⟨g', cap', cur, hv, _, hg, _⟩
  · cases h0
  · cases hv
    exact ⟨g, cap, rfl, h1, h2, h3, h4, h5, h6, cur, hg⟩
theorem Ow.recol (h : Ow enc k t col c w base v L) (hc : ∀ g, g < w.heap.size → col' g = col g) : Ow enc k t col' c w base v L := ⟨h.1, fun g hg => by rw [hc g (h.lt g hg).2]; exact h.2 g hg⟩
theorem Ow.later (h : Ow enc k t col c w base v L) (hb : Below w.heap.size w w') : Ow enc k t col c w' base v L :=
  ⟨World.ownsRow.kept h.1 (row := none) ⟨hb.os, hb.tape, hb.output, hb.size, fun k hk _ => hb.block k hk⟩ (by cases v.ownBlock <;> simp), h.2⟩
theorem Ow.alloc (h : Ow enc k t col c w base v L) (o : Obj) : Ow enc k t col c (w.alloc o) base v L := h.later ((Below.refl _ _).alloc (Nat.le_refl _) _)
/-- what another colour's block turns leaves it -/
theorem Ow.other {row : Option Nat} (h : Ow enc k t col c w base v L) (hg : w.grownBy w' row) (hr : ∀ g, row = some g → col g = c') (hne : c ≠ c') : Ow enc k t col c w' base v L := by
  refine ⟨World.ownsRow.kept h.1 hg ?_, h.2⟩
  cases hv : v.ownBlock with
  | none => simp
  | some g =>
    refine .inr fun e => hne ?_
    rw [← h.2 g hv, hr g e.symm]
theorem Ow.lower {base' : Nat} (h : Ow enc k t col c w base v L) (hb : base' ≤ base) : Ow enc k t col c w base' v L := by
  refine ⟨⟨h.1.1, ?_⟩, h.2⟩
  rcases h.1.2 with h2 | ⟨g, cap, cur, hv, hg, r⟩
  · exact .inl h2
  · exact .inr ⟨g, cap, cur, hv, Nat.le_trans hb hg, r⟩
/-- one element more, or several: the new slice, the elder one, the colours: as an equation -/
theorem run_appC {st : TypeId} {z : Value} {bytes : Nat} (inf : (Tryd.prog.info? t).map (fun i => (i.zero, i.size, i.bytes)) = some (some z, k, bytes)) (hst : Tryd.prog.underlying st = some (.slice t)) (hzs : z.cells.size = k) (hk0 : 0 < k) (hk : ∀ x, (enc x).length = k)
    (hown : Ow enc k t col c w base v L) (ad : Addr) (m cp : Nat) (M : List α) (hm : M.length = m) (h1 : ∀ x ∈ M, ∀ u ∈ enc x, u.oneCell' = true) (hnews : ∀ j u, (M.flatMap enc)[j]? = some u → w.cell? (ad.add j) = some u)
    (hlen : (L.length + M.length) * bytes ≤ 140737488355328) (hlen2 : L.length + M.length ≤ maxLen) (hbase : base ≤ w.heap.size) (ty : TypeId) :
    ∃ v' w' col', (Builtin.append_ #[st, st] ty #[v, .slice (some ad) m cp]).run Tryd.prog w = .ok v' w' ∧ Ow enc k t col' c w' base v' (L ++ M) ∧ Ow enc k t col' c w' base v L ∧ w.grownBy w' v.ownBlock ∧ (∀ g, g < w.heap.size → col' g = col g) := by
  obtain ⟨i, hi, hz, hsz, hby⟩ := info_parts inf
  subst hm
  obtain ⟨v', w', hr, h2, h3, h5, h6⟩ := run_append_keep (P := Tryd.prog) w base st ty t i z k bytes hst hi hz hsz hby hzs hk0 v L.length (L.flatMap enc) hown.1 ad M.length cp (M.flatMap enc) (fl_len hk M) hnews (fun u hu => by obtain ⟨y, hy1, hy⟩ := List.mem_flatMap.1 hu; exact h1 y hy1 u hy) hlen2 hlen hbase
  exact ⟨v', w', (fun g => if g = w.heap.size then c else col g), hr, ⟨by rw [List.flatMap_append, List.length_append]; exact h2, fun g hg => by
      rcases h5 with h5 | h5
      · rw [h5] at hg
        have := (hown.lt g hg).2
        show (if g = w.heap.size then c else col g) = c
        rw [if_neg (by omega)]
        exact hown.2 g hg
      · rw [h5] at hg
        cases hg
        show (if w.heap.size = w.heap.size then c else col w.heap.size) = c
        rw [if_pos rfl]⟩, ⟨h6, fun g hg => by have := (hown.lt g hg).2; show (if g = w.heap.size then c else col g) = c; rw [if_neg (by omega)]; exact hown.2 g hg⟩, h3, fun g hg => by show (if g = w.heap.size then c else col g) = col g; rw [if_neg (by omega)]⟩
/-- at the operation -/
theorem wpList_appC {st : TypeId} {z : Value} {bytes : Nat} (inf : (Tryd.prog.info? t).map (fun i => (i.zero, i.size, i.bytes)) = some (some z, k, bytes)) (hst : Tryd.prog.underlying st = some (.slice t)) (hzs : z.cells.size = k) (hk0 : 0 < k) (hk : ∀ x, (enc x).length = k)
    {ops : Array Oper} {rest : List Oper} {o : Oper} {a : Act} {Q : Exit → Act → World → Prop} (hgd : o.guard = none) (s x : Operand)
    (ho : o.op = .call { callee := .builtin .append, args := #[s, x], argTypes := #[st, st] })
    (hs : a.eval s = v) (hown : Ow enc k t col c w base v L) (ad : Addr) (m cp : Nat) (M : List α) (hx : a.eval x = .slice (some ad) m cp) (hm : M.length = m) (h1 : ∀ x ∈ M, ∀ u ∈ enc x, u.oneCell' = true) (hnews : ∀ j u, (M.flatMap enc)[j]? = some u → w.cell? (ad.add j) = some u)
    (hlen : (L.length + M.length) * bytes ≤ 140737488355328) (hlen2 : L.length + M.length ≤ maxLen) (hbase : base ≤ w.heap.size)
    (h : ∀ v' w' col', Ow enc k t col' c w' base v' (L ++ M) → Ow enc k t col' c w' base v L → w.grownBy w' v.ownBlock → (∀ g, v.ownBlock = some g → col g = c) → (∀ g, g < w.heap.size → col' g = col g) → wpList Tryd.prog ops Q rest (a.put o.dst v') w') : wpList Tryd.prog ops Q (o :: rest) a w := by
  refine wpList_plain hgd fun K hK => ?_
  obtain ⟨v', w', col', hr, h2, h3, h4, h5⟩ := run_appC inf hst hzs hk0 hk hown ad m cp M hm h1 hnews hlen hlen2 hbase o.type
  have hfin := h v' w' col' h2 h3 h4 hown.2 h5
  unfold Oper.wp execOp
  simp only [ho, resolve, invoke, builtin, Sem.run_bind, Sem.run_pure, Result.andThen_ok, List.map_toArray, List.map_cons, List.map_nil, hs, hx, hr]
  exact hK _ _ hfin
/-- an append in a region that draws, by its equation -/
theorem step_appC {st : TypeId} {ops : Array Oper} {o : Oper} {a : Act} {w w' : World} {K : Act → World → Prop} {Q : Exit → Act → World → Prop} {E : Prop} {v xv v' : Value}
    (hg : o.guard = none) (s x : Operand) (hop : o.op = Op.call { callee := Callee.builtin Builtin.append, args := #[s, x], argTypes := #[st, st] })
    (hs : a.eval s = v) (hx : a.eval x = xv) (hrun : (Builtin.append_ #[st, st] o.type #[v, xv]).run Tryd.prog w = .ok v' w') (hK : K (a.put o.dst v') w') :
    if Region.wanted o (yielded ops a.tmps) = true then Oper.wp Tryd.prog o a w K Q else E := by
  have hw : Region.wanted o (yielded ops a.tmps) = true := by simp [Region.wanted, hg]
  rw [if_pos hw]
  unfold Oper.wp
  simp [execOp, hop, resolve, invoke, builtin, hs, hx, hrun, Result.andThen]
  exact hK
theorem fl_set (hk : ∀ x, (enc x).length = k) (L : List α) (i : Nat) (hi : i < L.length) (x : α) (q : Nat) : ((L.set i x).flatMap enc)[q]? = if i * k ≤ q ∧ q < i * k + k then (enc x)[q - i * k]? else (L.flatMap enc)[q]? := by
  by_cases hq : q < L.length * k
  · have hk0 : 0 < k := by rcases Nat.eq_zero_or_pos k with h | h; (· subst h; simp at hq); exact h
    have e : q = q / k * k + q % k := by rw [Nat.mul_comm]; exact (Nat.div_add_mod q k).symm
    have hd : q / k < L.length := by rw [Nat.div_lt_iff_lt_mul hk0]; exact hq
    have hmod := Nat.mod_lt q hk0
    have l1 := fl_at hk (L.set i x) (q / k) (by simpa using hd) (q % k) hmod
    have l2 := fl_at hk L (q / k) hd (q % k) hmod
    rw [← e] at l1 l2
    rw [l1]
    by_cases he : i = q / k
    · rw [if_pos ⟨by rw [he]; omega, by rw [he]; omega⟩]
      subst he
      rw [List.getElem_set_self]
      congr 1
      omega
    · rw [List.getElem_set_ne he, ← l2, if_neg ?_]
      rintro ⟨h1, h2⟩
      apply he
      have h3 : i ≤ q / k := by rw [Nat.le_div_iff_mul_le hk0]; exact h1
      have h4 : q / k < i + 1 := by rw [Nat.div_lt_iff_lt_mul hk0, Nat.add_mul, Nat.one_mul]; exact h2
      omega
  · rw [List.getElem?_eq_none (by rw [fl_len hk, List.length_set]; omega), if_neg ?_, List.getElem?_eq_none (by rw [fl_len hk]; omega)]
    rintro ⟨_, h2⟩
    have : i * k + k ≤ L.length * k := by rw [← Nat.succ_mul]; exact Nat.mul_le_mul_right k hi
    omega
/-- an element written over, two cells each -/
theorem Ow.set2 {e2 : α → List Value} (h : Ow e2 2 t col c w base v L) (hk : ∀ x, (e2 x).length = 2) (i : Nat) (hi : i < L.length) (x : α) {g n cap : Nat} (hv : v = .slice (some ⟨g, 0, none⟩) n cap) {a b : Value} (hx : e2 x = [a, b]) :
    Ow e2 2 t col c ((w.setCell ⟨g, i * 2, none⟩ a).setCell ⟨g, i * 2 + 1, none⟩ b) base v (L.set i x) := by
  subst hv
  refine ⟨⟨by rw [fl_len hk, List.length_set], ?_⟩, h.2⟩
  rcases h.1.2 with ⟨h0, _⟩ | ⟨g', cap', cur, hv, hb, hg, h1, h2, h3, h4⟩
  · cases h0
  cases hv
  right
  refine ⟨g, cap, _, by rw [List.length_set], hb, Lib.heap_setCell_same (Lib.heap_setCell_same hg _) _, by rw [List.length_set]; exact h1, h2, by simpa using h3, ?_⟩
  rw [List.length_set]
  apply List.ext_getElem?
  intro q
  have hq0 := congrArg (·[q]?) h4
  simp only [List.getElem?_take] at hq0
  rw [fl_set hk L i hi x q, ← hq0, List.getElem?_take, hx]
  have hle : i * 2 + 2 ≤ L.length * 2 := by omega
  have hle2 : L.length * 2 ≤ cur.size := by rw [h3]; exact Nat.mul_le_mul_right 2 h1
  rw [Array.getElem?_toList, Array.getElem?_toList, Array.getElem?_setIfInBounds, Array.getElem?_setIfInBounds]
  by_cases c1 : i * 2 + 1 = q
  · subst c1
    rw [if_pos (by omega), if_pos rfl, if_pos (by simp; omega), if_pos (by omega), show i * 2 + 1 - i * 2 = 1 by omega]
    rfl
  · by_cases c0 : i * 2 = q
    · subst c0
      rw [if_pos (by omega), if_neg c1, if_pos rfl, if_pos (by omega), if_pos (by omega), Nat.sub_self]
      rfl
    · rw [if_neg c1, if_neg c0, if_neg (c := i * 2 ≤ q ∧ q < i * 2 + 2) (by omega), Array.getElem?_toList]
end
theorem gb_set (w : World) (g o : Nat) (u : Value) : w.grownBy (w.setCell ⟨g, o, none⟩ u) (some g) := ⟨rfl, rfl, rfl, by simp, fun i _ hne => Below.heap_setCell _ _ _ _ (by show i ≠ g; intro e; exact hne (by rw [e]))⟩
theorem gb_set2 (w : World) (g o o' : Nat) (u u' : Value) : w.grownBy ((w.setCell ⟨g, o, none⟩ u).setCell ⟨g, o', none⟩ u') (some g) := (gb_set w g o u).trans (gb_set _ g o' u')
/-- slices as cells -/
def eV (v : Value) : List Value := [v]
theorem eV_len (x : Value) : (eV x).length = 1 := rfl
end Go.Proofs.YtpplkoilpblpkaaDoor

namespace Go.Proofs.YtpplkoilpblpkaaDoor
open Go.RowKit
set_option maxRecDepth 100000

def eE (x : El) : List Value := [.string x.1, .string x.2]
theorem eE_len (x : El) : (eE x).length = 2 := rfl
theorem eE_one (x : El) : ∀ u ∈ eE x, u.oneCell' = true := by simp [eE, Value.oneCell']
abbrev OwE (col : Nat → Nat) (c : Nat) (w : World) (B : Nat) (v : Value) (L : List El) : Prop := Ow eE 2 36 col c w B v L
abbrev OwS (col : Nat → Nat) (c : Nat) (w : World) (B : Nat) (v : Value) (V : List Value) : Prop := Ow eV 1 23 col c w B v V
theorem seinfo : (Tryd.prog.info? 23).map (fun i => (i.zero, i.size, i.bytes)) = some (some (.slice none 0 0), 1, 24) := by kernel_rfl
/-- a new list gets a colour -/
theorem own_new {w w' : World} {B : Nat} {v : Value} {L : List El} (h : OE w' w.heap.size v L) (hB : B ≤ w.heap.size) (col : Nat → Nat) (c : Nat) : OwE (fun g => if w.heap.size ≤ g then c else col g) c w' B v L := by
  have h1 : OwE (fun g => if w.heap.size ≤ g then c else col g) c w' w.heap.size v L := ⟨h, fun g hg => by
    show (if w.heap.size ≤ g then c else col g) = c
    rw [if_pos (OE.block_ge h g hg)]⟩
  exact h1.lower hB
theorem col_old {w : World} (col : Nat → Nat) (c : Nat) : ∀ g, g < w.heap.size → (fun g => if w.heap.size ≤ g then c else col g) g = col g := fun g hg => by
  show (if w.heap.size ≤ g then c else col g) = col g
  rw [if_neg (by omega)]
/-- so many lists, each of its own colour -/
def RwE (col : Nat → Nat) (w : World) (B : Nat) (p : Nat → Prop) (V : List Value) (X : Nat → List El) : Prop := ∀ j (h : j < V.length), p j → OwE col j w B V[j] (X j)
section
variable {col col' : Nat → Nat} {w w' : World} {B : Nat} {p : Nat → Prop} {V : List Value} {X : Nat → List El}
theorem RwE.later (h : RwE col w B p V X) (hb : Below w.heap.size w w') : RwE col w' B p V X := fun j h1 hp => (h j h1 hp).later hb
theorem RwE.recol (h : RwE col w B p V X) (hc : ∀ g, g < w.heap.size → col' g = col g) : RwE col' w B p V X := fun j h1 hp => (h j h1 hp).recol hc
theorem RwE.other {row : Option Nat} {c : Nat} (h : RwE col w B p V X) (hg : w.grownBy w' row) (hr : ∀ g, row = some g → col g = c) (hne : ∀ j, j < V.length → p j → j ≠ c) : RwE col w' B p V X := fun j h1 hp => (h j h1 hp).other hg hr (hne j h1 hp)
theorem RwE.imp {q : Nat → Prop} (h : RwE col w B p V X) (hq : ∀ j, j < V.length → q j → p j) : RwE col w B q V X := fun j h1 hp => h j h1 (hq j h1 hp)
theorem RwE.snoc {v : Value} (h : RwE col w B p V X) (hn : p V.length → OwE col V.length w B v (X V.length)) : RwE col w B p (V ++ [v]) X := fun j h1 hp => by
  by_cases hj : j < V.length
  · rw [List.getElem_append_left hj]
    exact h j hj hp
  · have : j = V.length := by simp at h1; omega
    subst this
    have e1 : (V ++ [v])[V.length]'h1 = v := by simp
    rw [e1]
    exact hn hp
/-- behind an append to a list of colour c -/
theorem RwE.app {row : Option Nat} {c : Nat} (h : RwE col w B p V X) (hg : w.grownBy w' row) (hr : ∀ g, row = some g → col g = c) (hl : ∀ g, row = some g → g < w.heap.size) (hcc : ∀ g, g < w.heap.size → col' g = col g) (hne : ∀ j, j < V.length → p j → j ≠ c) : RwE col' w' B p V X :=
  (h.recol hcc).other hg (fun g e => by rw [hcc g (hl g e)]; exact hr g e) hne
end
theorem Ow.app {α : Type} {enc : α → List Value} {k : Nat} {t : TypeId} {col col' : Nat → Nat} {c c' : Nat} {w w' : World} {B : Nat} {v : Value} {L : List α} {row : Option Nat} (h : Ow enc k t col c w B v L) (hg : w.grownBy w' row) (hr : ∀ g, row = some g → col g = c') (hl : ∀ g, row = some g → g < w.heap.size) (hcc : ∀ g, g < w.heap.size → col' g = col g) (hne : c ≠ c') : Ow enc k t col' c w' B v L :=
  (h.recol hcc).other hg (fun g e => by rw [hcc g (hl g e)]; exact hr g e) hne
/-- a list that reads so is a slice of that length -/
theorem OwS.cell {col : Nat → Nat} {c : Nat} {w : World} {B : Nat} {v : Value} {V : List Value} (h : OwS col c w B v V) (i : Nat) (hi : i < V.length) : ∃ g cap, v = .slice (some ⟨g, 0, none⟩) V.length cap ∧ w.cell? ⟨g, i, none⟩ = some V[i] := by
  obtain ⟨g, cap, hv, _, _, _, _, hq, _⟩ := Ow.at eV_len h i hi
  refine ⟨g, cap, hv, ?_⟩
  have := hq 0 V[i] rfl
  simpa using this
theorem OwS.cells {col : Nat → Nat} {c : Nat} {w : World} {B g n cap : Nat} {V : List Value} (h : OwS col c w B (.slice (some ⟨g, 0, none⟩) n cap) V) (i : Nat) (hi : i < V.length) : w.cell? ⟨g, i, none⟩ = some V[i] := by
  obtain ⟨g', cap', hv, hq⟩ := h.cell i hi
  cases hv
  exact hq
/-- one byte as a text -/
def bt (i : Nat) : ByteArray := ⟨#[UInt8.ofNat i]⟩
def Fil (j : Nat) (x : List El) (n : Nat) : Prop := ∀ q, q < n → x[q]? = some (bt j, bt q)
/-- the lists so far -/
def St1 (col : Nat → Nat) (w : World) (B : Nat) (kv : Value) (V : List Value) (X : Nat → List El) : Prop := OwS col 100 w B kv V ∧ RwE col w B (fun _ => True) V X
theorem St1.later {col : Nat → Nat} {w w' : World} {B : Nat} {kv : Value} {V : List Value} {X : Nat → List El} (h : St1 col w B kv V X) (hb : Below w.heap.size w w') : St1 col w' B kv V X := ⟨h.1.later hb, h.2.later hb⟩
theorem St1.recol {col col' : Nat → Nat} {w : World} {B : Nat} {kv : Value} {V : List Value} {X : Nat → List El} (h : St1 col w B kv V X) (hc : ∀ g, g < w.heap.size → col' g = col g) : St1 col' w B kv V X := ⟨h.1.recol hc, h.2.recol hc⟩
theorem St1.set {col : Nat → Nat} {w : World} {B : Nat} {kv : Value} {V : List Value} {X : Nat → List El} (h : St1 col w B kv V X) (i k : Nat) (hi : i < V.length) (h100 : i ≠ 100) (hk : k < (X i).length) (x : El) {g n cap : Nat} (hv : V[i] = .slice (some ⟨g, 0, none⟩) n cap) :
    St1 col ((w.setCell ⟨g, k * 2, none⟩ (.string x.1)).setCell ⟨g, k * 2 + 1, none⟩ (.string x.2)) B kv V (fun j => if j = i then (X i).set k x else X j) := by
  have ho := h.2 i hi trivial
  have hcg : col g = i := ho.2 g (by rw [hv]; rfl)
  have gb := gb_set2 w g (k * 2) (k * 2 + 1) (.string x.1) (.string x.2)
  refine ⟨h.1.other gb (fun g' e => by cases e; exact hcg) (fun e => h100 e.symm), fun j hj _ => ?_⟩
  by_cases e : j = i
  · subst e
    show OwE col j _ B V[j] (if j = j then (X j).set k x else X j)
    rw [if_pos rfl]
    exact ho.set2 eE_len k hk x hv rfl
  · show OwE col j _ B V[j] (if j = i then (X i).set k x else X j)
    rw [if_neg e]
    exact (h.2 j hj trivial).other gb (fun g' e => by cases e; exact hcg) e
theorem Fil.step {j k : Nat} {x : List El} (h : Fil j x k) (hk : k < x.length) : Fil j (x.set k (bt j, bt k)) (k + 1) := by
  intro q hq
  by_cases e : q = k
  · subst e
    rw [List.getElem?_set_self hk]
  · rw [List.getElem?_set_ne (fun h => e h.symm)]
    exact h q (by omega)
theorem two_below (W : World) (o o' : Obj) : Below W.heap.size W ((W.alloc o).alloc o').drew := (((Below.refl _ _).alloc (Nat.le_refl _) o).alloc (by simp) o').drew
/-- the word at the lists' ends -/
def mo : ByteArray := ⟨#[109, 111, 114, 101]⟩
/-- while the third lists grow -/
def St5 (col : Nat → Nat) (w : World) (B : Nat) (kv fv gv : Value) (V F G : List Value) (X : Nat → List El) (i : Nat) : Prop := (OwS col 100 w B kv V ∧ OwS col 101 w B fv F ∧ OwS col 102 w B gv G) ∧ RwE col w B (fun j => i ≤ j) V X ∧ RwE col w B (fun j => i ≤ j) F (fun j => X j ++ [(mo, bt j)]) ∧ RwE col w B (fun _ => True) G (fun j => X j ++ List.replicate 9 (mo, bt j))
theorem St5.later {col : Nat → Nat} {w w' : World} {B : Nat} {kv fv gv : Value} {V F G : List Value} {X : Nat → List El} {i : Nat} (h : St5 col w B kv fv gv V F G X i) (hb : Below w.heap.size w w') : St5 col w' B kv fv gv V F G X i := ⟨⟨h.1.1.later hb, h.1.2.1.later hb, h.1.2.2.later hb⟩, h.2.1.later hb, h.2.2.1.later hb, h.2.2.2.later hb⟩
theorem St5.imp {col : Nat → Nat} {w : World} {B : Nat} {kv fv gv : Value} {V F G : List Value} {X : Nat → List El} {i : Nat} (h : St5 col w B kv fv gv V F G X i) : St5 col w B kv fv gv V F G X (i + 1) := ⟨h.1, h.2.1.imp (fun j _ hj => by omega), h.2.2.1.imp (fun j _ hj => by omega), h.2.2.2⟩
/-- an append to a list of the colour i5 leaves the rest -/
theorem St5.app {col col' : Nat → Nat} {w w' : World} {B : Nat} {kv fv gv : Value} {V F G : List Value} {X : Nat → List El} {i : Nat} {row : Option Nat} (h : St5 col w B kv fv gv V F G X (i + 1)) (hi : i < 100) (hGl : G.length = i) (hg : w.grownBy w' row) (hr : ∀ g, row = some g → col g = i) (hl : ∀ g, row = some g → g < w.heap.size) (hcc : ∀ g, g < w.heap.size → col' g = col g) : St5 col' w' B kv fv gv V F G X (i + 1) :=
  ⟨⟨h.1.1.app hg hr hl hcc (by omega), h.1.2.1.app hg hr hl hcc (by omega), h.1.2.2.app hg hr hl hcc (by omega)⟩, h.2.1.app hg hr hl hcc (fun j _ hj => by omega), h.2.2.1.app hg hr hl hcc (fun j _ hj => by omega), h.2.2.2.app hg hr hl hcc (fun j hj _ => by omega)⟩
/-- one element in a block -/
def Pl (w : World) (b : Nat) (a x : ByteArray) : Prop := w.heap[b]? = some (.cells #[.string a, .string x] 36 (0, 0))
theorem Pl.facts {w : World} {b : Nat} {a x : ByteArray} (h : Pl w b a x) : w.cell? ⟨b, 0, none⟩ = some (.string a) ∧ w.cell? ⟨b, 1, none⟩ = some (.string x) ∧ w.frozen? ⟨b, 0, none⟩ = false ∧ w.frozen? ⟨b, 1, none⟩ = false ∧ b < w.heap.size :=
  ⟨by rw [Lib.cell_of_heap h]; rfl, by rw [Lib.cell_of_heap h]; rfl, Lib.frozen_of_heap h 0, Lib.frozen_of_heap h 1, (Array.getElem?_eq_some_iff.1 h).1⟩
theorem Pl.later {w w' : World} {b : Nat} {a x : ByteArray} (h : Pl w b a x) (hb : Below w.heap.size w w') : Pl w' b a x := (hb.block b h.facts.2.2.2.2).trans h
theorem Pl.reads {w : World} {b : Nat} {a x : ByteArray} (h : Pl w b a x) : RE w (.slice (some ⟨b, 0, none⟩) 1 1) [(a, x)] := by
  refine .inr ⟨b, 0, 1, rfl, Nat.le_refl _, fun j hj => ?_⟩
  have : j = 0 := by simpa using hj
  subst this
  exact ⟨h.facts.1, h.facts.2.1⟩
theorem Pl.set0 {w : World} {b : Nat} {a x : ByteArray} (h : Pl w b a x) (y : ByteArray) : Pl (w.setCell ⟨b, 0, none⟩ (.string y)) b y x := Lib.heap_setCell_same h _
theorem Pl.set1 {w : World} {b : Nat} {a x : ByteArray} (h : Pl w b a x) (y : ByteArray) : Pl (w.setCell ⟨b, 1, none⟩ (.string y)) b a y := Lib.heap_setCell_same h _
theorem PrA1 : PrA [(⟨#[50, 48]⟩, ⟨#[49, 49]⟩)] ⟨#[50, 48, 49, 49]⟩ 0 0 := by
  refine .inr ⟨fun j hj => ?_, .inr (.inr ⟨by decide +kernel, by decide +kernel, by decide +kernel, rfl, rfl⟩)⟩
  have : j = 0 := by simpa using hj
  subst this
  decide +kernel
theorem PrA2 : PrA [(⟨#[50, 48]⟩, ⟨#[50, 50]⟩)] ⟨#[50, 48, 50, 50]⟩ 0 0 := by
  refine .inr ⟨fun j hj => ?_, .inr (.inr ⟨by decide +kernel, by decide +kernel, by decide +kernel, rfl, rfl⟩)⟩
  have : j = 0 := by simpa using hj
  subst this
  decide +kernel
/-- three cells in a new row -/
theorem three_new (w : World) (a b c : Value) (t : TypeId) : ∀ j u, (([a, b, c] : List Value).flatMap eV)[j]? = some u → (w.alloc (.cells #[a, b, c] t)).cell? ((⟨w.heap.size, 0, none⟩ : Addr).add j) = some u := by
  intro j u hj
  match j, hj with
  | 0, hj => simp [eV] at hj; subst hj; simp [Addr.add]
  | 1, hj => simp [eV] at hj; subst hj; simp [Addr.add]
  | 2, hj => simp [eV] at hj; subst hj; simp [Addr.add]
  | j + 3, hj => simp [eV] at hj
theorem one_new' (w : World) (a : Value) (t : TypeId) : ∀ j u, (([a] : List Value).flatMap eV)[j]? = some u → (w.alloc (.cells #[a] t)).cell? ((⟨w.heap.size, 0, none⟩ : Addr).add j) = some u := by
  intro j u hj
  match j, hj with
  | 0, hj => simp [eV] at hj; subst hj; simp [Addr.add]
  | j + 1, hj => simp [eV] at hj
theorem elem_new (w : World) (x : El) (t : TypeId) : ∀ j u, (([x] : List El).flatMap eE)[j]? = some u → (w.alloc (.cells #[.string x.1, .string x.2] t)).cell? ((⟨w.heap.size, 0, none⟩ : Addr).add j) = some u := by
  intro j u hj
  match j, hj with
  | 0, hj => simp [eE] at hj; subst hj; simp [Addr.add]
  | 1, hj => simp [eE] at hj; subst hj; simp [Addr.add]
  | j + 2, hj => simp [eE] at hj
end Go.Proofs.YtpplkoilpblpkaaDoor

namespace Go.Proofs.YtpplkoilpblpkaaDoor
open Go.RowKit
set_option maxRecDepth 100000

theorem conv_one (W : World) (b : Nat) (n : Nat) (h : W.cell? ⟨b, 0, none⟩ = some (.int .u8 (n : Int))) : (convert 34 9 (.slice (some ⟨b, 0, none⟩) 1 1)).run Tryd.prog W = .ok (.string (bt n)) W := by
  have := run_convert_bytes_arg (P := Tryd.prog) W 34 5 Tryd.underlying34 Tryd.underlying5 b 0 1 1 [(n : Int)] rfl (fun i hi => by
    have : i = 0 := by simpa using hi
    subst this
    simpa using h)
  refine (this 9 Tryd.underlying9).trans ?_
  simp [strOfNums, bt]
end Go.Proofs.YtpplkoilpblpkaaDoor

namespace Go.Proofs.YtpplkoilpblpkaaDoor
open Go.RowKit
set_option maxRecDepth 100000

set_option maxHeartbeats 40000000 in
theorem gown_any (v : Value) (n : Nat) (w : World) (hkn : HasKn w) (hit : IT w v n) :
    Calls Tryd.prog 3 #[v] w fun e w' => e = .returned (.bool true) ∧ Below w.heap.size w w' := by
  have HK := hid hkn
  have G := hid (grown_any v n w hit)
  have hvf : ∃ ao cap, v = .slice ao n cap := by obtain ⟨_, ao, cap, h, _⟩ := hit; exact ⟨ao, cap, h⟩
  obtain ⟨ao, cap, rfl⟩ := hvf
  clear hkn hit
  go_enter Tryd.func3, Tryd.ntmps3
  go_wp2_with fail
  refine G.out.mono ?_
  rintro e w1 ⟨⟨lv, L, rfl, hO, hG, hL⟩, hb1⟩
  have R1 := hid hO.reads
  obtain ⟨lo, lc, rfl⟩ := R1.out.form
  have HG := hid hG
  have B1 := hid hb1
  clear hO hG hb1 G
  have hX := hid (show ∀ x ∈ L, x.2.size ≤ 281474976710656 from fun x hx => by have := (HG.out.2 x hx).2; omega)
  have hll : L.length ≤ 9223372036854775000 := by omega
  go_wp2_with fail
  refine (works_any _ (HK.out.below B1.out)).mono ?_
  rintro e w2 ⟨rfl, hb2⟩
  have R2 := hid (R1.out.below hb2)
  have B2 := hid (B1.out.trans (hb2.mono B1.out.size))
  clear hb2 R1 B1
  go_wp2_with fail
  refine (print_any _ L _ (HK.out.below B2.out) R2.out hX.out hll).mono ?_
  rintro e w3 ⟨⟨t, en, n3, rfl, hA⟩, hb3⟩
  obtain ⟨rfl, rfl, rfl⟩ := (HG.out.prt hL).same hA
  have R3 := hid (R2.out.below hb3)
  have B3 := hid (B2.out.trans (hb3.mono B2.out.size))
  clear hb3 R2 B2 hA
  have P3 := hid (HG.out.pse hL)
  have hts : (⟨(scP L L.length).toArray⟩ : ByteArray).size = (scP L L.length).length := by rw [← len_list]
  have hsc := HG.out.sc L.length (Nat.le_refl _)
  obtain ⟨t0, ht0⟩ : ∃ t0, (⟨(scP L L.length).toArray⟩ : ByteArray) = t0 := ⟨_, rfl⟩
  rw [ht0] at P3 hts ⊢
  clear ht0
  go_wp2_with fail
  refine (printShown_any _ L _ (HK.out.below B3.out) R3.out hX.out hll).mono ?_
  rintro e w4 ⟨⟨s, sn, n4, rfl, hA⟩, hb4⟩
  obtain ⟨rfl, rfl, rfl⟩ := (HG.out.shw hL).same hA
  have R4 := hid (R3.out.below hb4)
  have B4 := hid (B3.out.trans (hb4.mono B3.out.size))
  clear hb4 R3 B3 hA
  have P4 := hid (HG.out.psh hL)
  have hss : (⟨(shP L L.length).toArray⟩ : ByteArray).size = (shP L L.length).length := by rw [← len_list]
  have hsh := HG.out.sh L.length (Nat.le_refl _)
  obtain ⟨s0, hs0⟩ : ∃ s0, (⟨(shP L L.length).toArray⟩ : ByteArray) = s0 := ⟨_, rfl⟩
  rw [hs0] at P4 hss ⊢
  clear hs0
  have hts2 : t0.size ≤ 9223372036854775807 := by omega
  have hss2 : s0.size ≤ 9223372036854775807 := by omega
  have PS := hid (fun w h => parse_own t0 w h hts2)
  have QS := hid (fun w h => parseShown_own s0 w h hss2)
  have LS := hid (fun w h => parse_own ⟨#[49, 48, 65, 40, 49, 29, 49, 55, 50, 53, 49, 50, 51, 49]⟩ w h (by decide +kernel))
  clear hts hss hsc hsh hts2 hss2
  have hX0 : ∃ X0 : Nat → List El, (∀ j, j % 3 = 1 → X0 j = L0) ∧ (∀ j, ¬ j % 3 = 1 → X0 j = L) ∧ ∀ j, (X0 j).length ≤ 12 := ⟨fun j => if j % 3 = 1 then L0 else L, fun j h => if_pos h, fun j h => if_neg h, fun j => by
    show (if j % 3 = 1 then L0 else L).length ≤ 12
    split
    · decide +kernel
    · exact hL⟩
  obtain ⟨X0, hX0⟩ := hX0
  have HX0 := hid hX0
  clear hX0
  go_wp2
  go_loopg [11, 12] 2 (fun g s11 s12 wr => ∃ (i : Nat) (col : Nat → Nat) (V : List Value), i ≤ 2 ∧ 2 - i ≤ g ∧ s12 = .int .i64 (i : Int) ∧ V.length = 3 * i ∧ Hid (St1 col wr w4.heap.size s11 V X0) ∧ Hid (Below w4.heap.size w4 wr))
  case atStart => exact ⟨0, fun _ => 0, [], by omega, by omega, rfl, rfl, hid ⟨Ow.nil _ _ _ _, fun j h => by simp at h⟩, hid (Below.refl _ _)⟩
  case round =>
    obtain ⟨i, col, V, hi, hm, rfl, hVl, HS, HB⟩ := hrel
    have HVl := hid hVl
    clear hVl
    obtain ⟨ka, kc, hkv, _⟩ := HS.out.1.len
    subst hkv
    by_cases hlt : i < 2
    · have hlt' : (i : Int) < 2 := by omega
      go_wp2_with fail
      refine (PS.out _ (HK.out.below (B4.out.trans (HB.out.mono B4.out.size)))).mono ?_
      rintro e w5 ⟨⟨av, M, en, n5, rfl, ho, hA, _⟩, hb5⟩
      obtain ⟨rfl, rfl, rfl⟩ := P3.out.same hA
      obtain ⟨a1, a2, rfl⟩ := (OE.reads ho).form
      have HB5 := hid (HB.out.trans (hb5.mono HB.out.size))
      have hBr := HB.out.size
      obtain ⟨cl1, hcl1⟩ : ∃ cl1, (fun g => if wr.heap.size ≤ g then 3 * i else col g) = cl1 := ⟨_, rfl⟩
      have HS5 := hid (show St1 cl1 w5 w4.heap.size _ V X0 by rw [← hcl1]; exact (HS.out.recol (col_old _ _)).later hb5)
      have HA5 := hid (show OwE cl1 (3 * i) w5 w4.heap.size _ _ by rw [← hcl1]; exact own_new ho hBr _ _)
      have R5 := hid ((R4.out.below HB.out).below hb5)
      clear ho hA hb5 hcl1 HS HB
      have hB5 := HB5.out.size
      go_wp2_with fail
      refine (LS.out _ (HK.out.below (B4.out.trans (HB5.out.mono B4.out.size)))).mono ?_
      rintro e w6 ⟨⟨bv, M2, en, n6, rfl, ho, hA, _⟩, hb6⟩
      obtain ⟨rfl, rfl, rfl⟩ := PaA0.same hA
      obtain ⟨b1, b2, rfl⟩ := (OE.reads ho).form
      have HB6 := hid (HB5.out.trans (hb6.mono HB5.out.size))
      obtain ⟨cl2, hcl2⟩ : ∃ cl2, (fun g => if w5.heap.size ≤ g then 3 * i + 1 else cl1 g) = cl2 := ⟨_, rfl⟩
      have HS6 := hid (show St1 cl2 w6 w4.heap.size _ V X0 by rw [← hcl2]; exact (HS5.out.recol (col_old _ _)).later hb6)
      have HA6 := hid (show OwE cl2 (3 * i) w6 w4.heap.size _ _ by rw [← hcl2]; exact (HA5.out.recol (col_old _ _)).later hb6)
      have HC6 := hid (show OwE cl2 (3 * i + 1) w6 w4.heap.size _ _ by rw [← hcl2]; exact own_new ho hB5 _ _)
      have R6 := hid (R5.out.below hb6)
      clear ho hA hb6 hcl2 HS5 HB5 HA5 R5
      have hB6 := HB6.out.size
      go_wp2_with fail
      refine (QS.out _ (HK.out.below (B4.out.trans (HB6.out.mono B4.out.size)))).mono ?_
      rintro e w7 ⟨⟨cv, M3, en, n7, rfl, ho, hA, _⟩, hb7⟩
      obtain ⟨rfl, rfl, rfl⟩ := P4.out.same hA
      obtain ⟨c1, c2, rfl⟩ := (OE.reads ho).form
      have HB7 := hid (HB6.out.trans (hb7.mono HB6.out.size))
      obtain ⟨cl3, hcl3⟩ : ∃ cl3, (fun g => if w6.heap.size ≤ g then 3 * i + 2 else cl2 g) = cl3 := ⟨_, rfl⟩
      have HS7 := hid (show St1 cl3 w7 w4.heap.size _ V X0 by rw [← hcl3]; exact (HS6.out.recol (col_old _ _)).later hb7)
      have HA7 := hid (show OwE cl3 (3 * i) w7 w4.heap.size _ _ by rw [← hcl3]; exact (HA6.out.recol (col_old _ _)).later hb7)
      have HC7 := hid (show OwE cl3 (3 * i + 1) w7 w4.heap.size _ _ by rw [← hcl3]; exact (HC6.out.recol (col_old _ _)).later hb7)
      have HD7 := hid (show OwE cl3 (3 * i + 2) w7 w4.heap.size _ _ by rw [← hcl3]; exact own_new ho hB6 _ _)
      have R7 := hid (R6.out.below hb7)
      clear ho hA hb7 hcl3 HS6 HB6 HA6 HC6 R6
      go_wp2_with fail
      refine (same_true _ _ _ _ (OE.reads HA7.out.1) R7.out (by omega)).mono ?_
      rintro e w8 ⟨rfl, hb8⟩
      have HB8 := hid (HB7.out.trans (hb8.mono HB7.out.size))
      have HS8 := hid (HS7.out.later hb8)
      have HA8 := hid (HA7.out.later hb8)
      have HC8 := hid (HC7.out.later hb8)
      have HD8 := hid (HD7.out.later hb8)
      have R8 := hid (R7.out.below hb8)
      clear hb8 HS7 HB7 HA7 HC7 HD7 R7
      go_wp2_with fail
      refine (same_true _ _ _ _ (OE.reads HD8.out.1) R8.out (by omega)).mono ?_
      rintro e w9 ⟨rfl, hb9⟩
      have HB9 := hid (HB8.out.trans (hb9.mono HB8.out.size))
      have HS9 := hid (HS8.out.later hb9)
      have HA9 := hid (HA8.out.later hb9)
      have HC9 := hid (HC8.out.later hb9)
      have HD9 := hid (HD8.out.later hb9)
      clear hb9 HS8 HB8 HA8 HC8 HD8 R8
      have hb10 := (Below.refl w9.heap.size w9).alloc (Nat.le_refl _) (.cells #[.slice a1 M3.length a2, .slice b1 2 b2, .slice c1 M3.length c2] 23)
      have HS10 := hid (HS9.out.later hb10)
      have HA10 := hid (HA9.out.later hb10)
      have HC10 := hid (HC9.out.later hb10)
      have HD10 := hid (HD9.out.later hb10)
      have HB10 := hid (HB9.out.trans (hb10.mono HB9.out.size))
      clear hb10 HS9 HA9 HC9 HD9 HB9
      go_wp2_with (at_builtin; refine wpList_appC (enc := eV) (k := 1) (t := 23) seinfo Tryd.underlying30 rfl (by omega) eV_len rfl _ _ rfl (by first | rfl | simp) HS10.out.1 ⟨w9.heap.size, 0, none⟩ 3 3 [.slice a1 M3.length a2, .slice b1 2 b2, .slice c1 M3.length c2] rfl rfl ?h1 (three_new _ _ _ _ _) ?hlen ?hl2 ?hb ?hnext)
      case h1 => intro x hx u hu; simp at hx; rcases hx with rfl | rfl | rfl <;> (simp [eV] at hu; subst hu; rfl)
      case hlen => have := HVl.out; simp; omega
      case hl2 => have := HVl.out; simp [maxLen]; omega
      case hb => exact HB10.out.size
      case hnext =>
        intro v11 w11 cl4 hO hOld hg hcv hcc
        have hkl := fun g e => (HS10.out.1.lt g e).2
        have hcc : ∀ g, g < (w9.alloc (.cells #[.slice a1 M3.length a2, .slice b1 2 b2, .slice c1 M3.length c2] 23)).heap.size → cl4 g = cl3 g := fun g h => hcc g (by simpa using h)
        have HR := hid (RwE.app (c := 100) HS10.out.2 hg hcv hkl hcc (fun j h _ => by have := HVl.out; omega))
        have HA11 := hid (Ow.app (c' := 100) HA10.out hg hcv hkl hcc (by omega))
        have HC11 := hid (Ow.app (c' := 100) HC10.out hg hcv hkl hcc (by omega))
        have HD11 := hid (Ow.app (c' := 100) HD10.out hg hcv hkl hcc (by omega))
        have HB11 := hid (HB10.out.grown hg HB10.out.size (fun b hb => (HS10.out.1.lt b hb).1))
        have HS11 := hid (show St1 cl4 w11 w4.heap.size v11 (V ++ [.slice a1 M3.length a2, .slice b1 2 b2, .slice c1 M3.length c2]) X0 from ⟨hO, by
          have e : V ++ [.slice a1 M3.length a2, .slice b1 2 b2, .slice c1 M3.length c2] = ((V ++ [.slice a1 M3.length a2]) ++ [.slice b1 2 b2]) ++ [.slice c1 M3.length c2] := by simp
          rw [e]
          refine ((HR.out.snoc (fun _ => ?_)).snoc (fun _ => ?_)).snoc (fun _ => ?_)
          · rw [HVl.out, HX0.out.2.1 (3 * i) (by omega)]; exact HA11.out
          · rw [show (V ++ [Value.slice a1 M3.length a2]).length = 3 * i + 1 by simp [HVl.out], HX0.out.1 _ (by omega)]; exact HC11.out
          · rw [show (V ++ [Value.slice a1 M3.length a2] ++ [Value.slice b1 2 b2]).length = 3 * i + 2 by simp [HVl.out], HX0.out.2.1 _ (by omega)]; exact HD11.out⟩)
        clear hO hOld hg hcv hcc hkl HR HA11 HC11 HD11 HS10 HA10 HC10 HD10 HB10
        go_wp2
        go_roundg (gk - 1)
        case measure => omega
        case rel => exact ⟨i + 1, cl4, V ++ [.slice a1 M3.length a2, .slice b1 2 b2, .slice c1 M3.length c2], by omega, by omega, by first | rfl | go_num, by have := HVl.out; simp; omega, HS11, HB11⟩
    · have hlt' : ¬ (i : Int) < 2 := by omega
      have hV6 : V.length = 6 := by have := HVl.out; omega
      obtain ⟨bk, kcap, hkv, hq0⟩ := HS.out.1.cell 0 (by omega)
      clear hq0
      cases hkv
      rw [hV6]
      have HV6 := hid hV6
      have Hmore := hid HX0.out.2.2
      have HKW := hid (fun wx (h : Below w4.heap.size w4 wx) => HK.out.below (B4.out.trans (h.mono B4.out.size)))
      clear hV6 HVl hlt hm PS QS LS P3 P4 HX0 hX HG R4 hll hL HK
      go_wp2
      clear hlt' hi
      go_loopg [22] 6 (fun g s22 wr => ∃ (i : Nat) (col : Nat → Nat) (X : Nat → List El), i ≤ 6 ∧ 6 - i ≤ g ∧ s22 = .int .i64 (i : Int) ∧ Hid (∀ j, (X j).length ≤ 12) ∧ Hid (∀ j, j < i → Fil j (X j) (X j).length) ∧ Hid (St1 col wr w4.heap.size (.slice (some ⟨bk, 0, none⟩) V.length kc) V X) ∧ Hid (Below w4.heap.size w4 wr))
      case atStart => exact ⟨0, col, X0, by omega, by omega, rfl, Hmore, hid (fun j h => by omega), HS, HB⟩
      case round =>
        obtain ⟨i2, col2, X, hi2, hm2, rfl, HX12, HF, HS2, HB2⟩ := hrel
        obtain ⟨gO, rfl⟩ : ∃ gO, gO = gk := ⟨_, rfl⟩
        clear HS HB
        by_cases hlt2 : i2 < 6
        · have hlt2' : (i2 : Int) < 6 := by omega
          have hiV : i2 < V.length := by rw [HV6.out]; exact hlt2
          obtain ⟨ai, ci, hvi, _⟩ := (HS2.out.2 i2 hiV trivial).len
          have hN12 := HX12.out i2
          obtain ⟨N, hN⟩ : ∃ N, (X i2).length = N := ⟨_, rfl⟩
          rw [hN] at hvi hN12
          have HN := hid hN
          have HVI := hid hvi
          clear hN hvi
          go_wp2
          go_loopg [23] 12 (fun g s23 wr => ∃ (k : Nat) (col : Nat → Nat) (X : Nat → List El), k ≤ N ∧ N - k ≤ g ∧ s23 = .int .i64 (k : Int) ∧ Hid (∀ j, (X j).length ≤ 12) ∧ Hid ((X i2).length = N) ∧ Hid (∀ j, j < i2 → Fil j (X j) (X j).length) ∧ Hid (Fil i2 (X i2) k) ∧ Hid (St1 col wr w4.heap.size (.slice (some ⟨bk, 0, none⟩) V.length kc) V X) ∧ Hid (Below w4.heap.size w4 wr))
          case atStart => exact ⟨0, col2, X, by omega, by omega, rfl, HX12, HN, HF, hid (fun q h => by omega), HS2, HB2⟩
          case round =>
            obtain ⟨k, col3, X3, hk, hm3, rfl, HX3, HN3, HF3, HFi, HS3, HB3⟩ := hrel
            have ck : wr.cell? ⟨bk, i2, none⟩ = some (.slice ai N ci) := by have := HS3.out.1.cells i2 hiV; rw [HVI.out] at this; exact this
            clear HX12 HN HF HS2 HB2
            by_cases hk3 : k < N
            · have hk3' : (k : Int) < (N : Int) := by omega
              obtain ⟨gi, ci', hvi, hcap, hbg, hgl, hcol, hcell, hfz, cur, hcur⟩ := Ow.at' eE_len (HS3.out.2 i2 hiV trivial) k (by rw [HN3.out]; exact hk3)
              have HGI := hid hcur
              rw [HVI.out, HN3.out] at hvi
              cases hvi
              rw [HN3.out] at hcap
              obtain ⟨v0, e0⟩ : ∃ v0, wr.cell? ⟨gi, k * 2, none⟩ = some v0 := ⟨_, by have := hcell 0 _ rfl; rw [Nat.add_zero] at this; exact this⟩
              obtain ⟨v1, e1⟩ : ∃ v1, wr.cell? ⟨gi, k * 2 + 1, none⟩ = some v1 := ⟨_, hcell 1 _ rfl⟩
              have z0 := hfz (k * 2)
              have z1 := hfz (k * 2 + 1)
              have HCO := hid hcol
              clear hcell hfz hcol hcur
              have sd : ∀ o o' : Obj, Below wr.heap.size wr ((wr.alloc o).alloc o').drew := fun o o' => (((Below.refl _ _).alloc (Nat.le_refl _) o).alloc (by simp) o').drew
              have sd1 : ∀ o : Obj, Below wr.heap.size wr (wr.alloc o).drew := fun o => ((Below.refl _ _).alloc (Nat.le_refl _) o).drew
              have f1 := below_cells ((Below.refl wr.heap.size wr).drew) _ _ ck
              have f2 := fun o => below_cells (sd1 o) _ _ ck
              have f3 := fun o o' => below_cells (sd o o') _ _ ck
              have g0 := fun o o' => below_cells (sd o o') _ _ e0
              have g1 := fun o o' => below_cells (sd o o') _ _ e1
              have y0 := fun o o' q => Lib.frozen_of_heap (((sd o o').block gi hgl).trans HGI.out) q
              have q1 := fun n : Nat => conv_one (wr.alloc (.cells #[.int .u8 (n : Int)] 5)).drew wr.heap.size n (by simp)
              have q2 := fun n m : Nat => conv_one ((wr.alloc (.cells #[.int .u8 (n : Int)] 5)).alloc (.cells #[.int .u8 (m : Int)] 5)).drew wr.heap.size n (by simp)
              have q3 := fun n m : Nat => conv_one ((wr.alloc (.cells #[.int .u8 (n : Int)] 5)).alloc (.cells #[.int .u8 (m : Int)] 5)).drew (wr.heap.size + 1) m (by simp)
              have wi : IntKind.u8.wrap (i2 : Int) = (i2 : Int) := by rw [IntKind.wrap_u8]; omega
              have wk : IntKind.u8.wrap (k : Int) = (k : Int) := by rw [IntKind.wrap_u8]; omega
              have HSW := hid (fun W' (h : Below ((wr.setCell ⟨gi, k * 2, none⟩ (.string (bt i2))).setCell ⟨gi, k * 2 + 1, none⟩ (.string (bt k))).heap.size ((wr.setCell ⟨gi, k * 2, none⟩ (.string (bt i2))).setCell ⟨gi, k * 2 + 1, none⟩ (.string (bt k))) W') => (HS3.out.set i2 k hiV (by omega) (by rw [HN3.out]; exact hk3) (bt i2, bt k) HVI.out).later h)
              have HBW := hid (show Below w4.heap.size w4 ((wr.setCell ⟨gi, k * 2, none⟩ (.string (bt i2))).setCell ⟨gi, k * 2 + 1, none⟩ (.string (bt k))) from (HB3.out.setCell hbg _).setCell hbg _)
              have HX4 := hid (show ∀ j, ((fun j => if j = i2 then (X3 i2).set k (bt i2, bt k) else X3 j) j).length ≤ 12 from fun j => by
                show (if j = i2 then (X3 i2).set k (bt i2, bt k) else X3 j).length ≤ 12
                split
                · rw [List.length_set]; exact HX3.out i2
                · exact HX3.out j)
              have HN4 := hid (show ((fun j => if j = i2 then (X3 i2).set k (bt i2, bt k) else X3 j) i2).length = N by
                show (if i2 = i2 then (X3 i2).set k (bt i2, bt k) else X3 i2).length = N
                rw [if_pos rfl, List.length_set]
                exact HN3.out)
              have HF4 := hid (show ∀ j, j < i2 → Fil j ((fun j => if j = i2 then (X3 i2).set k (bt i2, bt k) else X3 j) j) ((fun j => if j = i2 then (X3 i2).set k (bt i2, bt k) else X3 j) j).length from fun j hj => by
                show Fil j (if j = i2 then (X3 i2).set k (bt i2, bt k) else X3 j) (if j = i2 then (X3 i2).set k (bt i2, bt k) else X3 j).length
                rw [if_neg (by omega)]
                exact HF3.out j hj)
              have HG4 := hid (show Fil i2 ((fun j => if j = i2 then (X3 i2).set k (bt i2, bt k) else X3 j) i2) (k + 1) by
                show Fil i2 (if i2 = i2 then (X3 i2).set k (bt i2, bt k) else X3 i2) (k + 1)
                rw [if_pos rfl]
                exact HFi.out.step (by rw [HN3.out]; exact hk3))
              obtain ⟨X4, hX4⟩ : ∃ X4, (fun j => if j = i2 then (X3 i2).set k (bt i2, bt k) else X3 j) = X4 := ⟨_, rfl⟩
              rw [hX4] at HSW HX4 HN4 HF4 HG4
              clear hX4 HS3 HB3 HX3 HN3 HF3 HFi
              go_wp2_with fail
              go_region
              all_goals go_wp2
              all_goals go_roundg (gk - 1)
              all_goals first
                | omega
                | exact ⟨k + 1, col3, X4, by omega, by omega, by first | rfl | go_num, HX4, HN4, HF4, HG4, hid (HSW.out _ (two_below _ _ _)), hid (HBW.out.trans ((two_below _ _ _).mono HBW.out.size))⟩
            · have hk3' : ¬ (k : Int) < (N : Int) := by omega
              have HF5 := hid (show ∀ j, j < i2 + 1 → Fil j (X3 j) (X3 j).length from fun j hj => by
                by_cases e : j = i2
                · subst e
                  rw [HN3.out, show N = k by omega]
                  exact HFi.out
                · exact HF3.out j (by omega))
              clear HF3 HFi
              go_wp2
              go_roundg (gO - 1)
              case measure => omega
              case rel => exact ⟨i2 + 1, col3, X3, by omega, by omega, by first | rfl | go_num, HX3, HF5, HS3, HB3⟩
        · have hlt2' : ¬ (i2 : Int) < 6 := by omega
          have HFA := hid (show ∀ j, j < 6 → Fil j (X j) (X j).length from fun j hj => HF.out j (by omega))
          clear HF hm2 hlt2
          go_wp2
          clear hlt2' hi2
          go_loopg [24, 26] 6 (fun g s24 s26 wr => ∃ (i : Nat) (col : Nat → Nat) (F : List Value), i ≤ 6 ∧ 6 - i ≤ g ∧ s26 = .int .i64 (i : Int) ∧ Hid (F.length = i) ∧ Hid (St1 col wr w4.heap.size (.slice (some ⟨bk, 0, none⟩) V.length kc) V X) ∧ Hid (OwS col 101 wr w4.heap.size s24 F) ∧ Hid (RwE col wr w4.heap.size (fun _ => True) F (fun j => X j ++ [(mo, bt j)])) ∧ Hid (Below w4.heap.size w4 wr))
          case atStart => exact ⟨0, col2, [], by omega, by omega, rfl, hid rfl, HS2, hid (Ow.nil _ _ _ _), hid (fun j h => by simp at h), HB2⟩
          case round =>
            obtain ⟨i4, col4, F, hi4, hm4, rfl, HFl, HS4, HO4, HR4, HB4⟩ := hrel
            clear HS2 HB2
            obtain ⟨fa, fc, hfv, _⟩ := HO4.out.len
            subst hfv
            rw [HFl.out]
            by_cases hlt4 : i4 < 6
            · have hlt4' : (i4 : Int) < 6 := by omega
              have hiV : i4 < V.length := by rw [HV6.out]; exact hlt4
              obtain ⟨ai, ci, hvi, _⟩ := (HS4.out.2 i4 hiV trivial).len
              have hN12 := HX12.out i4
              have ck : wr.cell? ⟨bk, i4, none⟩ = some V[i4] := HS4.out.1.cells i4 hiV
              obtain ⟨w5, hw5⟩ : ∃ w5, ((wr.alloc (.cells #[.int .u8 (i4 : Int)] 5)).alloc (.cells #[.string mo, .string (bt i4)] 36)).drew = w5 := ⟨_, rfl⟩
              have b5 : Below wr.heap.size wr w5 := by rw [← hw5]; exact two_below _ _ _
              have HS5 := hid (HS4.out.later b5)
              have HO5 := hid (HO4.out.later b5)
              have HR5 := hid (HR4.out.later b5)
              have HB5 := hid (HB4.out.trans (b5.mono HB4.out.size))
              have hn5 : ∀ j u, (([(mo, bt i4)] : List El).flatMap eE)[j]? = some u → w5.cell? ((⟨wr.heap.size + 1, 0, none⟩ : Addr).add j) = some u := by
                rw [← hw5]
                intro j u hj
                have := elem_new (wr.alloc (.cells #[.int .u8 (i4 : Int)] 5)) (mo, bt i4) 36 j u hj
                rw [World.size_alloc] at this
                exact this
              obtain ⟨v6, w6, col6, hap1, hO6, hK6, hg6, hc6⟩ := run_appC (enc := eE) elinfo Tryd.underlying23 rfl (by omega) eE_len (HS5.out.2 i4 hiV trivial) ⟨wr.heap.size + 1, 0, none⟩ 1 1 [(mo, bt i4)] rfl (fun x hx => eE_one x) hn5 (by simp; omega) (by simp [maxLen]; omega) HB5.out.size 23
              have hcv := (HS5.out.2 i4 hiV trivial).2
              have hlv := fun g e => ((HS5.out.2 i4 hiV trivial).lt g e).2
              have HS6 := hid (show St1 col6 w6 w4.heap.size (.slice (some ⟨bk, 0, none⟩) V.length kc) V X from ⟨Ow.app (c' := i4) HS5.out.1 hg6 hcv hlv hc6 (by omega), fun j hj _ => by
                by_cases e : j = i4
                · subst e; exact hK6
                · exact Ow.app (c' := i4) (HS5.out.2 j hj trivial) hg6 hcv hlv hc6 e⟩)
              have HO6 := hid (Ow.app (c' := i4) HO5.out hg6 hcv hlv hc6 (by omega))
              have HR6 := hid (RwE.app (c := i4) HR5.out hg6 hcv hlv hc6 (fun j h _ => by have := HFl.out; omega))
              have HB6 := hid (HB5.out.grown hg6 HB5.out.size (fun b hb => ((HS5.out.2 i4 hiV trivial).lt b hb).1))
              obtain ⟨xa, xc, hv6, _⟩ := hO6.len
              obtain ⟨n6, hn6⟩ : ∃ n6, (X i4 ++ [(mo, bt i4)]).length = n6 := ⟨_, rfl⟩
              rw [hn6] at hv6
              subst hv6
              have HW6 := hid hO6
              have b7 := (Below.refl w6.heap.size w6).alloc (Nat.le_refl _) (.cells #[.slice xa n6 xc] 23)
              have HS7 := hid (HS6.out.later b7)
              have HO7 := hid (HO6.out.later b7)
              have HR7 := hid (HR6.out.later b7)
              have HW7 := hid (HW6.out.later b7)
              have HB7 := hid (HB6.out.trans (b7.mono HB6.out.size))
              have hn7 := one_new' w6 (.slice xa n6 xc) 23
              obtain ⟨v8, w8, col8, hap2, hO8, _, hg8, hc8⟩ := run_appC (enc := eV) seinfo Tryd.underlying30 rfl (by omega) eV_len HO7.out ⟨w6.heap.size, 0, none⟩ 1 1 [.slice xa n6 xc] rfl (fun x hx u hu => by simp at hx; subst hx; simp [eV] at hu; subst hu; rfl) hn7 (by have := HFl.out; simp; omega) (by have := HFl.out; simp [maxLen]; omega) HB7.out.size 30
              have hcf := HO7.out.2
              have hlf := fun g e => (HO7.out.lt g e).2
              have HS8 := hid (show St1 col8 w8 w4.heap.size (.slice (some ⟨bk, 0, none⟩) V.length kc) V X from ⟨Ow.app (c' := 101) HS7.out.1 hg8 hcf hlf hc8 (by omega), RwE.app (c := 101) HS7.out.2 hg8 hcf hlf hc8 (fun j h _ => by have := HV6.out; omega)⟩)
              have HR8 := hid (show RwE col8 w8 w4.heap.size (fun _ => True) (F ++ [Value.slice xa n6 xc]) (fun j => X j ++ [(mo, bt j)]) from (RwE.app (c := 101) HR7.out hg8 hcf hlf hc8 (fun j h _ => by have := HFl.out; omega)).snoc (fun _ => by rw [HFl.out]; exact Ow.app (c' := 101) HW7.out hg8 hcf hlf hc8 (by omega)))
              have HO8 := hid hO8
              have HB8 := hid (HB7.out.grown hg8 HB7.out.size (fun b hb => (HO7.out.lt b hb).1))
              have k0 := below_cells ((Below.refl wr.heap.size wr).drew) _ _ ck
              have k1 := below_cells (((Below.refl wr.heap.size wr).alloc (Nat.le_refl _) (.cells #[.int .u8 (i4 : Int)] 5)).drew) _ _ ck
              have k5 := HS5.out.1.cells i4 hiV
              have k6 := HS6.out.1.cells i4 hiV
              have k7 := HS7.out.1.cells i4 hiV
              have k8 := HS8.out.1.cells i4 hiV
              have q1 := conv_one (wr.alloc (.cells #[.int .u8 (i4 : Int)] 5)).drew wr.heap.size i4 (by simp)
              have wi : IntKind.u8.wrap (i4 : Int) = (i4 : Int) := by rw [IntKind.wrap_u8]; omega
              have HL8 := hid (show (F ++ [Value.slice xa n6 xc]).length = i4 + 1 by simp [HFl.out])
              rw [HFl.out] at hap2
              clear HS4 HO4 HR4 HB4 HS5 HO5 HR5 HB5 HS6 HO6 HR6 HB6 HS7 HO7 HR7 HB7 HW6 HW7 hO6 hK6 hg6 hc6 hO8 hg8 hc8 hcv hlv hcf hlf b5 b7 hn5 hn7 hvi hn6
              unfold mo at hw5
              go_upto_region 29 with fail
              go_region_law (first | refine step_appC rfl (.tmp 164) (.tmp 170) rfl rfl rfl hap1 ?_ | refine step_appC rfl (.tmp 160) (.tmp 172) rfl rfl rfl hap2 ?_)
              all_goals go_wp2
              all_goals go_roundg (gk - 1)
              all_goals first
                | omega
                | exact ⟨i4 + 1, col8, F ++ [.slice xa n6 xc], by omega, by omega, by first | rfl | go_num, HL8, HS8, HO8, HR8, HB8⟩
            · have hlt4' : ¬ (i4 : Int) < 6 := by omega
              have hi6 : i4 = 6 := by omega
              obtain ⟨bf, fcap, hfv, hq0⟩ := HO4.out.cell 0 (by rw [HFl.out]; omega)
              clear hq0
              cases hfv
              have HF6 := hid (show F.length = 6 by rw [HFl.out]; exact hi6)
              have HVF := hid (show ∀ j (h : j < V.length), ∃ a c, V[j] = .slice a (X j).length c from fun j h => by obtain ⟨a, c, e, _⟩ := (HS4.out.2 j h trivial).len; exact ⟨a, c, e⟩)
              have HS5 := hid (show St5 col4 wr w4.heap.size (.slice (some ⟨bk, 0, none⟩) V.length kc) (.slice (some ⟨bf, 0, none⟩) F.length fc) (.slice none 0 0) V F [] X 0 from ⟨⟨HS4.out.1, HO4.out, Ow.nil _ _ _ _⟩, HS4.out.2.imp (fun _ _ _ => trivial), HR4.out.imp (fun _ _ _ => trivial), fun j h => by simp at h⟩)
              clear HS4 HO4 HR4 hm4 hlt4
              subst hi6
              go_wp2
              clear hlt4' hi4
              go_loopg [25, 27] 6 (fun g s25 s27 wr => ∃ (i : Nat) (col : Nat → Nat) (G : List Value), i ≤ 6 ∧ 6 - i ≤ g ∧ s27 = .int .i64 (i : Int) ∧ Hid (G.length = i) ∧ Hid (St5 col wr w4.heap.size (.slice (some ⟨bk, 0, none⟩) V.length kc) (.slice (some ⟨bf, 0, none⟩) F.length fc) s25 V F G X i) ∧ Hid (Below w4.heap.size w4 wr))
              case atStart => exact ⟨0, col4, [], by omega, by omega, rfl, hid rfl, HS5, HB4⟩
              case round =>
                obtain ⟨i5, col5, G, hi5, hm5, rfl, HGl, HS5', HB5⟩ := hrel
                obtain ⟨g5, rfl⟩ : ∃ g5, g5 = gk := ⟨_, rfl⟩
                clear HS5 HB4
                obtain ⟨ga, gc, hgv, _⟩ := HS5'.out.1.2.2.len
                subst hgv
                rw [HGl.out]
                by_cases hlt5 : i5 < 6
                · have hlt5' : (i5 : Int) < 6 := by omega
                  have hiV : i5 < V.length := by rw [HV6.out]; exact hlt5
                  have hiF : i5 < F.length := by rw [HF6.out]; exact hlt5
                  obtain ⟨ai, ci, hvi⟩ := HVF.out i5 hiV
                  have hN12 := HX12.out i5
                  obtain ⟨N, hN⟩ : ∃ N, (X i5).length = N := ⟨_, rfl⟩
                  rw [hN] at hvi hN12
                  have HN := hid hN
                  have HVI := hid hvi
                  clear hvi
                  have ck : wr.cell? ⟨bk, i5, none⟩ = some (.slice ai N ci) := by rw [← HVI.out]; exact HS5'.out.1.1.cells i5 hiV
                  obtain ⟨gf, cf, hvf, _, _, _, _, hcell, _⟩ := Ow.at eE_len (HS5'.out.2.2.1 i5 hiF (Nat.le_refl _)) N (by simp; omega)
                  have hlF : (X i5 ++ [(mo, bt i5)]).length = N + 1 := by simp [hN]
                  rw [hlF] at hvf
                  have ef : (X i5 ++ [(mo, bt i5)])[N]'(by rw [hlF]; omega) = (mo, bt i5) := by subst hN; simp
                  have cf1 : wr.cell? ⟨gf, N * 2 + 1, none⟩ = some (.string (bt i5)) := hcell 1 _ (by rw [ef]; rfl)
                  have cf0 : wr.cell? ⟨bf, i5, none⟩ = some (.slice (some ⟨gf, 0, none⟩) (N + 1) cf) := by rw [← hvf]; exact HS5'.out.1.2.1.cells i5 hiF
                  have q1 := conv_one (wr.alloc (.cells #[.int .u8 (i5 : Int)] 5)).drew wr.heap.size i5 (by simp)
                  have wi : IntKind.u8.wrap (i5 : Int) = (i5 : Int) := by rw [IntKind.wrap_u8]; omega
                  have hNI : (N : Int) < (N : Int) + 1 := by omega
                  clear hcell hlF ef hvf hN
                  have m1 := fun o => below_cells ((Below.refl wr.heap.size wr).alloc (Nat.le_refl _) o) _ _ ck
                  have m2 := fun o => below_cells ((Below.refl wr.heap.size wr).alloc (Nat.le_refl _) o) _ _ cf0
                  have m3 := fun o => below_cells ((Below.refl wr.heap.size wr).alloc (Nat.le_refl _) o) _ _ cf1
                  go_upto_region 33 with fail
                  go_cut [196] (fun s196 wx => s196 = .bool false ∧ Hid (Below wr.heap.size wr wx))
                  case first =>
                    go_region
                    all_goals go_wp2_with fail
                    all_goals go_meet
                    all_goals exact ⟨rfl, hid ((((Below.refl _ _).alloc (Nat.le_refl _) _)).drew)⟩
                  case rest =>
                    obtain ⟨rfl, HBc⟩ := hcut
                    have HSc := hid (HS5'.out.later HBc.out)
                    have HB6 := hid (HB5.out.trans (HBc.out.mono HB5.out.size))
                    have HM0 := hid (show OwE col5 i5 wc w4.heap.size (.slice ai N ci) (X i5 ++ List.replicate 0 (mo, bt i5)) by
                      have := HSc.out.2.1 i5 hiV (Nat.le_refl _)
                      rw [HVI.out] at this
                      simpa using this)
                    have HS6 := hid HSc.out.imp
                    have ckc := HSc.out.1.1.cells i5 hiV
                    rw [HVI.out] at ckc
                    clear HS5' HB5 HBc HSc ck cf0 cf1 m1 m2 m3 q1
                    go_wp2
                    clear ckc
                    go_loopg [28, 29] 9 (fun g s28 s29 wr => ∃ (k : Nat) (col : Nat → Nat), k ≤ 9 ∧ 9 - k ≤ g ∧ s29 = .int .i64 (k : Int) ∧ Hid (OwE col i5 wr w4.heap.size s28 (X i5 ++ List.replicate k (mo, bt i5))) ∧ Hid (St5 col wr w4.heap.size (.slice (some ⟨bk, 0, none⟩) V.length kc) (.slice (some ⟨bf, 0, none⟩) F.length fc) (.slice ga G.length gc) V F G X (i5 + 1)) ∧ Hid (Below w4.heap.size w4 wr))
                    case atStart => exact ⟨0, col5, by omega, by omega, rfl, HM0, HS6, HB6⟩
                    case round =>
                      obtain ⟨k, col6, hk, hm6, rfl, HM, HS7, HB7⟩ := hrel
                      clear HM0 HS6 HB6
                      obtain ⟨ma, mc, hmv, _⟩ := HM.out.len
                      obtain ⟨mn, hmn⟩ : ∃ mn, (X i5 ++ List.replicate k (mo, bt i5)).length = mn := ⟨_, rfl⟩
                      rw [hmn] at hmv
                      subst hmv
                      have hmb : mn ≤ 21 := by rw [← hmn]; simp; have := HN.out; omega
                      have HMN := hid hmn
                      clear hmn
                      by_cases hk9 : k < 9
                      · have hk9' : (k : Int) < 9 := by omega
                        obtain ⟨w7, hw7⟩ : ∃ w7, (wr.alloc (.cells #[.int .u8 (i5 : Int)] 5)).alloc (.cells #[.string mo, .string (bt i5)] 36) = w7 := ⟨_, rfl⟩
                        have b7 : Below wr.heap.size wr w7 := by rw [← hw7]; exact ((Below.refl _ _).alloc (Nat.le_refl _) _).alloc (by simp) _
                        have HM7 := hid (HM.out.later b7)
                        have HS8 := hid (HS7.out.later b7)
                        have HB8 := hid (HB7.out.trans (b7.mono HB7.out.size))
                        have hn7 : ∀ j u, (([(mo, bt i5)] : List El).flatMap eE)[j]? = some u → w7.cell? ((⟨wr.heap.size + 1, 0, none⟩ : Addr).add j) = some u := by
                          rw [← hw7]
                          intro j u hj
                          have := elem_new (wr.alloc (.cells #[.int .u8 (i5 : Int)] 5)) (mo, bt i5) 36 j u hj
                          rw [World.size_alloc] at this
                          exact this
                        have q1 := conv_one (wr.alloc (.cells #[.int .u8 (i5 : Int)] 5)) wr.heap.size i5 (by simp)
                        unfold mo at hw7
                        have Hn7 := hid hn7
                        clear HM HS7 HB7 b7 hn7
                        go_wp2_with (at_builtin; refine wpList_appC (enc := eE) elinfo Tryd.underlying23 rfl (by omega) eE_len rfl _ _ rfl (by first | rfl | simp) HM7.out ⟨wr.heap.size + 1, 0, none⟩ 1 1 [(mo, bt i5)] rfl rfl (fun x hx => eE_one x) Hn7.out ?hlen ?hl2 ?hb ?hnext)
                        case hlen => have := HN.out; simp; omega
                        case hl2 => have := HN.out; simp [maxLen]; omega
                        case hb => exact HB8.out.size
                        case hnext =>
                          intro v9 w9 col9 hO hOld hg hcv hcc
                          have hlv := fun g e => (HM7.out.lt g e).2
                          have HM9 := hid (show OwE col9 i5 w9 w4.heap.size v9 (X i5 ++ List.replicate (k + 1) (mo, bt i5)) by rw [List.replicate_succ']; first | exact hO | (rw [← List.append_assoc]; exact hO))
                          have HS9 := hid (HS8.out.app (by omega) HGl.out hg hcv hlv hcc)
                          have HB9 := hid (HB8.out.grown hg HB8.out.size (fun b hb => (HM7.out.lt b hb).1))
                          clear hO hOld hg hcv hcc hlv HM7 HS8 HB8 q1
                          go_wp2
                          go_roundg (gk - 1)
                          case measure => omega
                          case rel => exact ⟨k + 1, col9, by omega, by omega, by first | rfl | go_num, HM9, HS9, HB9⟩
                      · have hk9' : ¬ (k : Int) < 9 := by omega
                        have hk99 : k = 9 := by omega
                        subst hk99
                        have b7 := (Below.refl wr.heap.size wr).alloc (Nat.le_refl _) (.cells #[.slice ma mn mc] 23)
                        have HM7 := hid (HM.out.later b7)
                        have HS8 := hid (HS7.out.later b7)
                        have HB8 := hid (HB7.out.trans (b7.mono HB7.out.size))
                        have Hn7 := hid (one_new' wr (.slice ma mn mc) 23)
                        clear HM HS7 HB7 b7
                        go_wp2_with (at_builtin; refine wpList_appC (enc := eV) seinfo Tryd.underlying30 rfl (by omega) eV_len rfl _ _ rfl (by first | rfl | (rw [← HGl.out]; rfl) | simp [HGl.out]) HS8.out.1.2.2 ⟨wr.heap.size, 0, none⟩ 1 1 [.slice ma mn mc] rfl rfl (fun x hx u hu => by simp at hx; subst hx; simp [eV] at hu; subst hu; rfl) Hn7.out ?hlen ?hl2 ?hb ?hnext)
                        case hlen => have := HGl.out; simp; omega
                        case hl2 => have := HGl.out; simp [maxLen]; omega
                        case hb => have := HB8.out.size; simpa using this
                        case hnext =>
                          intro v9 w9 col9 hO hOld hg hcv hcc
                          have hcc : ∀ g, g < (wr.alloc (.cells #[.slice ma mn mc] 23)).heap.size → col9 g = col6 g := fun g h => hcc g (by simpa using h)
                          have hlv := fun g e => (HS8.out.1.2.2.lt g e).2
                          have HS9 := hid (show St5 col9 w9 w4.heap.size (.slice (some ⟨bk, 0, none⟩) V.length kc) (.slice (some ⟨bf, 0, none⟩) F.length fc) v9 V F (G ++ [.slice ma mn mc]) X (i5 + 1) from
                            ⟨⟨HS8.out.1.1.app (c' := 102) hg hcv hlv hcc (by omega), HS8.out.1.2.1.app (c' := 102) hg hcv hlv hcc (by omega), hO⟩, HS8.out.2.1.app (c := 102) hg hcv hlv hcc (fun j h _ => by have := HV6.out; omega), HS8.out.2.2.1.app (c := 102) hg hcv hlv hcc (fun j h _ => by have := HF6.out; omega), (HS8.out.2.2.2.app (c := 102) hg hcv hlv hcc (fun j h _ => by have := HGl.out; omega)).snoc (fun _ => by rw [HGl.out]; exact HM7.out.app (c' := 102) hg hcv hlv hcc (by omega))⟩)
                          have HB9 := hid (HB8.out.grown hg HB8.out.size (fun b hb => (HS8.out.1.2.2.lt b hb).1))
                          have HL9 := hid (show (G ++ [Value.slice ma mn mc]).length = i5 + 1 by simp [HGl.out])
                          clear hO hOld hg hcv hcc hlv HM7 HS8 HB8
                          go_wp2
                          go_roundg (g5 - 1)
                          case measure => omega
                          case rel => exact ⟨i5 + 1, col9, G ++ [.slice ma mn mc], by omega, by omega, by first | rfl | go_num, HL9, HS9, HB9⟩
                · have hlt5' : ¬ (i5 : Int) < 6 := by omega
                  have hi6 : i5 = 6 := by omega
                  obtain ⟨bg, gcap, hgv, hq0⟩ := HS5'.out.1.2.2.cell 0 (by rw [HGl.out]; omega)
                  clear hq0
                  cases hgv
                  have HG6 := hid (show G.length = 6 by rw [HGl.out]; exact hi6)
                  have HGR := hid HS5'.out.2.2.2
                  have HGV := hid HS5'.out.1.2.2
                  have HKV := hid HS5'.out.1.1
                  clear HS5' hm5 hlt5 HGl HF6
                  subst hi6
                  go_wp2
                  clear hlt5' hi5
                  obtain ⟨wq, rfl⟩ : ∃ wq, wq = wr := ⟨_, rfl⟩
                  go_loopg [30] 6 (fun g s30 wr => ∃ i : Nat, i ≤ 6 ∧ 6 - i ≤ g ∧ s30 = .int .i64 (i : Int) ∧ Hid (Below wq.heap.size wq wr))
                  case atStart => exact ⟨0, by omega, by omega, rfl, hid (Below.refl _ _)⟩
                  case round =>
                    obtain ⟨i7, hi7, hm7, rfl, HB7⟩ := hrel
                    obtain ⟨g7, rfl⟩ : ∃ g7, g7 = gk := ⟨_, rfl⟩
                    by_cases hlt7 : i7 < 6
                    · have hlt7' : (i7 : Int) < 6 := by omega
                      have hiV : i7 < V.length := by rw [HV6.out]; exact hlt7
                      have hiG : i7 < G.length := by rw [HG6.out]; exact hlt7
                      obtain ⟨ai, ci, hvi⟩ := HVF.out i7 hiV
                      have hN12 := HX12.out i7
                      obtain ⟨N, hN⟩ : ∃ N, (X i7).length = N := ⟨_, rfl⟩
                      rw [hN] at hvi hN12
                      have hlG : (X i7 ++ List.replicate 9 (mo, bt i7)).length = N + 9 := by simp [hN]
                      obtain ⟨gg, cc, hvg, -, -, -, -, -, -⟩ := Ow.at eE_len (HGR.out i7 hiG trivial) 0 (by rw [hlG]; omega)
                      rw [hlG] at hvg
                      have HCK := hid (fun wx (h : Below wq.heap.size wq wx) => (show wx.cell? ⟨bk, i7, none⟩ = some (.slice ai N ci) by rw [← hvi]; exact OwS.cells (HKV.out.later h) i7 hiV))
                      have HCG := hid (fun wx (h : Below wq.heap.size wq wx) => (show wx.cell? ⟨bg, i7, none⟩ = some (.slice (some ⟨gg, 0, none⟩) (N + 9) cc) by rw [← hvg]; exact OwS.cells (HGV.out.later h) i7 hiG))
                      have HCE := hid (fun (k : Nat) (y : El) (hy : (X i7 ++ List.replicate 9 (mo, bt i7))[k]? = some y) wx (h : Below wq.heap.size wq wx) => (show wx.cell? ⟨gg, k * 2, none⟩ = some (.string y.1) ∧ wx.cell? ⟨gg, k * 2 + 1, none⟩ = some (.string y.2) by
                        obtain ⟨hk, he⟩ := List.getElem?_eq_some_iff.1 hy
                        obtain ⟨g', c', hv', _, _, _, _, hq, _⟩ := Ow.at eE_len ((HGR.out i7 hiG trivial).later h) k hk
                        rw [hvg] at hv'
                        injection hv' with e1 e2 e3
                        cases e1
                        exact ⟨by have := hq 0 (.string y.1) (by show (eE (X i7 ++ List.replicate 9 (mo, bt i7))[k])[0]? = _; rw [he]; rfl); simpa using this, hq 1 (.string y.2) (by show (eE (X i7 ++ List.replicate 9 (mo, bt i7))[k])[1]? = _; rw [he]; rfl)⟩))
                      have HY1 := hid (show ∀ k, k < N → (X i7 ++ List.replicate 9 (mo, bt i7))[k]? = some (bt i7, bt k) from fun k hk => by rw [List.getElem?_append_left (by omega)]; exact HFA.out i7 hlt7 k (by omega))
                      have HY2 := hid (show ∀ k, N ≤ k → k < N + 9 → (X i7 ++ List.replicate 9 (mo, bt i7))[k]? = some (mo, bt i7) from fun k h1 h2 => by rw [List.getElem?_append_right (by omega), List.getElem?_replicate, if_pos (by omega)])
                      have cg := HCG.out _ HB7.out
                      clear hvi hvg hlG hN hiV hiG
                      go_wp2
                      clear cg
                      go_loopg [31] 21 (fun g s31 wr => ∃ k : Nat, k ≤ N + 9 ∧ N + 9 - k ≤ g ∧ s31 = .int .i64 (k : Int) ∧ Hid (Below wq.heap.size wq wr))
                      case atStart => exact ⟨0, by omega, by omega, rfl, HB7⟩
                      case round =>
                        obtain ⟨k, hk, hm8, rfl, HB8⟩ := hrel
                        clear HB7
                        have cg := HCG.out _ HB8.out
                        have wi : IntKind.u8.wrap (i7 : Int) = (i7 : Int) := by rw [IntKind.wrap_u8]; omega
                        by_cases hkN : k < N + 9
                        · have hkN' : (k : Int) < (N : Int) + 9 := by omega
                          obtain ⟨w8, hw8⟩ : ∃ w8, (wr.alloc (.cells #[.int .u8 (i7 : Int)] 5)).alloc (.cells #[.string mo, .string (bt i7)] 36) = w8 := ⟨_, rfl⟩
                          have b8 : Below wr.heap.size wr w8 := by rw [← hw8]; exact ((Below.refl _ _).alloc (Nat.le_refl _) _).alloc (by simp) _
                          have HB9 := hid (HB8.out.trans (b8.mono HB8.out.size))
                          have hwt : w8.heap[wr.heap.size + 1]? = some (.cells #[.string mo, .string (bt i7)] 36 (0, 0)) := by
                            rw [← hw8]
                            have := heap_alloc_new (wr.alloc (.cells #[.int .u8 (i7 : Int)] 5)) (.cells #[.string mo, .string (bt i7)] 36)
                            rw [World.size_alloc] at this
                            exact this
                          have q1 := conv_one (wr.alloc (.cells #[.int .u8 (i7 : Int)] 5)) wr.heap.size i7 (by simp)
                          have ckq := HCK.out _ HB9.out
                          have cgq := HCG.out _ HB9.out
                          have w0 : w8.cell? ⟨wr.heap.size + 1, 0, none⟩ = some (.string mo) := by rw [Lib.cell_of_heap hwt]; rfl
                          have w1' : w8.cell? ⟨wr.heap.size + 1, 1, none⟩ = some (.string (bt i7)) := by rw [Lib.cell_of_heap hwt]; rfl
                          have wf := fun o => Lib.frozen_of_heap hwt o
                          unfold mo at hw8 w0
                          have HWT := hid hwt
                          have Hb8 := hid b8
                          clear hwt b8
                          by_cases hkn : k < N
                          · have hkn' : (k : Int) < (N : Int) := by omega
                            have wk : IntKind.u8.wrap (k : Int) = (k : Int) := by rw [IntKind.wrap_u8]; omega
                            obtain ⟨w10, hw10⟩ : ∃ w10, (((w8.alloc (.cells #[.int .u8 (i7 : Int)] 5)).alloc (.cells #[.int .u8 (k : Int)] 5)).setCell ⟨wr.heap.size + 1, 0, none⟩ (.string (bt i7))).setCell ⟨wr.heap.size + 1, 1, none⟩ (.string (bt k)) = w10 := ⟨_, rfl⟩
                            have hP10 : Pl w10 (wr.heap.size + 1) (bt i7) (bt k) := by
                              rw [← hw10]
                              have h0 : Pl w8 (wr.heap.size + 1) mo (bt i7) := HWT.out
                              exact (((h0.later ((Below.refl _ _).alloc (Nat.le_refl _) _)).later ((Below.refl _ _).alloc (Nat.le_refl _) _)).set0 (bt i7)).set1 (bt k)
                            have b10 : Below wr.heap.size wr w10 := by
                              rw [← hw10]
                              have h0 := Hb8.out.alloc Hb8.out.size (.cells #[.int .u8 (i7 : Int)] 5)
                              have h1 := h0.alloc h0.size (.cells #[.int .u8 (k : Int)] 5)
                              exact (h1.setCell (p := ⟨wr.heap.size + 1, 0, none⟩) (by show wr.heap.size ≤ wr.heap.size + 1; omega) (.string (bt i7))).setCell (p := ⟨wr.heap.size + 1, 1, none⟩) (by show wr.heap.size ≤ wr.heap.size + 1; omega) (.string (bt k))
                            have HB10 := hid (HB8.out.trans (b10.mono HB8.out.size))
                            have q2 := conv_one (w8.alloc (.cells #[.int .u8 (i7 : Int)] 5)) w8.heap.size i7 (by simp)
                            have q3 := conv_one ((w8.alloc (.cells #[.int .u8 (i7 : Int)] 5)).alloc (.cells #[.int .u8 (k : Int)] 5)) (w8.heap.size + 1) k (by simp)
                            obtain ⟨e0, e1⟩ := HCE.out k (bt i7, bt k) (HY1.out k hkn) _ HB10.out
                            have cg10 := HCG.out _ HB10.out
                            obtain ⟨x0, x1, _⟩ := hP10.facts
                            have sd2 : ∀ o o' : Obj, Below w8.heap.size w8 ((w8.alloc o).alloc o') := fun o o' => ((Below.refl _ _).alloc (Nat.le_refl _) o).alloc (by simp) o'
                            have wf2 : ∀ (o o' : Obj) (q : Nat), ((w8.alloc o).alloc o').frozen? ⟨wr.heap.size + 1, q, none⟩ = false := fun o o' q => Lib.frozen_of_heap (((sd2 o o').block _ (Array.getElem?_eq_some_iff.1 HWT.out).1).trans HWT.out) q
                            have wc0 := fun o o' => below_cells (sd2 o o') _ _ w0
                            have wc1 := fun o o' => below_cells (sd2 o o') _ _ w1'
                            have wf0 := wf 0
                            have wf1 := wf 1
                            clear hP10 b10 wf sd2
                            go_wp2_with fail
                            go_quiet (fail)
                            go_wp2
                            go_roundg (gk - 1)
                            case measure => omega
                            case rel => exact ⟨k + 1, by omega, by omega, by first | rfl | go_num, hid (below_drewN HB10.out nq)⟩
                          · have hkn' : ¬ (k : Int) < (N : Int) := by omega
                            obtain ⟨e0, e1⟩ := HCE.out k (mo, bt i7) (HY2.out k (by omega) hkN) _ HB9.out
                            simp only [mo] at e0 e1
                            go_wp2_with fail
                            go_quiet (fail)
                            go_wp2
                            go_roundg (gk - 1)
                            case measure => omega
                            case rel => exact ⟨k + 1, by omega, by omega, by first | rfl | go_num, hid (below_drewN HB9.out nq)⟩
                        · have hkN' : ¬ (k : Int) < (N : Int) + 9 := by omega
                          go_wp2
                          go_roundg (g7 - 1)
                          case measure => omega
                          case rel => exact ⟨i7 + 1, by omega, by omega, by first | rfl | go_num, HB8⟩
                    · have hlt7' : ¬ (i7 : Int) < 6 := by omega
                      have HB9 := hid (HB5.out.trans (HB7.out.mono HB5.out.size))
                      obtain ⟨w8, hw8⟩ : ∃ w8, wr.alloc (.cells #[.string ⟨#[50, 48]⟩, .string ⟨#[49, 49]⟩] 36) = w8 := ⟨_, rfl⟩
                      have b8 : Below wr.heap.size wr w8 := by rw [← hw8]; exact (Below.refl _ _).alloc (Nat.le_refl _) _
                      have hP8 : Pl w8 wr.heap.size ⟨#[50, 48]⟩ ⟨#[49, 49]⟩ := by rw [← hw8]; exact heap_alloc_new _ _
                      have HB10 := hid (HB9.out.trans (b8.mono HB9.out.size))
                      have HBZ := hid HB9.out.size
                      have C1 := hid (print_any _ [((⟨#[50, 48]⟩ : ByteArray), (⟨#[49, 49]⟩ : ByteArray))] w8 (HKW.out _ HB10.out) hP8.reads (fun x hx => by simp at hx; subst hx; decide +kernel) (by decide +kernel))
                      have HP8 := hid hP8
                      clear HGR HGV HKV HVF HFA HX12 hm7 hlt7 HB7 HB5 b8 hP8
                      go_wp2_with fail
                      refine C1.out.mono ?_
                      rintro e w9 ⟨⟨t, en, n9, rfl, hA⟩, hb9⟩
                      obtain ⟨rfl, rfl, rfl⟩ := PrA1.same hA
                      have HP9 := hid (HP8.out.later hb9)
                      have HB11 := hid (HB10.out.trans (hb9.mono HB10.out.size))
                      obtain ⟨p0, p1, z0, z1, _⟩ := HP9.out.facts
                      obtain ⟨w10, hw10⟩ : ∃ w10, w9.setCell ⟨wr.heap.size, 1, none⟩ (.string ⟨#[50, 50]⟩) = w10 := ⟨_, rfl⟩
                      have HP10 := hid (show Pl w10 wr.heap.size ⟨#[50, 48]⟩ ⟨#[50, 50]⟩ by rw [← hw10]; exact HP9.out.set1 _)
                      have HB12 := hid (show Below w4.heap.size w4 w10 by rw [← hw10]; exact HB11.out.setCell (by show w4.heap.size ≤ wr.heap.size; exact HBZ.out) _)
                      have C2 := hid (print_any _ [((⟨#[50, 48]⟩ : ByteArray), (⟨#[50, 50]⟩ : ByteArray))] w10 (HKW.out _ HB12.out) HP10.out.reads (fun x hx => by simp at hx; subst hx; decide +kernel) (by decide +kernel))
                      clear hA hb9 HP8 HP9 HB10 HB11 C1 hw8
                      go_wp2_with fail
                      refine C2.out.mono ?_
                      rintro e w11 ⟨⟨t, en, n11, rfl, hA⟩, hb11⟩
                      obtain ⟨rfl, rfl, rfl⟩ := PrA2.same hA
                      have HP11 := hid (HP10.out.later hb11)
                      have HB13 := hid (HB12.out.trans (hb11.mono HB12.out.size))
                      have C3 := hid (find_any _ [((⟨#[50, 48]⟩ : ByteArray), (⟨#[50, 50]⟩ : ByteArray))] ⟨#[50, 48]⟩ w11 HP11.out.reads (by decide +kernel) (fun x hx => by simp at hx; subst hx; decide +kernel))
                      rw [show fndV [((⟨#[50, 48]⟩ : ByteArray), (⟨#[50, 50]⟩ : ByteArray))] (⟨#[50, 48]⟩ : ByteArray).data.toList = .tuple #[.string ⟨#[50, 50]⟩, .bool true] from rfl] at C3
                      clear hA hb11 HP10 HB12 C2 hw10 p0 p1 z0 z1
                      go_wp2_with fail
                      refine C3.out.mono ?_
                      rintro e w12 ⟨rfl, hb12⟩
                      have HP12 := hid (HP11.out.later hb12)
                      have HB14 := hid (HB13.out.trans (hb12.mono HB13.out.size))
                      obtain ⟨p0, p1, z0, z1, _⟩ := HP12.out.facts
                      obtain ⟨w13, hw13⟩ : ∃ w13, w12.setCell ⟨wr.heap.size, 0, none⟩ (.string ⟨#[50, 49]⟩) = w13 := ⟨_, rfl⟩
                      have HP13 := hid (show Pl w13 wr.heap.size ⟨#[50, 49]⟩ ⟨#[50, 50]⟩ by rw [← hw13]; exact HP12.out.set0 _)
                      have HB15 := hid (show Below w4.heap.size w4 w13 by rw [← hw13]; exact HB14.out.setCell (by show w4.heap.size ≤ wr.heap.size; exact HBZ.out) _)
                      have C4 := hid (find_any _ [((⟨#[50, 49]⟩ : ByteArray), (⟨#[50, 50]⟩ : ByteArray))] ⟨#[50, 48]⟩ w13 HP13.out.reads (by decide +kernel) (fun x hx => by simp at hx; subst hx; decide +kernel))
                      rw [show fndV [((⟨#[50, 49]⟩ : ByteArray), (⟨#[50, 50]⟩ : ByteArray))] (⟨#[50, 48]⟩ : ByteArray).data.toList = .tuple #[.string ⟨#[]⟩, .bool false] from rfl] at C4
                      clear hb12 HP11 HP12 HB13 HB14 C3
                      go_wp2_with fail
                      refine C4.out.mono ?_
                      rintro e w14 ⟨rfl, hb14⟩
                      have HB16 := hid (B4.out.trans ((HB15.out.trans (hb14.mono HB15.out.size)).mono B4.out.size))
                      clear hb14 HP13 HB15 C4 hw13 p0 p1 z0 z1
                      go_wp2
                      go_ret
                      exact ⟨rfl, HB16.out⟩
end Go.Proofs.YtpplkoilpblpkaaDoor
