/-
  Books: lists of lists, each in a block of its own colour; an append that keeps every elder slice.
-/
import Derived.Test.YtaiccmbhdgecgaaAp0
namespace Go.Proofs.Ytaiccmbhdgecgaa
open Go.RowKit
set_option maxRecDepth 100000
set_option linter.unusedVariables false

theorem hib {p : Prop} (h : p) : Hid p := h
/-- behind an append every slice of the same block that is not longer, and every slice of another block, reads as it read -/
theorem run_append_keep2 {P : Program} (w : World) (base : Nat) (t ty e : TypeId) (i : TypeInfo) (z : Value) (size bytes : Nat) (ht : P.underlying t = some (.slice e)) (hi : P.info? e = some i) (hz : i.zero = some z)
    (hsize : i.size = size) (hby : i.bytes = bytes) (hzs : z.cells.size = size) (hsz : 0 < size) (v : Value) (n : Nat) (xs : List Value) (hown : w.ownsRow base e size v n xs)
    (a : Addr) (m c : Nat) (news : List Value) (hl : news.length = m * size) (hnews : ∀ j u, news[j]? = some u → w.cell? (a.add j) = some u) (h1 : ∀ u ∈ news, u.oneCell' = true)
    (h63 : n + m ≤ maxLen) (hbytes : (n + m) * bytes ≤ 140737488355328) (hbase : base ≤ w.heap.size) :
    ∃ v' w', (Builtin.append_ #[t, t] ty #[v, .slice (some a) m c]).run P w = .ok v' w' ∧ w'.ownsRow base e size v' (n + m) (xs ++ news) ∧ w.grownBy w' v.ownBlock ∧
      (v'.ownBlock = v.ownBlock ∨ v'.ownBlock = some w.heap.size) ∧ ∀ u n' xs', w.ownsRow base e size u n' xs' → n' ≤ n → w'.ownsRow base e size u n' xs' := by
  obtain ⟨v', w', hr, h2, h3, _, h5⟩ := run_append_own_at (P := P) w base t ty e i z size bytes ht hi hz hsize hby hzs hsz v n xs hown a m c news hl hnews h1 h63 hbytes hbase
  refine ⟨v', w', hr, h2, h3, h5, fun u n' xs' hu hn' => ?_⟩
  by_cases hsame : u.ownBlock ≠ none ∧ u.ownBlock = v.ownBlock
  case neg =>
    refine World.ownsRow.kept hu h3 ?_
    by_cases h0 : u.ownBlock = none
    · exact .inl h0
    · exact .inr fun e => hsame ⟨h0, e⟩
  obtain ⟨hne, hsame⟩ := hsame
  refine ⟨hu.1, ?_⟩
  subst hsize hby
  rcases hown.2 with ⟨h0, _⟩ | ⟨g, cap, cur, rfl, hbg, hg, hnc, hcm, hcs, htake⟩
  · rw [h0] at hsame
    exact absurd hsame (by simpa [Value.ownBlock] using hne)
  rcases hu.2 with ⟨h0, _⟩ | ⟨g2, cap2, cur2, rfl, hbg2, hg2, hnc2, hcm2, hcs2, htake2⟩
  · rw [h0] at hne
    exact absurd rfl hne
  have eg : g2 = g := by simpa [Value.ownBlock] using hsame
  subst eg
  have ec : cur2 = cur := by
    have := hg2.symm.trans hg
    injection this with h
    injection h
  subst ec
  right
  by_cases hroom : n + m ≤ cap
  · have hfit : n * i.size + news.length ≤ cur2.size := by rw [hl, hcs, ← Nat.add_mul]; exact Nat.mul_le_mul_right _ hroom
    have hq := hr.symm.trans (run_append_room (P := P) w t ty e i ht hi g2 n cap cur2 hg a m c news hl hnews h1 hroom hfit)
    cases hq
    refine ⟨g2, cap2, _, rfl, hbg, setRow_heap w g2 cur2 _ e _ hg, hnc2, hcm2, ?_, ?_⟩
    · simp only [List.size_toArray, List.length_append, List.length_take, List.length_drop, Array.length_toList]
      omega
    · have hlen : xs.length = n * i.size := hown.1
      have hle : n' * i.size ≤ n * i.size := Nat.mul_le_mul_right _ hn'
      have hxs : xs' = xs.take (n' * i.size) := by
        rw [← htake2, ← htake, List.take_take, Nat.min_eq_left hle]
      simp only [htake, List.append_assoc]
      rw [List.take_append_of_le_length (by rw [hlen]; exact hle), hxs]
  · have holds : ∀ j u, xs[j]? = some u → w.cell? ((⟨g2, 0, none⟩ : Addr).add j) = some u := hown.cells (g := g2) rfl
    have hq := hr.symm.trans (run_append_grow (P := P) w t ty e i z ht hi hz ⟨g2, 0, none⟩ n cap xs hown.1 holds a m c news hl hnews (by omega) (by simp only [maxLen] at h63; omega) (growslice_fits (by omega) hbytes))
    cases hq
    exact ⟨g2, cap2, cur2, rfl, hbg, (by rw [heap_alloc_old w.drew]; (· exact hg); exact (Array.getElem?_eq_some_iff.1 hg).1), hnc2, hcm2, hcs2, htake2⟩

section
variable {α : Type} {enc : α → List Value} {k : Nat} {t : TypeId} {col col' : Nat → Nat} {c c' : Nat} {w w' : World} {base : Nat} {v : Value} {L : List α}
/-- append, at the operation: the new slice; all elder ones of that block, or of others -/
theorem wpList_appD {st : TypeId} {z : Value} {bytes : Nat} (inf : (Try.prog.info? t).map (fun i => (i.zero, i.size, i.bytes)) = some (some z, k, bytes)) (hst : Try.prog.underlying st = some (.slice t)) (hzs : z.cells.size = k) (hk0 : 0 < k) (hk : ∀ x, (enc x).length = k)
    {ops : Array Oper} {rest : List Oper} {o : Oper} {a : Act} {Q : Exit → Act → World → Prop} (hgd : o.guard = none) (s x : Operand)
    (ho : o.op = .call { callee := .builtin .append, args := #[s, x], argTypes := #[st, st] })
    (hs : a.eval s = v) (hown : Ow enc k t col c w base v L) (ad : Addr) (m cp : Nat) (M : List α) (hx : a.eval x = .slice (some ad) m cp) (hm : M.length = m) (h1 : ∀ x ∈ M, ∀ u ∈ enc x, u.oneCell' = true) (hnews : ∀ j u, (M.flatMap enc)[j]? = some u → w.cell? (ad.add j) = some u)
    (hlen : (L.length + M.length) * bytes ≤ 140737488355328) (hlen2 : L.length + M.length ≤ maxLen) (hbase : base ≤ w.heap.size)
    (h : ∀ v' w' col', Ow enc k t col' c w' base v' (L ++ M) → (∀ u c2 (L2 : List α), Ow enc k t col c2 w base u L2 → L2.length ≤ L.length → Ow enc k t col' c2 w' base u L2) → w.grownBy w' v.ownBlock → (∀ g, v.ownBlock = some g → col g = c ∧ g < w.heap.size) → (∀ g, g < w.heap.size → col' g = col g) → wpList Try.prog ops Q rest (a.put o.dst v') w') : wpList Try.prog ops Q (o :: rest) a w := by
  refine wpList_plain hgd fun K hK => ?_
  obtain ⟨i, hi, hz, hsz, hby⟩ := info_parts inf
  subst hm
  obtain ⟨v', w', hr, h2, h3, h5, h6⟩ := run_append_keep2 (P := Try.prog) w base st o.type t i z k bytes hst hi hz hsz hby hzs hk0 v L.length (L.flatMap enc) hown.1 ad M.length cp (M.flatMap enc) (fl_len hk M) hnews (fun u hu => by obtain ⟨y, hy1, hy⟩ := List.mem_flatMap.1 hu; exact h1 y hy1 u hy) hlen2 hlen hbase
  have hcol : ∀ g, g < w.heap.size → (fun g => if g = w.heap.size then c else col g) g = col g := fun g hg => by show (if g = w.heap.size then c else col g) = col g; rw [if_neg (by omega)]
  have hfin := h v' w' (fun g => if g = w.heap.size then c else col g) ⟨by rw [List.flatMap_append, List.length_append]; exact h2, fun g hg => by
      rcases h5 with h5 | h5
      · rw [h5] at hg
        rw [hcol g (hown.lt g hg).2]
        exact hown.2 g hg
      · rw [h5] at hg
        cases hg
        show (if w.heap.size = w.heap.size then c else col w.heap.size) = c
        rw [if_pos rfl]⟩ (fun u c2 L2 hu hl => ⟨h6 u _ _ hu.1 hl, fun g hg => by rw [hcol g (hu.lt g hg).2]; exact hu.2 g hg⟩) h3 (fun g hg => ⟨hown.2 g hg, (hown.lt g hg).2⟩) hcol
  unfold Oper.wp execOp
  simp only [ho, resolve, invoke, builtin, Sem.run_bind, Sem.run_pure, Result.andThen_ok, List.map_toArray, List.map_cons, List.map_nil, hs, hx, hr]
  exact hK _ _ hfin
/-- an element of one cell written over -/
theorem Ow.set1 {e1 : α → List Value} (h : Ow e1 1 t col c w base v L) (hk : ∀ x, (e1 x).length = 1) (i : Nat) (hi : i < L.length) (x : α) {g n cap : Nat} (hv : v = .slice (some ⟨g, 0, none⟩) n cap) {a : Value} (hx : e1 x = [a]) :
    Ow e1 1 t col c (w.setCell ⟨g, i, none⟩ a) base v (L.set i x) := by
  subst hv
  refine ⟨⟨by rw [fl_len hk, List.length_set], ?_⟩, h.2⟩
  rcases h.1.2 with ⟨h0, _⟩ | ⟨g', cap', cur, hv, hb, hg, h1, h2, h3, h4⟩
  · cases h0
  cases hv
  right
  refine ⟨g, cap, _, by rw [List.length_set], hb, Lib.heap_setCell_same hg _, by rw [List.length_set]; exact h1, h2, by simpa using h3, ?_⟩
  rw [List.length_set]
  apply List.ext_getElem?
  intro q
  have hq0 := congrArg (·[q]?) h4
  simp only [List.getElem?_take] at hq0
  rw [fl_set hk L i hi x q, ← hq0, List.getElem?_take, hx]
  have hle2 : L.length * 1 ≤ cur.size := by rw [h3]; exact Nat.mul_le_mul_right 1 h1
  rw [Array.getElem?_toList, Array.getElem?_setIfInBounds]
  by_cases c1 : i = q
  · subst c1
    rw [if_pos (by omega), if_pos rfl, if_pos (by omega), if_pos (by omega), Nat.mul_one, Nat.sub_self]
    rfl
  · rw [if_neg c1, if_neg (c := i * 1 ≤ q ∧ q < i * 1 + 1) (by omega), Array.getElem?_toList]
theorem Ow.app {row : Option Nat} (h : Ow enc k t col c w base v L) (hg : w.grownBy w' row) (hr : ∀ g, row = some g → col g = c' ∧ g < w.heap.size) (hcc : ∀ g, g < w.heap.size → col' g = col g) (hne : c ≠ c') : Ow enc k t col' c w' base v L :=
  (h.recol hcc).other hg (fun g e => by rw [hcc g (hr g e).2]; exact (hr g e).1) hne
/-- so many lists, each of a colour of its own -/
def RwG (enc : α → List Value) (k : Nat) (t : TypeId) (f : Nat → Nat) (col : Nat → Nat) (w : World) (B : Nat) (p : Nat → Prop) (V : List Value) (X : Nat → List α) : Prop := ∀ j (h : j < V.length), p j → Ow enc k t col (f j) w B V[j] (X j)
variable {f : Nat → Nat} {B : Nat} {p : Nat → Prop} {V : List Value} {X : Nat → List α}
theorem RwG.later (h : RwG enc k t f col w B p V X) (hb : Below w.heap.size w w') : RwG enc k t f col w' B p V X := fun j h1 hp => (h j h1 hp).later hb
theorem RwG.recol (h : RwG enc k t f col w B p V X) (hc : ∀ g, g < w.heap.size → col' g = col g) : RwG enc k t f col' w B p V X := fun j h1 hp => (h j h1 hp).recol hc
theorem RwG.other {row : Option Nat} (h : RwG enc k t f col w B p V X) (hg : w.grownBy w' row) (hr : ∀ g, row = some g → col g = c) (hne : ∀ j, j < V.length → p j → f j ≠ c) : RwG enc k t f col w' B p V X := fun j h1 hp => (h j h1 hp).other hg hr (hne j h1 hp)
theorem RwG.imp {q : Nat → Prop} (h : RwG enc k t f col w B p V X) (hq : ∀ j, j < V.length → q j → p j) : RwG enc k t f col w B q V X := fun j h1 hp => h j h1 (hq j h1 hp)
theorem RwG.snoc (h : RwG enc k t f col w B p V X) (hn : p V.length → Ow enc k t col (f V.length) w B v (X V.length)) : RwG enc k t f col w B p (V ++ [v]) X := fun j h1 hp => by
  by_cases hj : j < V.length
  · rw [List.getElem_append_left hj]
    exact h j hj hp
  · have : j = V.length := by simp at h1; omega
    subst this
    have e1 : (V ++ [v])[V.length]'h1 = v := by simp
    rw [e1]
    exact hn hp
theorem RwG.app {row : Option Nat} (h : RwG enc k t f col w B p V X) (hg : w.grownBy w' row) (hr : ∀ g, row = some g → col g = c ∧ g < w.heap.size) (hcc : ∀ g, g < w.heap.size → col' g = col g) (hne : ∀ j, j < V.length → p j → f j ≠ c) : RwG enc k t f col' w' B p V X := fun j h1 hp => (h j h1 hp).app hg hr hcc (hne j h1 hp)
theorem RwG.nil (enc : α → List Value) (k : Nat) (t : TypeId) (f : Nat → Nat) (col : Nat → Nat) (w : World) (B : Nat) (p : Nat → Prop) (X : Nat → List α) : RwG enc k t f col w B p [] X := fun j h => by simp at h
end
theorem Ow.cellV {ts : TypeId} {col : Nat → Nat} {c : Nat} {w : World} {B : Nat} {v : Value} {V : List Value} (h : Ow eV 1 ts col c w B v V) (i : Nat) (hi : i < V.length) : ∃ g cap, v = .slice (some ⟨g, 0, none⟩) V.length cap ∧ V.length ≤ cap ∧ w.cell? ⟨g, i, none⟩ = some V[i] := by
  obtain ⟨g, cap, hv, h1, _, _, _, hq, _⟩ := Ow.at eV_len h i hi
  refine ⟨g, cap, hv, h1, ?_⟩
  have := hq 0 V[i] rfl
  simpa using this
/-- marks up to a place -/
def FilM {α : Type} (mk : Nat → α) (j : Nat) (x : List α) (n : Nat) : Prop := ∀ q, q < n → x[q]? = some (mk j)
theorem FilM.step {α : Type} {mk : Nat → α} {j n : Nat} {x : List α} (h : FilM mk j x n) (hn : n < x.length) : FilM mk j (x.set n (mk j)) (n + 1) := by
  intro q hq
  by_cases e : q = n
  · subst e
    rw [List.getElem?_set_self hn]
  · rw [List.getElem?_set_ne (fun h => e h.symm)]
    exact h q (by omega)
theorem FilM.all {α : Type} {mk : Nat → α} {j : Nat} {x : List α} (h : FilM mk j x x.length) (n : Nat) : FilM mk j (x ++ List.replicate n (mk j)) (x.length + n) := by
  intro q hq
  by_cases e : q < x.length
  · rw [List.getElem?_append_left e]
    exact h q e
  · rw [List.getElem?_append_right (by omega), List.getElem?_replicate, if_pos (by omega)]
end Go.Proofs.Ytaiccmbhdgecgaa
