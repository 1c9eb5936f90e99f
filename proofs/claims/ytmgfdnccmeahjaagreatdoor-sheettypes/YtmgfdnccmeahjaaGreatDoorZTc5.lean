/-
  Tc5: Sheets: what Typed tells (pure); rows of cells of the call's own.
-/
import Derived.Test.YtmgfdnccmeahjaaGreatDoorZTc4
import Derived.Test.YtmgfdnccmeahjaaGreatDoorZM
namespace Go.Proofs.YtmgfdnccmeahjaaGreatDoor
open Go.RowKit
set_option maxRecDepth 100000
set_option linter.unusedVariables false
set_option linter.unusedSimpArgs false
variable {rf : ByteArray → Nat → Rd}

theorem find_hit {p : Nat → Bool} {n k : Nat} (hk : k < n) (h0 : ∀ j, j < k → p j = false) (h1 : p k = true) : (List.range n).find? p = some k := by
  rw [List.find?_range_eq_some]
  exact ⟨h1, List.mem_range.2 hk, fun j hj => by rw [h0 j hj]; rfl⟩
theorem find_non {p : Nat → Bool} {n : Nat} (h0 : ∀ j, j < n → p j = false) : (List.range n).find? p = none := by
  rw [List.find?_range_eq_none]
  exact fun j hj => by rw [h0 j hj]; rfl
/-- the texts of the i-th row behind the first -/
def rowT (R : List (List (List UInt8))) (i : Nat) : List ByteArray := btx (R.getD (i + 1) [])
/-- the first cell of a row that is a fault -/
def fcol (rf : ByteArray → Nat → Rd) (T : List ByteArray) (ps : List Nat) (L : List Col) : Option Nat := (List.range L.length).find? fun j => decide ((rwR rf T ps L j).2.1 ≠ 0)
theorem fcol_hit {T : List ByteArray} {ps : List Nat} {L : List Col} {k : Nat} (hk : k < L.length) (h0 : ∀ j, j < k → (rwR rf T ps L j).2.1 = 0) (h1 : (rwR rf T ps L k).2.1 ≠ 0) : fcol rf T ps L = some k :=
  find_hit hk (fun j hj => by simp [h0 j hj]) (by simp [h1])
theorem fcol_non {T : List ByteArray} {ps : List Nat} {L : List Col} (h0 : ∀ j, j < L.length → (rwR rf T ps L j).2.1 = 0) : fcol rf T ps L = none :=
  find_non fun j hj => by simp [h0 j hj]
/-- the cells of a row -/
def rowX (rf : ByteArray → Nat → Rd) (T : List ByteArray) (ps : List Nat) (L : List Col) : List (Nat × Rd) := (List.range L.length).map (rwR rf T ps L)
theorem rowX_len (T : List ByteArray) (ps : List Nat) (L : List Col) : (rowX rf T ps L).length = L.length := by simp [rowX]
/-- a fault (code, line, column, the other layer's number) or rows of cells -/
abbrev TyA := (Nat × Nat × Nat × Int) × List (List (Nat × Rd))
def tyF (rf : ByteArray → Nat → Rd) (R : List (List (List UInt8))) (ps : List Nat) (L : List Col) (i j : Nat) : TyA := (((rwR rf (rowT R i) ps L j).2.1, i + 2, ps.getD j 0, (rwR rf (rowT R i) ps L j).2.2.2.2), [])
/-- what is told of the rows behind the first -/
def tyB (rf : ByteArray → Nat → Rd) (R : List (List (List UInt8))) (ps : List Nat) (L : List Col) : TyA :=
  match (List.range (R.length - 1)).find? fun i => (fcol rf (rowT R i) ps L).isSome with
  | none => ((0, 0, 0, 0), (List.range (R.length - 1)).map fun i => rowX rf (rowT R i) ps L)
  | some i => tyF rf R ps L i ((fcol rf (rowT R i) ps L).getD 0)
theorem tyB_hit {R : List (List (List UInt8))} {ps : List Nat} {L : List Col} {i j : Nat} (hi : i < R.length - 1) (h0 : ∀ m, m < i → fcol rf (rowT R m) ps L = none) (h1 : fcol rf (rowT R i) ps L = some j) : tyB rf R ps L = tyF rf R ps L i j := by
  unfold tyB
  rw [find_hit (k := i) hi (fun m hm => by simp [h0 m hm]) (by simp [h1])]
  simp only [h1, Option.getD_some]
theorem tyB_non {R : List (List (List UInt8))} {ps : List Nat} {L : List Col} (h0 : ∀ m, m < R.length - 1 → fcol rf (rowT R m) ps L = none) : tyB rf R ps L = ((0, 0, 0, 0), (List.range (R.length - 1)).map fun i => rowX rf (rowT R i) ps L) := by
  unfold tyB
  rw [find_non fun m hm => by simp [h0 m hm]]
/-- what Typed tells, the columns looked at -/
def TyO (rf : ByteArray → Nat → Rd) (R : List (List (List UInt8))) (L : List Col) (r : Option Nat) (o : TyA) : Prop :=
  (∃ i, r = some i ∧ o = ((10, 0, i, 0), [])) ∨ (r = none ∧ (wgA R).1 ≠ 0 ∧ o = (((wgA R).1, (wgA R).2.1, (wgA R).2.2, 0), [])) ∨
  (r = none ∧ (wgA R).1 = 0 ∧ ∃ ps c q, HdP (btx (R.headD [])) L ps c q ∧ ((c ≠ 0 ∧ o = ((c, 1, q, 0), [])) ∨ (c = 0 ∧ o = tyB rf R ps L)))
theorem TyO.uniq {R : List (List (List UInt8))} {L : List Col} {r : Option Nat} {o o' : TyA} (h : TyO rf R L r o) (h' : TyO rf R L r o') : o = o' := by
  rcases h with ⟨i, hr, rfl⟩ | ⟨hr, hw, rfl⟩ | ⟨hr, hw, ps, c, q, hh, ho⟩
  · rcases h' with ⟨i', hr', rfl⟩ | ⟨hr', _⟩ | ⟨hr', _⟩
    · rw [hr] at hr'; cases hr'; rfl
    · rw [hr] at hr'; cases hr'
    · rw [hr] at hr'; cases hr'
  · rcases h' with ⟨i', hr', _⟩ | ⟨_, _, rfl⟩ | ⟨_, hw', _⟩
    · rw [hr] at hr'; cases hr'
    · rfl
    · exact absurd hw' hw
  · rcases h' with ⟨i', hr', _⟩ | ⟨_, hw', _⟩ | ⟨_, _, ps', c', q', hh', ho'⟩
    · rw [hr] at hr'; cases hr'
    · exact absurd hw hw'
    · obtain ⟨rfl, hq, hps⟩ := hh.uniq hh'
      rcases ho with ⟨h0, rfl⟩ | ⟨h0, rfl⟩
      · rcases ho' with ⟨_, rfl⟩ | ⟨h1, _⟩
        · rw [hq h0]
        · exact absurd h1 h0
      · rcases ho' with ⟨h1, _⟩ | ⟨_, rfl⟩
        · exact absurd h0 h1
        · rw [hps h0]
/-- all of a sheet's rows have as many cells -/
theorem wg_ok {R : List (List (List UInt8))} (h : (wgA R).1 = 0) : okR R ∧ (prt R).length ≤ 262144 := by
  unfold wgA at h
  by_cases h0 : (rck (R.headD []).length R 0).1 = 0
  · rw [if_pos h0] at h
    by_cases h1 : 262144 < (prt R).length
    · rw [if_pos h1] at h; exact absurd h (by decide)
    · exact ⟨rck_is h0, by omega⟩
  · rw [if_neg h0] at h; exact absurd h h0
theorem OC.lower {w : World} {B C : Nat} {v : Value} {X : List (Nat × Rd)} (h : OC w B v X) (hb : C ≤ B) : OC w C v X := by
  refine ⟨h.1, ?_⟩
  rcases h.2 with hn | ⟨g, cap, cur, e, hg, hr⟩
  · exact .inl hn
  · exact .inr ⟨g, cap, cur, e, Nat.le_trans hb hg, hr⟩
/-- rows of cells, of the call's own, no two of which share a block -/
structure LK (w : World) (B : Nat) (v : Value) (V : List Value) (X : List (List (Nat × Rd))) : Prop where
  own : w.ownsRow B 53 1 v V.length V
  len : V.length = X.length
  row : ∀ j (hj : j < X.length) (hv : j < V.length), OC w B V[j] X[j]
  dj : Dj V
theorem LK.nil (w : World) (B : Nat) : LK w B (.slice none 0 0) [] [] := ⟨World.ownsRow_nil _ _ _ _, rfl, fun j hj => absurd hj (Nat.not_lt_zero _), Dj.nil⟩
theorem LK.later {w w' : World} {B : Nat} {v : Value} {V : List Value} {X : List (List (Nat × Rd))} (h : LK w B v V X) (hb : Below w.heap.size w w') : LK w' B v V X :=
  ⟨own_later h.own hb, h.len, fun j hj hv => own_later (h.row j hj hv) hb, h.dj⟩
theorem LK.lower {w : World} {B C : Nat} {v : Value} {V : List Value} {X : List (List (Nat × Rd))} (h : LK w B v V X) (hb : C ≤ B) : LK w C v V X := by
  refine ⟨⟨h.own.1, ?_⟩, h.len, fun j hj hv => (h.row j hj hv).lower hb, h.dj⟩
  rcases h.own.2 with hn | ⟨g, cap, cur, e, hg, hr⟩
  · exact .inl hn
  · exact .inr ⟨g, cap, cur, e, Nat.le_trans hb hg, hr⟩
theorem LK.app {w w1 w2 : World} {B C n : Nat} {a : Option Addr} {cp : Nat} {V : List Value} {X : List (List (Nat × Rd))} {x : List (Nat × Rd)} {v v' : Value} (h : LK w B (.slice a n cp) V X) (hv : OC w1 C v x) (hBC : B ≤ C) (hC : w.heap.size ≤ C) (hb : Below w.heap.size w w1) {o : Obj} (hg : (w1.alloc o).grownBy w2 (Value.slice a n cp).ownBlock) (ho : w2.ownsRow B 53 1 v' (V.length + 1) (V ++ [v])) : LK w2 B v' (V ++ [v]) (X ++ [x]) := by
  have h1 := h.later hb
  have hrow : ∀ {u : Value} {D : Nat} {xs : List (Nat × Rd)}, OC w1 D u xs → OC w2 D u xs := fun {u D xs} hu => own_of hu fun g hgu => (hg.block g (by have := (World.ownsRow.lt hu g hgu).2; simp; omega) (fun e => own_two hu h1.own (by decide) g hgu e.symm)).trans (Lib.alloc_old w1 o g (World.ownsRow.lt hu g hgu).2)
  refine ⟨by rw [List.length_append]; exact ho, by simp [h.len], fun j hj hj2 => ?_, h.dj.snoc fun u hu g hgu => ?_⟩
  · have hl := h.len
    by_cases hlt : j < X.length
    · have e1 : (X ++ [x])[j] = X[j] := List.getElem_append_left hlt
      have e2 : (V ++ [v])[j] = V[j]'(by omega) := List.getElem_append_left (by omega)
      rw [e1, e2]
      exact hrow (h1.row j hlt (by omega))
    · have he : j = X.length := by simp at hj; omega
      subst he
      have e1 : (X ++ [x])[X.length] = x := by simp
      have e2 : (V ++ [v])[X.length] = v := by simp [← hl]
      rw [e1, e2]
      exact (hrow hv).lower hBC
  · obtain ⟨j, hj, rfl⟩ := List.getElem_of_mem hu
    have h2 := (World.ownsRow.lt (h.row j (by have := h.len; omega) hj) g hgu).2
    intro e
    have h3 := (World.ownsRow.lt hv g e).1
    omega
/-- the error of a fault: its code, line, column and the other layer's number -/
def ErO (A : Nat → Addr) (q : Nat × Nat × Nat × Int) (w : World) (ev : Value) : Prop :=
  ∃ f e, ev = .iface 38 (.pointer (some ⟨f, 0, none⟩)) ∧ w.heap[f]? = some (.cells #[.int .i64 (q.2.1 : Int), .int .i64 (q.2.2.1 : Int), e] 42 (0, 0)) ∧
    (((1 ≤ q.1 ∧ q.1 ≤ 20 ∧ q.1 ≠ 16 ∧ q.1 ≠ 17) ∧ e = erV A q.1) ∨ ((q.1 = 16 ∨ q.1 = 17) ∧ ∃ g, e = .iface 54 (.pointer (some ⟨g, 0, none⟩)) ∧ w.heap[g]? = some (.cells #[erV A q.1, .int .i64 q.2.2.2] 58 (0, 0))))
theorem ErO.later {A : Nat → Addr} {q : Nat × Nat × Nat × Int} {w w' : World} {ev : Value} (h : ErO A q w ev) (hb : Below w.heap.size w w') : ErO A q w' ev := by
  obtain ⟨f, e, h1, h2, h3⟩ := h
  refine ⟨f, e, h1, (hb.block _ (Array.getElem?_eq_some_iff.1 h2).1).trans h2, ?_⟩
  rcases h3 with h3 | ⟨h4, g, h5, h6⟩
  · exact .inl h3
  · exact .inr ⟨h4, g, h5, (hb.block _ (Array.getElem?_eq_some_iff.1 h6).1).trans h6⟩
theorem ErF.ero {A : Nat → Addr} {l c k : Nat} {w w' : World} {ev : Value} (h : ErF A l c k w w' ev) (hk : 1 ≤ k ∧ k ≤ 20 ∧ k ≠ 16 ∧ k ≠ 17) (n : Int) : ErO A (k, l, c, n) w' ev := by
  obtain ⟨f, h1, h2, h3⟩ := h
  exact ⟨f, _, h1, h3, .inl ⟨hk, rfl⟩⟩
theorem FT.ero {A : Nat → Addr} {c : Nat} {p : Nat × Nat} {w : World} {ev : Value} (h : FT A w ev c p) (hk : 1 ≤ c ∧ c ≤ 20 ∧ c ≠ 16 ∧ c ≠ 17) (n : Int) : ErO A (c, p.1, p.2, n) w ev := by
  rcases h with ⟨h0, _⟩ | ⟨_, f, h1, h2⟩
  · omega
  · exact ⟨f, _, h1, h2, .inl ⟨hk, rfl⟩⟩
/-- what Typed answers -/
def TyP (rf : ByteArray → Nat → Rd) (A : Nat → Addr) (R : List (List (List UInt8))) (L : List Col) (r : Option Nat) (w w' : World) (e : Ending) : Prop :=
  ∃ o, TyO rf R L r o ∧ ((o.1.1 = 0 ∧ ∃ v V, e = .returned (.tuple #[v, .nilIface]) ∧ LK w' w.heap.size v V o.2) ∨ (o.1.1 ≠ 0 ∧ ∃ ev, e = .returned (.tuple #[.slice none 0 0, ev]) ∧ ErO A o.1 w' ev))
theorem Rw.dropI {w : World} {ao : Option Addr} {cap n : Nat} {R : List (List (List UInt8))} (h : Rw w (.slice ao n cap) R) (h0 : 1 ≤ R.length) : ∃ ao2, (∀ b off, ao = some ⟨b, off, none⟩ → ao2 = (if cap = 1 then some ⟨b, off, none⟩ else some ⟨b, off + 1, none⟩)) ∧ Rw w (.slice ao2 (R.length - 1) (cap - 1)) (R.drop 1) := by
  obtain ⟨a, cap', h1, h2, h3, h4⟩ := h
  cases h1
  obtain ⟨g, off, u, ha, _⟩ := h4 0 (by omega)
  subst ha
  refine ⟨_, fun b o e => ?_, (if cap = 1 then some ⟨g, off, none⟩ else some ⟨g, off + 1, none⟩), cap - 1, by rw [List.length_drop], by rw [List.length_drop]; omega, by omega, fun i hi => ?_⟩
  · cases e; rfl
  · rw [List.length_drop] at hi
    obtain ⟨g', off', u', ha', hc, ht⟩ := h4 (i + 1) (by omega)
    cases ha'
    refine ⟨g, off + 1, u', by rw [if_neg (by omega)], ?_, ?_⟩
    · rw [show off + 1 + i = off + (i + 1) by omega]; exact hc
    · rw [List.getElem_drop]
      simp only [show 1 + i = i + 1 by omega]
      exact ht
theorem btx_len (T : List (List UInt8)) : (btx T).length = T.length := by simp [btx]
theorem colP.fine {L : List Col} {r : Option Nat} (h : colP L r) (hr : r = none) : L ≠ [] ∧ L.length ≤ 64 ∧ ∀ i (h : i < L.length), mbB L[i] = true := by
  rcases h with ⟨_, h0, ha⟩ | ⟨h1, _⟩ | ⟨i, h1, _⟩
  · refine ⟨h0, ?_, fun i hi => (ha i hi).2.2.1⟩
    by_cases hl : L.length ≤ 64
    · exact hl
    · exact absurd rfl (ha 64 (by omega)).2.1
  · rw [hr] at h1; cases h1
  · rw [hr] at h1; cases h1
theorem getD_get {α : Type} (l : List α) (d : α) (i : Nat) (h : i < l.length) : l.getD i d = l[i] := by
  rw [List.getD_eq_getElem?_getD, List.getElem?_eq_getElem h]; rfl
theorem row_len {R : List (List (List UInt8))} (hok : okR R) {i : Nat} (hi : i < R.length) : R[i].length = (R.headD []).length ∧ ∀ T ∈ R[i], T.length ≤ 4096 :=
  ⟨(hok.2 _ (List.getElem_mem hi)).2.2.1, fun T hT => ((hok.2 _ (List.getElem_mem hi)).2.2.2 T hT).1⟩
theorem rowT_is {R : List (List (List UInt8))} {k : Nat} (hk : k + 1 < R.length) : rowT R k = btx R[k + 1] := by
  unfold rowT
  rw [getD_get R [] (k + 1) hk]
theorem btx_small {T : List (List UInt8)} (h : ∀ t ∈ T, t.length ≤ 4096) : ∀ i (hi : i < (btx T).length), (btx T)[i].size ≤ 100000000 := by
  intro i hi
  rw [btx_len] at hi
  have e : (btx T)[i]'(by rw [btx_len]; exact hi) = ⟨T[i].toArray⟩ := by simp [btx]
  rw [e]
  have := h _ (List.getElem_mem hi)
  show T[i].toArray.size ≤ _
  simp
  omega
/-- the places are within each row -/
theorem HdP.within {R : List (List (List UInt8))} {L : List Col} {ps : List Nat} {q : Nat} (h : HdP (btx (R.headD [])) L ps 0 q) : ps.length = L.length ∧ ∀ i (h : i < ps.length), ps[i] < (R.headD []).length := by
  rcases h with ⟨_, hl, ha⟩ | ⟨i, hi, _, hf⟩
  · refine ⟨hl, fun i hi => ?_⟩
    obtain ⟨h1, _⟩ := ha i (by omega) hi
    rw [btx_len] at h1
    exact h1
  · rcases hf with ⟨h, _⟩ | ⟨h, _⟩ <;> cases h
theorem HdP.some_row {R : List (List (List UInt8))} {L : List Col} {ps : List Nat} {q : Nat} (h : HdP (btx (R.headD [])) L ps 0 q) (h0 : L ≠ []) : 1 ≤ R.length := by
  have hw := h.within
  have : 0 < L.length := List.length_pos_iff.2 h0
  have := hw.2 0 (by omega)
  cases R with
  | nil => simp at this
  | cons a b => simp
theorem HdP.vals {H : List ByteArray} {L : List Col} {ps : List Nat} {c q : Nat} (h : HdP H L ps c q) : c = 0 ∨ c = 11 ∨ c = 12 := by
  rcases h with ⟨h, _⟩ | ⟨i, hi, _, hf⟩
  · exact .inl h
  · rcases hf with ⟨h, _⟩ | ⟨h, _⟩
    · exact .inr (.inl h)
    · exact .inr (.inr h)
theorem HdP.zero {H : List ByteArray} {L : List Col} {ps : List Nat} {q : Nat} (h : HdP H L ps 0 q) : HdP H L ps 0 0 := by
  rcases h with ⟨h, ha⟩ | ⟨i, hi, _, hf⟩
  · exact .inl ⟨h, ha⟩
  · rcases hf with ⟨h, _⟩ | ⟨h, _⟩ <;> cases h
/-- a row's fault, laid on its line -/
theorem ErW.ero {A : Nat → Addr} {c : Nat} {r : Rd} {w w1 w2 : World} {f : Nat} {e : Value} {n : Nat} (hv : ErrV A r w w1 e) (hn : r.1 ≠ 0) (hf : w2.heap[f]? = some (.cells #[.int .i64 (n : Int), .int .i64 (c : Int), e] 42 (0, 0))) (hk : ∀ g x, g ≠ f → w1.heap[g]? = some x → w2.heap[g]? = some x) (hne : ∀ x y, w1.heap[f]? = some (.cells #[x, y] 58 (0, 0)) → False) : ErO A (r.1, n, c, r.2.2.2) w2 (.iface 38 (.pointer (some ⟨f, 0, none⟩))) := by
  refine ⟨f, e, rfl, hf, ?_⟩
  rcases hv with ⟨h1, h2⟩ | ⟨h1, g, h2, h3, h4⟩
  · exact .inl ⟨by simp only []; omega, h2⟩
  · refine .inr ⟨h1, g, h2, hk g _ (fun e => ?_) h4⟩
    subst e
    exact hne _ _ h4
theorem IP.form {w : World} {v : Value} {L : List Nat} (h : IP w v L) : ∃ ao cap, v = .slice ao L.length cap := by
  obtain ⟨ao, cap, h1, _⟩ := h
  exact ⟨ao, cap, h1⟩
/-- what Typed has told so far -/
def TyI (rf : ByteArray → Nat → Rd) (R : List (List (List UInt8))) (ps : List Nat) (L : List Col) (w : World) (k : Nat) (wr : World) (v : Value) : Prop :=
  (∀ m, m < k → fcol rf (rowT R m) ps L = none) ∧ (∃ V, LK wr w.heap.size v V ((List.range k).map fun i => rowX rf (rowT R i) ps L)) ∧ Below w.heap.size w wr
end Go.Proofs.YtmgfdnccmeahjaaGreatDoor
