/-
  Lnt: sheets: lists of texts that are read, lent, kept (out of Nw1, Nw2).
  Lnr: Sheets: rows that are lent, and kept.
  Tc0: Sheets: columns: names, Index, Contains, mayBe.
  Tc1: Sheets: columns: Index, Contains, mayBe; the document's plain.
-/
import Derived.Test.YtmgfdnccmeahjaaGreatDoorYM
import Derived.Deep.RegionLaw
import Derived.Laws.AppendOwnNone
import Derived.Laws.BytesArg
import Derived.Maps.AppendAt
import Derived.Deep.RegionWith
import Derived.Handy
import Derived.Test.YtmgfdnccmeahjaaGreatDoorYJ
import Derived.Test.YtmgfdnccmeahjaaGreatDoorYG
namespace Go.Proofs.YtmgfdnccmeahjaaGreatDoor
open Go.RowKit
set_option maxRecDepth 100000
set_option linter.unusedVariables false
set_option linter.unusedSimpArgs false

theorem below_cells {w w' : World} (hb : Below w.heap.size w w') : ∀ p : Addr, ∀ u, w.cell? p = some u → w'.cell? p = some u :=
  fun p _ h => (hb.cell (p := p) (World.block_lt_of_cell? _ _ h)).trans h
/-- a slice reads as texts -/
def RT (w : World) (v : Value) (L : List ByteArray) : Prop :=
  (L = [] ∧ ∃ ao cap, v = .slice ao 0 cap ∧ (ao = none → cap = 0)) ∨
  ∃ b off cap, v = .slice (some ⟨b, off, none⟩) L.length cap ∧ (L.length ≤ cap ∧ cap ≤ 9223372036854775807) ∧ ∀ j (hj : j < L.length), w.cell? ⟨b, off + j, none⟩ = some (.string L[j])
theorem RT.below {w w' : World} {v : Value} {L : List ByteArray} (h : RT w v L) (hb : Below w.heap.size w w') : RT w' v L := by
  rcases h with h | ⟨b, off, cap, hv, hl, hc⟩
  · exact .inl h
  · exact .inr ⟨b, off, cap, hv, hl, fun j hj => below_cells hb _ _ (hc j hj)⟩
theorem RT.form {w : World} {v : Value} {L : List ByteArray} (h : RT w v L) : ∃ ao cap, v = .slice ao L.length cap := by
  rcases h with ⟨rfl, ao, cap, rfl, _⟩ | ⟨b, off, cap, rfl, _⟩
  · exact ⟨_, _, rfl⟩
  · exact ⟨_, _, rfl⟩
theorem RT.at {w : World} {v : Value} {L : List ByteArray} (h : RT w v L) (j : Nat) (hj : j < L.length) : ∃ b off cap, v = .slice (some ⟨b, off, none⟩) L.length cap ∧ L.length ≤ cap ∧ ∀ i (hi : i < L.length), w.cell? ⟨b, off + i, none⟩ = some (.string L[i]) := by
  rcases h with ⟨rfl, _⟩ | ⟨b, off, cap, hv, hl, hc⟩
  · simp at hj
  · exact ⟨b, off, cap, hv, hl.1, hc⟩
theorem RT.len {w : World} {v : Value} {L : List ByteArray} (h : RT w v L) : L.length ≤ 9223372036854775807 := by
  rcases h with ⟨rfl, _⟩ | ⟨b, off, cap, _, hl, _⟩
  · simp
  · omega
def tc (L : List ByteArray) : List Value := L.map Value.string
theorem tc_one (L : List ByteArray) : ∀ u ∈ tc L, u.oneCell' = true := by
  intro u hu
  obtain ⟨x, _, rfl⟩ := List.mem_map.1 hu
  rfl
theorem tinfo : (Tryz.prog.info? 9).map (fun i => (i.zero, i.size, i.bytes)) = some (some (.string ⟨#[]⟩), 1, 16) := by kernel_rfl
theorem RT.src {w : World} {v : Value} {L : List ByteArray} (h : RT w v L) : (v = .slice none 0 0 ∧ L.length = 0) ∨ ∃ ad cp, v = .slice (some ad) L.length cp ∧ ∀ j u, (tc L)[j]? = some u → w.cell? (ad.add j) = some u := by
  rcases h with ⟨rfl, ao, cap, rfl, hc⟩ | ⟨b, off, cap, rfl, _, hcell⟩
  · cases ao with
    | none => obtain rfl := hc rfl; exact .inl ⟨rfl, rfl⟩
    | some ad => exact .inr ⟨ad, cap, rfl, fun j u hj => by simp [tc] at hj⟩
  · refine .inr ⟨_, cap, rfl, fun j u hj => ?_⟩
    have hj2 : j < L.length := by have := (List.getElem?_eq_some_iff.1 hj).1; simpa [tc] using this
    have e : (tc L)[j]? = some (.string L[j]) := by simp [tc, hj2]
    rw [e] at hj
    cases hj
    rw [Addr.add_lit]
    exact hcell j hj2
/-- append of what a slice reads as, nil or not -/
theorem wpList_appX {e st : TypeId} {z : Value} {size bytes : Nat} (inf : (Tryz.prog.info? e).map (fun i => (i.zero, i.size, i.bytes)) = some (some z, size, bytes)) (hst : Tryz.prog.underlying st = some (.slice e)) (hzs : z.cells.size = size) (hk0 : 0 < size)
    {w : World} {ops : Array Oper} {rest : List Oper} {o : Oper} {a : Act} {Q : Exit → Act → World → Prop} (hgd : o.guard = none) (s x : Operand)
    (ho : o.op = .call { callee := .builtin .append, args := #[s, x], argTypes := #[st, st] })
    (base : Nat) (v : Value) (n : Nat) (xs : List Value) (hs : a.eval s = v) (hown : w.ownsRow base e size v n xs) (xv : Value) (m : Nat) (news : List Value) (hx : a.eval x = xv) (hl : news.length = m * size)
    (hr : (xv = .slice none 0 0 ∧ m = 0) ∨ ∃ ad cp, xv = .slice (some ad) m cp ∧ ∀ j u, news[j]? = some u → w.cell? (ad.add j) = some u) (h1 : ∀ u ∈ news, u.oneCell' = true)
    (h63 : n + m ≤ maxLen) (hbytes : (n + m) * bytes ≤ 140737488355328) (hbase : base ≤ w.heap.size)
    (h : ∀ v' w', w'.ownsRow base e size v' (n + m) (xs ++ news) → w.grownBy w' v.ownBlock → (v'.ownBlock = v.ownBlock ∨ v'.ownBlock = some w.heap.size) → wpList Tryz.prog ops Q rest (a.put o.dst v') w') : wpList Tryz.prog ops Q (o :: rest) a w := by
  obtain ⟨i, hi, hz, hsz, hby⟩ := info_parts inf
  rcases hr with ⟨hv, rfl⟩ | ⟨ad, cp, hv, hnews⟩
  · have hn : news = [] := List.eq_nil_of_length_eq_zero (by omega)
    subst hn
    refine wpList_append_own_none hgd s x st ho base e i size hst hi v n xs hs hown (hx.trans hv) ?_
    exact h v w (by rw [List.append_nil, Nat.add_zero]; exact hown) ⟨rfl, rfl, rfl, Nat.le_refl _, fun _ _ _ => rfl⟩ (.inl rfl)
  · exact wpList_append_own_at w hgd s x st ho base e i z size bytes hst hi hz hsz hby hzs hk0 v n xs hs hown ad m cp news (hx.trans hv) hl hnews h1 h63 hbytes hbase (fun v' w' a1 a2 _ a4 => h v' w' a1 a2 a4)
theorem own_later {w w' : World} {base : Nat} {e : TypeId} {size : Nat} {v : Value} {n : Nat} {xs : List Value} (h : w.ownsRow base e size v n xs) (hb : Below w.heap.size w w') : w'.ownsRow base e size v n xs :=
  World.ownsRow.kept h (row := none) ⟨hb.os, hb.tape, hb.output, hb.size, fun k hk _ => hb.block k hk⟩ (by cases v.ownBlock <;> simp)
theorem news_blk {w : World} {g : Nat} {cs : Array Value} {t : TypeId} {fr : Nat × Nat} (h : w.heap[g]? = some (.cells cs t fr)) : ∀ j u, cs.toList[j]? = some u → w.cell? ((⟨g, 0, none⟩ : Addr).add j) = some u := fun j u hj => by
  rw [Addr.add_lit, Lib.cell_of_heap h, Nat.zero_add]
  simpa using hj
/-- the i-th note -/
def ntB (k : Nat) : ByteArray := ⟨#[UInt8.ofNat k, 0]⟩
/-- the i-th mark -/
def mkB (k : Nat) : ByteArray := ⟨#[UInt8.ofNat k, 0, 108, 101, 110, 116]⟩
def mkT : List ByteArray := (List.range 9).map mkB
theorem mkT_len : mkT.length = 9 := by simp [mkT]
/-- lent texts: the marks lie behind them -/
def LT (w : World) (v : Value) (L : List ByteArray) : Prop :=
  ∃ b cap, v = .slice (some ⟨b, 0, none⟩) L.length cap ∧ L.length + 9 ≤ cap ∧ cap ≤ 9223372036854775807 ∧ ∀ j (hj : j < (L ++ mkT).length), w.cell? ⟨b, j, none⟩ = some (.string (L ++ mkT)[j])
theorem LT.below {w w' : World} {v : Value} {L : List ByteArray} (h : LT w v L) (hb : Below w.heap.size w w') : LT w' v L := by
  obtain ⟨b, cap, hv, h1, h2, hc⟩ := h
  exact ⟨b, cap, hv, h1, h2, fun j hj => below_cells hb _ _ (hc j hj)⟩
theorem LT.reads {w : World} {v : Value} {L : List ByteArray} (h : LT w v L) : RT w v L := by
  obtain ⟨b, cap, rfl, h1, h2, hc⟩ := h
  refine .inr ⟨b, 0, cap, rfl, ⟨by omega, h2⟩, fun j hj => ?_⟩
  have := hc j (by simp; omega)
  rw [List.getElem_append_left hj] at this
  rw [Nat.zero_add]
  exact this
def OT (w : World) (base : Nat) (v : Value) (L : List ByteArray) : Prop := w.ownsRow base 9 1 v L.length (tc L)
theorem OT.lent {w : World} {base : Nat} {v : Value} {L : List ByteArray} (h : OT w base v (L ++ mkT)) : ∃ g cap, v = .slice (some ⟨g, 0, none⟩) (L.length + 9) cap ∧ L.length + 9 ≤ cap ∧ LT w (.slice (some ⟨g, 0, none⟩) L.length cap) L := by
  have hl : (L ++ mkT).length = L.length + 9 := by rw [List.length_append, mkT_len]
  have hc := fun g hg => World.ownsRow.cells h (g := g) hg
  rcases h.2 with ⟨_, h0⟩ | ⟨g, cap, cur, rfl, _, hgg, hn, hm, _⟩
  · omega
  have hm2 : cap ≤ 9223372036854775807 := hm
  refine ⟨g, cap, by rw [hl], by omega, g, cap, rfl, by omega, hm2, fun j hj => ?_⟩
  have := hc g rfl j (.string (L ++ mkT)[j]) (by unfold tc; rw [List.getElem?_map, List.getElem?_eq_getElem hj]; rfl)
  rw [Addr.add_lit, Nat.zero_add] at this
  exact this
end Go.Proofs.YtmgfdnccmeahjaaGreatDoor

namespace Go.Proofs.YtmgfdnccmeahjaaGreatDoor
open Go.RowKit
set_option maxRecDepth 100000
set_option linter.unusedVariables false
set_option linter.unusedSimpArgs false

/-- a row's texts -/
def tb (T : List (List UInt8)) : List ByteArray := T.map fun l => ⟨l.toArray⟩
theorem tb_len (T : List (List UInt8)) : (tb T).length = T.length := by simp [tb]
/-- rows that came in: each row's slice reads as its texts -/
def Rz (w : World) (v : Value) (R : List (List (List UInt8))) : Prop := ∃ ao cap, v = .slice ao R.length cap ∧ R.length ≤ cap ∧ cap ≤ 9223372036854775807 ∧ ∀ i (hi : i < R.length), ∃ g off u, ao = some ⟨g, off, none⟩ ∧ w.cell? ⟨g, off + i, none⟩ = some u ∧ RT w u (tb R[i])
theorem Rz.below {w w' : World} {v : Value} {R : List (List (List UInt8))} (h : Rz w v R) (hb : Below w.heap.size w w') : Rz w' v R := by
  obtain ⟨ao, cap, h1, h2, h3, h4⟩ := h
  refine ⟨ao, cap, h1, h2, h3, fun i hi => ?_⟩
  obtain ⟨g, off, u, a1, a2, a3⟩ := h4 i hi
  exact ⟨g, off, u, a1, below_cells hb _ _ a2, a3.below hb⟩
theorem Rz.form {w : World} {v : Value} {R : List (List (List UInt8))} (h : Rz w v R) : ∃ ao cap, v = .slice ao R.length cap := by
  obtain ⟨ao, cap, h1, _⟩ := h
  exact ⟨ao, cap, h1⟩
theorem Rz.at {w : World} {ao : Option Addr} {n cap : Nat} {R : List (List (List UInt8))} (h : Rz w (.slice ao n cap) R) (i : Nat) (hi : i < R.length) : ∃ g off u, ao = some ⟨g, off, none⟩ ∧ R.length ≤ cap ∧ w.cell? ⟨g, off + i, none⟩ = some u ∧ RT w u (tb R[i]) := by
  obtain ⟨ao', cap', e, h2, h3, h4⟩ := h
  injection e with e1 _ e3
  subst e1 e3
  obtain ⟨g, off, u, a1, a2, a3⟩ := h4 i hi
  exact ⟨g, off, u, a1, h2, a2, a3⟩
theorem LT.tx {w : World} {v : Value} {T : List (List UInt8)} (h : LT w v (tb T)) : Tx w v T := by
  obtain ⟨b, cap, rfl, h1, h2, hc⟩ := h
  rw [tb_len] at h1
  refine ⟨_, cap, by rw [tb_len], by omega, h2, fun j hj => ⟨b, 0, rfl, ?_⟩⟩
  have := hc j (by rw [List.length_append, tb_len]; omega)
  rw [List.getElem_append_left (by rw [tb_len]; exact hj)] at this
  rw [Nat.zero_add]
  simpa [tb] using this
/-- a row with a note alone -/
def MK (w : World) (u : Value) (k : Nat) : Prop := ∃ b cap, u = .slice (some ⟨b, 0, none⟩) 1 cap ∧ 1 ≤ cap ∧ w.cell? ⟨b, 0, none⟩ = some (.string (ntB k))
theorem MK.below {w w' : World} {u : Value} {k : Nat} (h : MK w u k) (hb : Below w.heap.size w w') : MK w' u k := by
  obtain ⟨b, cap, h1, h2, h3⟩ := h
  exact ⟨b, cap, h1, h2, below_cells hb _ _ h3⟩
/-- rows being lent: the lent ones, then so many notes -/
structure LG (w : World) (B : Nat) (v : Value) (V : List Value) (R : List (List (List UInt8))) (i k : Nat) : Prop where
  own : w.ownsRow B 32 1 v V.length V
  len : V.length = i + k
  le : i ≤ R.length
  row : ∀ j (h1 : j < i) (h2 : j < V.length) (h3 : j < R.length), LT w V[j] (tb R[j])
  nts : ∀ j (h1 : j < k) (h2 : i + j < V.length), MK w V[i + j] j
  nl : V = [] → v.ownBlock = none
theorem LG.sl {w : World} {B : Nat} {v : Value} {V : List Value} {R : List (List (List UInt8))} {i k : Nat} (h : LG w B v V R i k) : ∀ u ∈ V, ∃ a n c, u = .slice a n c := by
  intro u hu
  obtain ⟨j, hj, rfl⟩ := List.mem_iff_getElem.1 hu
  have hl := h.len
  by_cases hji : j < i
  · obtain ⟨b, cap, e, _⟩ := h.row j hji hj (by have := h.le; omega)
    exact ⟨_, _, _, e⟩
  · obtain ⟨b, cap, e, _⟩ := h.nts (j - i) (by omega) (by omega)
    have : i + (j - i) = j := by omega
    simp only [this] at e
    exact ⟨_, _, _, e⟩
theorem LG.top {w : World} {B : Nat} {v : Value} {V : List Value} {R : List (List (List UInt8))} {i k : Nat} (h : LG w B v V R i k) : ∀ g, v.ownBlock = some g → V ≠ [] → ∃ a n c, w.cell? ⟨g, 0, none⟩ = some (.slice a n c) := by
  intro g hg hne
  have hc := World.ownsRow.cells h.own (g := g) hg
  have hp : 0 < V.length := List.length_pos_iff.2 hne
  obtain ⟨a, n, c, e⟩ := h.sl V[0] (List.getElem_mem hp)
  have := hc 0 V[0] (by simp)
  rw [Addr.add_lit, e] at this
  exact ⟨a, n, c, this⟩
theorem LG.hs {w : World} {B : Nat} {v : Value} {V : List Value} {R : List (List (List UInt8))} {i k : Nat} (h : LG w B v V R i k) : ∀ g, v.ownBlock = some g → ∃ a n c, w.cell? ⟨g, 0, none⟩ = some (.slice a n c) := by
  intro g hg
  by_cases hV : V = []
  · rw [h.nl hV] at hg; cases hg
  · exact h.top g hg hV
/-- append of a row, kept whole -/
def appR (a : Array Value) : Sem Value := Builtin.append_ #[22, 22] 22 a
theorem appR_op (a : Array Value) : Builtin.append_ #[22, 22] 22 a = appR a := rfl
attribute [local go_sem ↓] appR_op
end Go.Proofs.YtmgfdnccmeahjaaGreatDoor

namespace Go.Proofs.YtmgfdnccmeahjaaGreatDoor
open Go.RowKit
set_option maxRecDepth 100000
set_option linter.unusedVariables false
set_option linter.unusedSimpArgs false

structure Col where
  nm : ByteArray
  kd : Int
  mu : Bool
/-- a slice reads as these columns -/
def RC (w : World) (v : Value) (L : List Col) : Prop :=
  (L = [] ∧ ∃ ao cap, v = .slice ao 0 cap ∧ (ao = none → cap = 0)) ∨
  ∃ b off cap, v = .slice (some ⟨b, off, none⟩) L.length cap ∧ (L.length ≤ cap ∧ cap ≤ 9223372036854775807) ∧ ∀ j (hj : j < L.length), w.cell? ⟨b, off + j * 3, none⟩ = some (.string L[j].nm) ∧ w.cell? ⟨b, off + j * 3 + 1, none⟩ = some (.int .i64 L[j].kd) ∧ w.cell? ⟨b, off + j * 3 + 2, none⟩ = some (.bool L[j].mu)
theorem RC.below {w w' : World} {v : Value} {L : List Col} (h : RC w v L) (hb : Below w.heap.size w w') : RC w' v L := by
  rcases h with h | ⟨b, off, cap, hv, hl, hc⟩
  · exact .inl h
  · exact .inr ⟨b, off, cap, hv, hl, fun j hj => ⟨below_cells hb _ _ (hc j hj).1, below_cells hb _ _ (hc j hj).2.1, below_cells hb _ _ (hc j hj).2.2⟩⟩
theorem RC.form {w : World} {v : Value} {L : List Col} (h : RC w v L) : ∃ ao cap, v = .slice ao L.length cap ∧ L.length ≤ cap := by
  rcases h with ⟨rfl, ao, cap, rfl, _⟩ | ⟨b, off, cap, rfl, hl, _⟩
  · exact ⟨_, _, rfl, by simp⟩
  · exact ⟨_, _, rfl, hl.1⟩
theorem RC.at {w : World} {v : Value} {L : List Col} (h : RC w v L) (j : Nat) (hj : j < L.length) : ∃ b off cap, v = .slice (some ⟨b, off, none⟩) L.length cap ∧ w.cell? ⟨b, off + j * 3, none⟩ = some (.string L[j].nm) ∧ w.cell? ⟨b, off + j * 3 + 1, none⟩ = some (.int .i64 L[j].kd) ∧ w.cell? ⟨b, off + j * 3 + 2, none⟩ = some (.bool L[j].mu) := by
  rcases h with ⟨rfl, _⟩ | ⟨b, off, cap, hv, hl, hc⟩
  · simp at hj
  · exact ⟨b, off, cap, hv, hc j hj⟩
/-- a shorter slice of it -/
theorem RC.take {w : World} {ao : Option Addr} {n cap : Nat} {L : List Col} (h : RC w (.slice ao n cap) L) (k : Nat) (hk : k ≤ L.length) : RC w (.slice ao k cap) (L.take k) := by
  rcases h with ⟨rfl, ao', cap', hv, hn⟩ | ⟨b, off, cap', hv, hl, hc⟩
  · cases hv
    obtain rfl : k = 0 := by simpa using hk
    exact .inl ⟨rfl, _, _, rfl, hn⟩
  · cases hv
    refine .inr ⟨b, off, _, by rw [List.length_take, Nat.min_eq_left hk], ⟨by rw [List.length_take]; omega, hl.2⟩, fun j hj => ?_⟩
    rw [List.getElem_take]
    exact hc j (by rw [List.length_take] at hj; omega)
theorem OT.reads {w : World} {base : Nat} {v : Value} {L : List ByteArray} (h : OT w base v L) : RT w v L := by
  have hc := fun g hg => World.ownsRow.cells h (g := g) hg
  rcases h.2 with ⟨rfl, h0⟩ | ⟨g, cap, cur, rfl, _, _, hcap, hm, _⟩
  · exact .inl ⟨List.eq_nil_of_length_eq_zero h0, none, 0, rfl, fun _ => rfl⟩
  · refine .inr ⟨g, 0, cap, rfl, ⟨hcap, hm⟩, fun j hj => ?_⟩
    have := hc g rfl j (.string L[j]) (by simp [tc, hj])
    rw [Addr.add_lit] at this
    exact this
set_option maxHeartbeats 2000000 in
theorem names_any (v : Value) (L : List Col) (w : World) (hr : RC w v L) (hl : L.length ≤ 8796093021952) :
    Calls Tryz.prog 46 #[v] w fun e w' => (∃ v', e = .returned v' ∧ OT w' w.heap.size v' (L.map Col.nm)) ∧ Below w.heap.size w w' := by
  have HR := hid hr
  obtain ⟨ao, cap, rfl, _⟩ := hr.form
  have h0 := hid (show OT w w.heap.size (.slice none 0 0) ((L.take 0).map Col.nm) from World.ownsRow_nil _ _ _ _)
  clear hr
  go_enter Tryz.func46, Tryz.ntmps46
  go_wp2_with fail
  go_loopw [3, 8] (fun v i wr => ∃ k : Nat, k ≤ L.length ∧ i = .int .i64 k ∧ OT wr w.heap.size v ((L.take k).map Col.nm) ∧ Below w.heap.size w wr) (fun _ i _ => L.length - (intOf i).toNat)
  case atStart => exact ⟨0, by omega, rfl, h0.out, Below.refl _ _⟩
  case round =>
    obtain ⟨k, hk, rfl, ho, hbl⟩ := hrel
    have HO := hid ho
    have HB := hid hbl
    clear ho
    by_cases h : k < L.length
    · have hlen : ((L.take k).map Col.nm).length = k := by rw [List.length_map, List.length_take]; omega
      have HT := hid (show (L.take (k + 1)).map Col.nm = (L.take k).map Col.nm ++ [L[k].nm] by
        rw [List.take_succ_eq_append_getElem h, List.map_append]; rfl)
      obtain ⟨b, off, cap', hv, c0, c1, c2⟩ := (HR.out.below hbl).at k h
      cases hv
      generalize (L.take k).map Col.nm = Tk at *
      generalize L[k] = C at *
      obtain ⟨nm, kd, mu⟩ := C
      have hI : (k : Int) < (L.length : Int) := by omega
      obtain ⟨W1, hW1⟩ : ∃ W1, wr.alloc (.cells #[.string nm, .int .i64 kd, .bool mu] 31) = W1 := ⟨_, rfl⟩
      have BW1 := hid (show Below wr.heap.size wr W1 by rw [← hW1]; exact (Below.refl _ _).alloc (Nat.le_refl _) _)
      have RW1 := hid (show W1.heap[wr.heap.size]? = some (.cells #[.string nm, .int .i64 kd, .bool mu] 31 (0, 0)) by rw [← hW1]; exact heap_alloc_new wr _)
      have hW1s : W1.heap.size = wr.heap.size + 1 := by rw [← hW1]; simp [go_sem]
      obtain ⟨W, hW⟩ : ∃ W, W1.alloc (.cells #[.string nm] 9) = W := ⟨_, rfl⟩
      have RW := hid (show W.heap[wr.heap.size + 1]? = some (.cells #[.string nm] 9 (0, 0)) by rw [← hW, ← hW1s]; exact heap_alloc_new W1 _)
      have BW := hid (show Below wr.heap.size wr W by rw [← hW]; exact BW1.out.alloc BW1.out.size _)
      have HOW := hid (own_later HO.out BW.out)
      have hsz := hid (show w.heap.size ≤ W.heap.size from Nat.le_trans HB.out.size BW.out.size)
      have hb16 : (Tk.length + 1) * 16 ≤ 140737488355328 := by omega
      have hb63 : Tk.length + 1 ≤ maxLen := by unfold maxLen; omega
      clear HO hbl
      have x0 : W1.cell? ⟨wr.heap.size, 0, none⟩ = some (.string nm) := Lib.cell_of_heap RW1.out 0
      have HLen := hid hlen
      clear h hlen
      go_wp2_with (at_builtin; refine wpList_appX tinfo Tryz.underlying32 rfl (by decide) rfl (.tmp 12) (.tmp 15) rfl w.heap.size _ Tk.length (tc Tk) rfl HOW.out _ 1 (tc [nm]) rfl rfl (.inr ⟨_, _, rfl, news_blk RW.out⟩) (tc_one _) hb63 hb16 hsz.out ?n2)
      case n2 =>
      intro v3 w3 ho3 hg3 _
      have HO3 := hid (show OT w3 w.heap.size v3 (Tk ++ [nm]) by unfold OT; rw [List.length_append]; simpa [tc] using ho3)
      have HB3 := hid ((HB.out.trans (BW.out.mono HB.out.size)).grown hg3 hsz.out (fun k hk => (World.ownsRow.lt HOW.out k hk).1))
      clear ho3 hg3 HOW
      go_wp2_with fail
      go_roundw
      case rel => exact ⟨k + 1, by omega, by go_num, by rw [HT.out]; exact HO3.out, HB3.out⟩
      case measure => simp [intOf]; omega
    · obtain rfl : k = L.length := by omega
      rw [List.take_length] at HO
      have hI : ¬ (L.length : Int) < (L.length : Int) := by omega
      go_wp2
      go_ret
      exact ⟨⟨_, rfl, HO.out⟩, HB.out⟩
end Go.Proofs.YtmgfdnccmeahjaaGreatDoor

namespace Go.Proofs.YtmgfdnccmeahjaaGreatDoor
open Go.RowKit
set_option maxRecDepth 100000
set_option linter.unusedVariables false
set_option linter.unusedSimpArgs false

/-- the place of a text in a list -/
def IdxP (L : List ByteArray) (x : ByteArray) (n : Int) : Prop := (n = -1 ∧ ∀ j (h : j < L.length), L[j] ≠ x) ∨ ∃ (j : Nat) (h : j < L.length), n = (j : Int) ∧ L[j] = x ∧ ∀ i (hi : i < L.length), i < j → L[i] ≠ x
theorem str_eq (x y : ByteArray) : (x.toList == y.toList) = decide (x = y) := by
  rw [ByteArray.toList_eq, ByteArray.toList_eq]
  by_cases h : x = y
  · subst h; simp
  · rw [decide_eq_false h]
    refine beq_eq_false_iff_ne.2 fun e => h ?_
    exact ByteArray.ext (Array.toList_inj.1 e)
set_option maxHeartbeats 1000000 in
theorem sindex_any (v : Value) (L : List ByteArray) (x : ByteArray) (w : World) (hr : RT w v L) :
    Calls Tryz.prog 80 #[v, .string x] w fun e w' => (∃ n, e = .returned (.int .i64 n) ∧ IdxP L x n) ∧ w' = w := by
  have HR := hid hr
  obtain ⟨ao, cap, rfl⟩ := hr.form
  clear hr
  go_enter Tryz.func80, Tryz.ntmps80
  go_wp2_with fail
  go_loop [8] (fun i => ∃ k : Nat, k ≤ L.length ∧ i = .int .i64 k ∧ Hid (∀ j (h : j < L.length), j < k → L[j] ≠ x)) (fun i => L.length - (intOf i).toNat)
  case atStart => exact ⟨0, by omega, rfl, hid fun j _ h => absurd h (Nat.not_lt_zero _)⟩
  case round =>
    obtain ⟨k, hk, rfl, HN⟩ := hrel
    have hl63 := HR.out.len
    by_cases h : k < L.length
    · have hI : (k : Int) < (L.length : Int) := by omega
      obtain ⟨b, off, cap', hv, _, hc⟩ := HR.out.at k h
      cases hv
      have c0 := hc k h
      have es := str_eq x L[k]
      have HLk := hid (fun (e : x = L[k]) => e)
      by_cases e : x = L[k]
      · have HE := hid e.symm
        rw [decide_eq_true e] at es
        clear hc e HLk
        have HNk := hid (show IdxP L x (k : Int) from .inr ⟨k, h, rfl, HE.out, HN.out⟩)
        clear HE
        generalize L[k] = y at es c0
        go_wp2
        go_ret
        exact ⟨⟨_, rfl, HNk.out⟩, rfl⟩
      · have HE := hid (fun h : L[k] = x => e h.symm)
        rw [decide_eq_false e] at es
        clear hc e HLk
        have HN2 := hid (show ∀ j (h : j < L.length), j < k + 1 → L[j] ≠ x from fun j hj hlt => by
          by_cases e : j = k
          · subst e; exact HE.out
          · exact HN.out j hj (by omega))
        generalize L[k] = y at es c0
        go_wp2
        go_round
        case rel => exact ⟨k + 1, by omega, by go_num, HN2⟩
        case measure => simp [intOf]; omega
    · obtain rfl : k = L.length := by omega
      have hI : ¬ (L.length : Int) < (L.length : Int) := by omega
      go_wp2
      go_ret
      exact ⟨⟨-1, rfl, .inl ⟨rfl, fun j hj => HN.out j hj hj⟩⟩, rfl⟩
theorem scontains_any (v : Value) (L : List ByteArray) (x : ByteArray) (w : World) (hr : RT w v L) :
    Calls Tryz.prog 79 #[v, .string x] w fun e w' => (∃ b : Bool, e = .returned (.bool b) ∧ (b = true ↔ x ∈ L)) ∧ w' = w := by
  have HI := hid (sindex_any v L x w hr)
  go_enter Tryz.func79, Tryz.ntmps79
  go_wp2_with fail
  refine Calls.mono HI.out ?_
  rintro e w1 ⟨⟨n, rfl, hn⟩, hw⟩
  replace hw := hw.symm
  subst hw
  have HN := hid hn
  clear hn
  go_wp2
  go_ret
  refine ⟨⟨_, rfl, ?_⟩, rfl⟩
  rcases HN.out with ⟨rfl, hno⟩ | ⟨j, hj, rfl, he, _⟩
  · simp
    intro hm
    obtain ⟨i, hi, e⟩ := List.getElem_of_mem hm
    exact hno i hi e
  · simp
    rw [← he]; exact List.getElem_mem _
/-- a text that a column's head may be -/
def plB (s : ByteArray) : Bool := decide (s.size ≠ 0) && decide (s.size ≤ 64) && s.data.toList.all (fun c => mayB c.toNat)
def mbB (c : Col) : Bool := plB c.nm && decide (1 ≤ c.kd) && decide (c.kd ≤ 6)
theorem cfl_plain {s : ByteArray} (h : s.size ≤ 64) : cfl s.data.toList = if s.data.toList.all (fun c => mayB c.toNat) = true then 0 else 4 := by
  unfold cfl
  rw [if_neg (by have := szL s; omega)]
set_option maxHeartbeats 1000000 in
theorem mayBe_any (A : Nat → Addr) (nm : ByteArray) (kd : Int) (mu : Bool) (w : World) (hA : Sn A w) :
    Calls Tryz.prog 78 #[.agg #[.string nm, .int .i64 kd, .bool mu]] w fun e w' => e = .returned (.bool (mbB ⟨nm, kd, mu⟩)) ∧ Below w.heap.size w w' := by
  obtain ⟨W, hW⟩ : ∃ W, w.alloc (.cells #[.string nm, .int .i64 kd, .bool mu] 31) = W := ⟨_, rfl⟩
  have BW := hid (show Below w.heap.size w W by rw [← hW]; exact (Below.refl _ _).alloc (Nat.le_refl _) _)
  have RW : W.heap[w.heap.size]? = some (.cells #[.string nm, .int .i64 kd, .bool mu] 31 (0, 0)) := by rw [← hW]; exact heap_alloc_new w _
  have x0 : W.cell? ⟨w.heap.size, 0, none⟩ = some (.string nm) := Lib.cell_of_heap RW 0
  have x1 : W.cell? ⟨w.heap.size, 1, none⟩ = some (.int .i64 kd) := Lib.cell_of_heap RW 1
  have HC := hid (fun (W' : World) (h : W' = W) => (by subst h; exact checkCell_any A nm W' ((hA.below BW.out).he) : Calls Tryz.prog 112 #[.string nm] W' fun e w' => e = .returned (erV A (cfl nm.data.toList)) ∧ w' = W'))
  have HWw := hid hW
  clear RW hA hW
  by_cases h0 : nm = ByteArray.empty
  · subst h0
    have HM := hid (show mbB ⟨ByteArray.empty, kd, mu⟩ = false by simp [mbB, plB])
    clear x0 x1 HC
    go_enter Tryz.func78, Tryz.ntmps78
    go_wp2_with fail
    rw [HWw.out]
    go_ret
    exact ⟨by rw [HM.out]; rfl, BW.out⟩
  · have hz : nm.size ≠ 0 := fun e => h0 (ByteArray.size_eq_zero_iff.1 e)
    have hnl : ¬ nm.toList = [] := fun e => hz (by rw [← szL, ← ByteArray.toList_eq, e]; rfl)
    have hne : nm.toList.isEmpty = false := by
      cases hh : nm.toList with
      | nil => exact absurd hh hnl
      | cons c r => rfl
    by_cases h64 : nm.size ≤ 64
    · have h64I : (nm.size : Int) ≤ 64 := by omega
      have hcf := cfl_plain h64
      obtain ⟨b, hb⟩ : ∃ b, nm.data.toList.all (fun c => mayB c.toNat) = b := ⟨_, rfl⟩
      have HM := hid (show mbB ⟨nm, kd, mu⟩ = (b && decide (1 ≤ kd) && decide (kd ≤ 6)) by
        unfold mbB plB; simp only []; rw [hb, decide_eq_true hz, decide_eq_true h64]; simp)
      rw [hb] at hcf
      rw [hcf] at HC
      clear hb hcf hz h64
      cases b with
      | false =>
        rw [if_neg (by decide), erV_pos A (by decide)] at HC
        go_enter Tryz.func78, Tryz.ntmps78
        go_wp2_with fail
        refine Calls.mono (HC.out _ HWw.out) ?_
        rintro e w1 ⟨rfl, rfl⟩
        rw [HWw.out]
        go_wp2
        go_ret
        exact ⟨by rw [HM.out]; rfl, BW.out⟩
      | true =>
        rw [if_pos (by decide), erV_zero] at HC
        by_cases k1 : kd < 1
        · have HM2 := hid (show mbB ⟨nm, kd, mu⟩ = false by rw [HM.out, decide_eq_false (show ¬ 1 ≤ kd by omega)]; rfl)
          clear HM
          go_enter Tryz.func78, Tryz.ntmps78
          go_wp2_with fail
          refine Calls.mono (HC.out _ HWw.out) ?_
          rintro e w1 ⟨rfl, rfl⟩
          rw [HWw.out]
          go_wp2
          go_ret
          exact ⟨by rw [HM2.out]; rfl, BW.out⟩
        · have k2 : 1 ≤ kd := by omega
          have HM2 := hid (show mbB ⟨nm, kd, mu⟩ = decide (kd ≤ 6) by rw [HM.out, decide_eq_true k2]; simp)
          clear HM
          go_enter Tryz.func78, Tryz.ntmps78
          go_wp2_with fail
          refine Calls.mono (HC.out _ HWw.out) ?_
          rintro e w1 ⟨rfl, rfl⟩
          rw [HWw.out]
          go_wp2
          go_ret
          exact ⟨by rw [HM2.out]; rfl, BW.out⟩
    · have h64I : ¬ (nm.size : Int) ≤ 64 := by omega
      have HM := hid (show mbB ⟨nm, kd, mu⟩ = false by unfold mbB plB; simp only []; rw [decide_eq_false h64]; simp)
      clear x1 HC hz h64
      go_enter Tryz.func78, Tryz.ntmps78
      go_wp2_with fail
      rw [HWw.out]
      go_ret
      exact ⟨by rw [HM.out]; rfl, BW.out⟩
end Go.Proofs.YtmgfdnccmeahjaaGreatDoor
