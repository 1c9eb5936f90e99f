/-
  Lists in memory, so many cells each: that read so; of the call's own; append and make. (Sh1 without cal.)
-/
import Derived.Test.YtgnnopjkbmbjbaaDoorKb0
import Derived.Test.YtgnnopjkbmbjbaaDoorAp0
import Derived.Laws.AppendOwnNone
import Derived.Laws.OwnMore
import Derived.Laws.MakeOwn
import Derived.Laws.Cover1
import Derived.Handy
namespace Go.Proofs.YtgnnopjkbmbjbaaDoor
open Go.RowKit
set_option maxRecDepth 100000

theorem alloc_below (w : World) (o : Obj) : Below w.heap.size w (w.alloc o) := (Below.refl _ _).alloc (Nat.le_refl _) _
theorem bel_step {w w1 w2 : World} (h : Below w.heap.size w w1) (k : Below w1.heap.size w1 w2) : Below w.heap.size w w2 := h.trans (k.mono h.size)
/-- a slice reads as a list, k cells each -/
def RL {α : Type} (enc : α → List Value) (k : Nat) (w : World) (v : Value) (L : List α) : Prop :=
  ∃ ao c, v = .slice ao L.length c ∧ L.length ≤ c ∧ (ao = none → c = 0) ∧ ∀ i (hi : i < L.length), ∃ g off, ao = some ⟨g, off, none⟩ ∧ ∀ j u, (enc L[i])[j]? = some u → w.cell? ⟨g, off + i * k + j, none⟩ = some u
section
variable {α : Type} {enc : α → List Value} {k : Nat}
theorem RL.carry {w w' : World} {v : Value} {L : List α} (h : RL enc k w v L) (hb : ∀ p : Addr, ∀ u, w.cell? p = some u → w'.cell? p = some u) : RL enc k w' v L := by
  obtain ⟨ao, c, hv, hc, hn, hr⟩ := h
  refine ⟨ao, c, hv, hc, hn, fun i hi => ?_⟩
  obtain ⟨g, off, ha, hc⟩ := hr i hi
  exact ⟨g, off, ha, fun j u hj => hb _ _ (hc j u hj)⟩
theorem RL.below {w w' : World} {v : Value} {L : List α} (h : RL enc k w v L) (hb : Below w.heap.size w w') : RL enc k w' v L := h.carry (below_cells hb)
theorem RL.alloc {w : World} {v : Value} {L : List α} (h : RL enc k w v L) (o : Obj) : RL enc k (w.alloc o) v L := h.below (alloc_below _ _)
theorem RL.nil (w : World) : RL enc k w (.slice none 0 0) ([] : List α) := ⟨none, 0, rfl, Nat.le_refl _, fun _ => rfl, fun i hi => by simp at hi⟩
theorem RL.len0 {w : World} {v : Value} {L : List α} (h : RL enc k w v L) : ∃ ao c, v = .slice ao L.length c := by
  obtain ⟨ao, c, rfl, _⟩ := h
  exact ⟨_, _, rfl⟩
theorem RL.form {w : World} {v : Value} {L : List α} (h : RL enc k w v L) (hl : 0 < L.length) :
    ∃ g off c, v = .slice (some ⟨g, off, none⟩) L.length c ∧ L.length ≤ c ∧ ∀ i (hi : i < L.length) j u, (enc L[i])[j]? = some u → w.cell? ⟨g, off + i * k + j, none⟩ = some u := by
  obtain ⟨ao, c, rfl, hc, hn, hr⟩ := h
  obtain ⟨g, off, ha, _⟩ := hr 0 hl
  subst ha
  refine ⟨g, off, c, rfl, hc, fun i hi j u hj => ?_⟩
  obtain ⟨g', off', ha, hq⟩ := hr i hi
  cases ha
  exact hq j u hj
theorem RL.tail {w : World} {g off c : Nat} {x : α} {t : List α} (h : RL enc k w (.slice (some ⟨g, off, none⟩) (t.length + 1) c) (x :: t)) :
    RL enc k w (.slice (if c = 1 then some ⟨g, off, none⟩ else some ⟨g, off + k, none⟩) t.length (c - 1)) t ∧ t.length + 1 ≤ c := by
  obtain ⟨ao, c', hv, h1, h2, h3⟩ := h
  simp only [List.length_cons] at hv h1 h3
  cases hv
  refine ⟨?_, h1⟩
  by_cases e : c = 1
  · have : t = [] := List.eq_nil_of_length_eq_zero (by omega)
    subst this
    rw [if_pos e]
    exact ⟨_, _, rfl, by simp, fun e => (by cases e), fun j hj => by simp at hj⟩
  · rw [if_neg e]
    refine ⟨_, _, rfl, by omega, fun e => (by cases e), fun i hi => ⟨g, off + k, rfl, fun j u hj => ?_⟩⟩
    obtain ⟨g', off', ha, hq⟩ := h3 (i + 1) (by omega)
    cases ha
    have := hq j u (by simpa using hj)
    rw [show off + k + i * k + j = off + (i + 1) * k + j by rw [Nat.add_mul, Nat.one_mul]; omega]
    exact this
theorem fm_len (hk : ∀ x, (enc x).length = k) (L : List α) : (L.flatMap enc).length = L.length * k := by
  induction L with
  | nil => simp
  | cons x t ih => simp [List.flatMap_cons, hk, ih, Nat.add_mul]; omega
theorem fm_at (hk : ∀ x, (enc x).length = k) : ∀ (L : List α) (i : Nat) (hi : i < L.length) (j : Nat), j < k → (L.flatMap enc)[i * k + j]? = (enc L[i])[j]?
  | x :: t, 0, _, j, hj => by
    rw [List.flatMap_cons, List.getElem?_append_left (by rw [hk]; omega)]
    simp
  | x :: t, i + 1, hi, j, hj => by
    rw [List.flatMap_cons, List.getElem?_append_right (by rw [hk, Nat.add_mul, Nat.one_mul]; omega), hk, show (i + 1) * k + j - k = i * k + j by rw [Nat.add_mul, Nat.one_mul]; omega, fm_at hk t i (by simpa using hi) j hj]
    simp
/-- a list in a block of the call's own -/
def OL (enc : α → List Value) (k : Nat) (t : TypeId) (w : World) (base : Nat) (v : Value) (L : List α) : Prop := w.ownsRow base t k v L.length (L.flatMap enc)
theorem OL.nil {t : TypeId} (w : World) (base : Nat) : OL enc k t w base (.slice none 0 0) ([] : List α) := World.ownsRow_nil _ _ _ _
theorem OL.reads {t : TypeId} {w : World} {base : Nat} {v : Value} {L : List α} (hk : ∀ x, (enc x).length = k) (h : OL enc k t w base v L) : RL enc k w v L := by
  have hc := fun g hg => World.ownsRow.cells h (g := g) hg
  rcases h.2 with ⟨rfl, hl⟩ | ⟨g, cap, cur, rfl, _, hgg, hn, _⟩
  · have : L = [] := List.eq_nil_of_length_eq_zero hl
    subst this
    exact RL.nil w
  · refine ⟨_, cap, rfl, hn, fun e => (by cases e), fun i hi => ⟨g, 0, rfl, fun j u hj => ?_⟩⟩
    have hjk : j < k := by have := (List.getElem?_eq_some_iff.1 hj).1; rwa [hk] at this
    have := hc g rfl (i * k + j) u (by rw [fm_at hk L i hi j hjk]; exact hj)
    rw [Addr.add_lit] at this
    rw [show 0 + i * k + j = 0 + (i * k + j) by omega]
    exact this
theorem OL.block_ge {t : TypeId} {w : World} {base : Nat} {v : Value} {L : List α} (h : OL enc k t w base v L) : ∀ b, v.ownBlock = some b → base ≤ b ∧ b < w.heap.size := fun b hb => World.ownsRow.lt h b hb
theorem OL.alloc {t : TypeId} {w : World} {base : Nat} {v : Value} {L : List α} (h : OL enc k t w base v L) (o : Obj) : OL enc k t (w.alloc o) base v L := World.ownsRow.alloc h o
theorem OL.below {t : TypeId} {w w' : World} {base : Nat} {v : Value} {L : List α} (h : OL enc k t w base v L) (hb : Below w.heap.size w w') : OL enc k t w' base v L :=
  World.ownsRow.kept h (Below.grew hb) (by cases v.ownBlock <;> simp)
theorem OL.keep {t : TypeId} {w w' : World} {base : Nat} {v : Value} {L : List α} {row : Option Nat} (h : OL enc k t w base v L) (hg : w.grownBy w' row) (hne : ∀ g, v.ownBlock = some g → row ≠ some g) : OL enc k t w' base v L :=
  World.ownsRow.kept h hg (by
    cases hv : v.ownBlock with
    | none => simp
    | some g => exact .inr fun e => hne g hv e.symm)
theorem OL.mono {t : TypeId} {w : World} {base base' : Nat} {v : Value} {L : List α} (h : OL enc k t w base v L) (hb : base' ≤ base) : OL enc k t w base' v L := by
  refine ⟨h.1, ?_⟩
  rcases h.2 with h2 | ⟨g, cap, cur, hv, hg, r⟩
  · exact .inl h2
  · exact .inr ⟨g, cap, cur, hv, Nat.le_trans hb hg, r⟩
theorem wpList_appL {t st : TypeId} {z : Value} {bytes : Nat} (inf : (Tryd.prog.info? t).map (fun i => (i.zero, i.size, i.bytes)) = some (some z, k, bytes)) (hst : Tryd.prog.underlying st = some (.slice t)) (hzs : z.cells.size = k) (hk0 : 0 < k) (hk : ∀ x, (enc x).length = k) (h1 : ∀ x, ∀ u ∈ enc x, u.oneCell' = true)
    {w : World} {ops : Array Oper} {rest : List Oper} {o : Oper} {a : Act} {Q : Exit → Act → World → Prop} (hgd : o.guard = none) (s x : Operand)
    (ho : o.op = .call { callee := .builtin .append, args := #[s, x], argTypes := #[st, st] })
    (base : Nat) (v : Value) (l : List α) (hs : a.eval s = v) (hown : OL enc k t w base v l) (xv : Value) (m : List α) (hx : a.eval x = xv) (hr : RL enc k w xv m)
    (hlen : (l.length + m.length) * bytes ≤ 140737488355328) (hlen2 : l.length + m.length ≤ maxLen) (hbase : base ≤ w.heap.size)
    (h : ∀ v' w', OL enc k t w' base v' (l ++ m) → w.grownBy w' v.ownBlock → wpList Tryd.prog ops Q rest (a.put o.dst v') w') : wpList Tryd.prog ops Q (o :: rest) a w := by
  obtain ⟨i, hi, hz, hsz, hby⟩ := info_parts inf
  obtain ⟨ao, cap, rfl, hl, hn, hcell⟩ := hr
  cases ao with
  | none =>
    obtain rfl := hn rfl
    have : m = [] := List.eq_nil_of_length_eq_zero (by omega)
    subst this
    refine wpList_append_own_none hgd s x st ho base t i k hst hi v l.length (l.flatMap enc) hs hown hx ?_
    exact h v w (by rw [List.append_nil]; exact hown) ⟨rfl, rfl, rfl, Nat.le_refl _, fun _ _ _ => rfl⟩
  | some ad =>
    refine wpList_append_own w hgd s x st ho base t i z k bytes hst hi hz hsz hby hzs hk0 v l.length (l.flatMap enc) hs hown ad m.length cap (m.flatMap enc) hx (fm_len hk m) ?_ ?_ hlen2 hlen hbase ?_
    · intro j u hj
      have hj' : j < m.length * k := by
        have := (List.getElem?_eq_some_iff.1 hj).1
        rwa [fm_len hk] at this
      have hd : j / k < m.length := by rw [Nat.div_lt_iff_lt_mul hk0]; exact hj'
      obtain ⟨g, off, ha, hc⟩ := hcell (j / k) hd
      cases ha
      have e : j = j / k * k + j % k := by rw [Nat.mul_comm]; exact (Nat.div_add_mod j k).symm
      rw [e, fm_at hk m (j / k) hd (j % k) (Nat.mod_lt _ hk0)] at hj
      have := hc _ _ hj
      rw [Addr.add_lit, e, ← Nat.add_assoc]
      exact this
    · intro u hu
      obtain ⟨y, _, hy⟩ := List.mem_flatMap.1 hu
      exact h1 y u hy
    · intro v' w' ho' hg _
      refine h v' w' ?_ hg
      unfold OL
      rw [List.flatMap_append, List.length_append]
      exact ho'
theorem run_mkL {t st : TypeId} {z : Value} {bytes : Nat} (inf : (Tryd.prog.info? t).map (fun i => (i.zero, i.size, i.bytes)) = some (some z, k, bytes)) (hst : Tryd.prog.underlying st = some (.slice t)) (hb : bytes ≤ 32) (n : Nat) (hn : n ≤ 1000000) (w : World) :
    ∃ row : Array Value, row.size = n * k ∧ (Instr.makeSlice st (.int .i64 0) (.int .i64 (n : Int))).run Tryd.prog w = .ok (.slice (some ⟨w.heap.size, 0, none⟩) 0 n) (w.alloc (.cells row t)) := by
  obtain ⟨i, hi, hz, hs, hbb⟩ := info_parts inf
  have hm : (bytes : Int) * (n : Int) ≤ 32 * 1000000 := Int.mul_le_mul (by omega) (by omega) (by omega) (by omega)
  have := run_make (P := Tryd.prog) w st t i z hst hi hz .i64 .i64 0 (n : Int) (by omega) (by omega) (by rw [hbb]; omega) (by omega)
  refine ⟨_, ?_, this⟩
  rw [size_madeCells, hs]
  simp
theorem OL.made {t : TypeId} {w : World} {row : Array Value} {n : Nat} (hs : row.size = n * k) (hn : n ≤ maxLen) : OL enc k t (w.alloc (.cells row t)) w.heap.size (.slice (some ⟨w.heap.size, 0, none⟩) 0 n) ([] : List α) :=
  ⟨by simp, .inr ⟨w.heap.size, n, row, rfl, Nat.le_refl _, heap_alloc_new w _, Nat.zero_le _, hn, hs, by simp⟩⟩
end
theorem Ow.reads {α : Type} {enc : α → List Value} {k : Nat} {t : TypeId} {col : Nat → Nat} {c : Nat} {w : World} {base : Nat} {v : Value} {L : List α} (hk : ∀ x, (enc x).length = k) (h : Ow enc k t col c w base v L) : RL enc k w v L := OL.reads hk h.1
def eI (x : Int) : List Value := [.int .i64 x]
theorem eI_len (x : Int) : (eI x).length = 1 := rfl
theorem eI_one (x : Int) : ∀ u ∈ eI x, u.oneCell' = true := by simp [eI, Value.oneCell']
theorem intinfo : (Tryd.prog.info? 3).map (fun i => (i.zero, i.size, i.bytes)) = some (some (.int .i64 0), 1, 8) := by kernel_rfl
end Go.Proofs.YtgnnopjkbmbjbaaDoor
