/-
  Ints in memory: lists that can be read, lists of the call's own, append and make for them.
-/
import Derived.Test.YtaiccmbhdgecgaaRows
import Derived.WalkKit
import Derived.ProofKit
import Derived.Laws.AppendOwnNone
import Derived.OpenShut
import Derived.Deep.MidRow
import Derived.Deep.QuietTactic
import Derived.BigQuiet
import Derived.WalkSmall
namespace Go.Proofs.Ytaiccmbhdgecgaa
open Go.RowKit
set_option maxRecDepth 100000

theorem hid {p : Prop} (h : p) : Hid p := h
theorem below_cells {w w' : World} (hb : Below w.heap.size w w') : ∀ p : Addr, ∀ u, w.cell? p = some u → w'.cell? p = some u :=
  fun p _ h => (hb.cell (p := p) (World.block_lt_of_cell? _ _ h)).trans h
theorem Below.grew {w w' : World} (h : Below w.heap.size w w') : w.grownBy w' none := ⟨h.os, h.tape, h.output, h.size, fun k hk _ => h.block k hk⟩
/-- ints as cells -/
def ic (R : List Int) : List Value := R.map fun z => .int .i64 z
theorem ic_len (R : List Int) : (ic R).length = R.length := by simp [ic]
theorem ic_app (R S : List Int) : ic (R ++ S) = ic R ++ ic S := by simp [ic]
theorem ic_at (R : List Int) (j : Nat) (h : j < R.length) : (ic R)[j]? = some (.int .i64 R[j]) := by simp [ic, h]
theorem ic_set (R : List Int) (j : Nat) (x : Int) : (ic R).set j (.int .i64 x) = ic (R.set j x) := by simp [ic, List.map_set]
theorem ic_one (R : List Int) : ∀ u ∈ ic R, u.oneCell' = true := by
  intro u hu
  obtain ⟨_, _, rfl⟩ := List.mem_map.1 hu
  rfl
/-- a list of ints that reads so -/
def RI (w : World) (v : Value) (R : List Int) : Prop := ∃ ao c, v = .slice ao R.length c ∧ R.length ≤ c ∧ (ao = none → c = 0) ∧ ∀ i (hi : i < R.length), ∃ g off, ao = some ⟨g, off, none⟩ ∧ w.cell? ⟨g, off + i, none⟩ = some (.int .i64 R[i])
theorem RI.carry {w w' : World} {v : Value} {R : List Int} (h : RI w v R) (hb : ∀ p : Addr, ∀ u, w.cell? p = some u → w'.cell? p = some u) : RI w' v R := by
  obtain ⟨ao, c, hv, hc, hn, hr⟩ := h
  refine ⟨ao, c, hv, hc, hn, fun i hi => ?_⟩
  obtain ⟨g, off, ha, hc⟩ := hr i hi
  exact ⟨g, off, ha, hb _ _ hc⟩
theorem RI.below {w w' : World} {v : Value} {R : List Int} (h : RI w v R) (hb : Below w.heap.size w w') : RI w' v R := h.carry (below_cells hb)
theorem RI.alloc {w : World} {v : Value} {R : List Int} (h : RI w v R) (o : Obj) : RI (w.alloc o) v R := h.below ((Below.refl _ _).alloc (Nat.le_refl _) _)
theorem RI.drew {w : World} {v : Value} {R : List Int} (h : RI w v R) : RI w.drew v R := h.below ((Below.refl _ _).drew)
theorem RI.nil (w : World) : RI w (.slice none 0 0) [] := ⟨none, 0, rfl, Nat.le_refl _, fun _ => rfl, fun i hi => by simp at hi⟩
theorem RI.block {w : World} {g c : Nat} {R : List Int} (h : w.heap[g]? = some (.cells (ic R).toArray 3 (0, 0))) (hc : R.length ≤ c) : RI w (.slice (some ⟨g, 0, none⟩) R.length c) R := by
  refine ⟨_, c, rfl, hc, fun e => (by cases e), fun i hi => ⟨g, 0, rfl, ?_⟩⟩
  rw [Nat.zero_add, cell_of_row w g i _ _ _ h]
  simp only [List.getElem?_toArray]
  exact ic_at R i hi
theorem RI.len0 {w : World} {v : Value} {R : List Int} (h : RI w v R) : ∃ ao c, v = .slice ao R.length c := by
  obtain ⟨ao, c, rfl, _⟩ := h
  exact ⟨_, _, rfl⟩
theorem intinfo : (Try.prog.info? 3).map (fun i => (i.zero, i.size, i.bytes)) = some (some (.int .i64 0), 1, 8) := by kernel_rfl
theorem made_i (n : Nat) : madeCells #[.int .i64 0] n = (ic (List.replicate n 0)).toArray := by
  apply Array.ext
  · rw [size_madeCells]; simp [ic]
  · intro i h1 h2
    simp [madeCells, ic, Nat.mod_one]
def mkI (a b : Value) : Sem Value := Instr.makeSlice 22 a b
theorem mki_op (a b : Value) : Instr.makeSlice 22 a b = mkI a b := rfl
theorem run_mkI (n : Nat) (hn : n ≤ 1000000) (w : World) : (mkI (.int .i64 (n : Int)) (.int .i64 (n : Int))).run Try.prog w = .ok (.slice (some ⟨w.heap.size, 0, none⟩) n n) (w.alloc (.cells (ic (List.replicate n 0)).toArray 3)) := by
  obtain ⟨i, hi, hz, hs, hb⟩ := info_parts intinfo
  have := run_make (P := Try.prog) w 22 3 i _ Try.underlying22 hi hz .i64 .i64 (n : Int) (n : Int) (by omega) (by omega) (by rw [hb]; omega) (by omega)
  unfold mkI
  rw [this, hs, Nat.mul_one]
  simp only [Int.toNat_natCast]
  rw [show (Value.int IntKind.i64 0).cells = #[.int .i64 0] from rfl, made_i]

/-- a list of ints in a block of the call's own -/
def OI (w : World) (base : Nat) (v : Value) (R : List Int) : Prop := w.ownsRow base 3 1 v R.length (ic R)
theorem OI.nil (w : World) (base : Nat) : OI w base (.slice none 0 0) [] := World.ownsRow_nil _ _ _ _
theorem OI.reads {w : World} {base : Nat} {v : Value} {R : List Int} (h : OI w base v R) : RI w v R := by
  have hc := fun g hg => World.ownsRow.cells h (g := g) hg
  rcases h.2 with ⟨rfl, hl⟩ | ⟨g, cap, cur, rfl, _, hgg, hn, _⟩
  · have : R = [] := List.eq_nil_of_length_eq_zero hl
    subst this
    exact RI.nil w
  · refine ⟨_, cap, rfl, hn, fun e => (by cases e), fun j hj => ⟨g, 0, rfl, ?_⟩⟩
    have := hc g rfl j _ (ic_at R j hj)
    rw [Addr.add_lit] at this
    exact this
theorem OI.form {w : World} {base : Nat} {v : Value} {R : List Int} (h : OI w base v R) (hl : 0 < R.length) :
    ∃ g cap, v = .slice (some ⟨g, 0, none⟩) R.length cap ∧ R.length ≤ cap ∧ cap ≤ maxLen ∧ ∀ j (hj : j < R.length), w.cell? ⟨g, j, none⟩ = some (.int .i64 R[j]) := by
  have hc := fun g hg => World.ownsRow.cells h (g := g) hg
  rcases h.2 with ⟨_, h0⟩ | ⟨g, cap, cur, rfl, _, hgg, hn, hm, _⟩
  · omega
  · refine ⟨g, cap, rfl, hn, hm, fun j hj => ?_⟩
    have := hc g rfl j _ (ic_at R j hj)
    rw [Addr.add_lit, Nat.zero_add] at this
    exact this
theorem OI.block_ge {w : World} {base : Nat} {v : Value} {R : List Int} (h : OI w base v R) : ∀ k, v.ownBlock = some k → base ≤ k := fun k hk => (World.ownsRow.lt h k hk).1
theorem OI.alloc {w : World} {base : Nat} {v : Value} {R : List Int} (h : OI w base v R) (o : Obj) : OI (w.alloc o) base v R := World.ownsRow.alloc h o
theorem OI.below {w w' : World} {base : Nat} {v : Value} {R : List Int} (h : OI w base v R) (hb : Below w.heap.size w w') : OI w' base v R :=
  World.ownsRow.kept h (Below.grew hb) (by cases v.ownBlock <;> simp)
theorem OI.mono {w : World} {base base' : Nat} {v : Value} {R : List Int} (h : OI w base v R) (hb : base' ≤ base) : OI w base' v R := by
  refine ⟨h.1, ?_⟩
  rcases h.2 with h2 | ⟨g, cap, cur, hv, hg, r⟩
  · exact .inl h2
  · exact .inr ⟨g, cap, cur, hv, Nat.le_trans hb hg, r⟩
theorem ri_one (w : World) (x : Int) : RI (w.alloc (.cells #[.int .i64 x] 3)) (.slice (some ⟨w.heap.size, 0, none⟩) 1 1) [x] := by
  refine ⟨_, 1, rfl, Nat.le_refl _, fun e => (by cases e), fun j hj => ⟨w.heap.size, 0, rfl, ?_⟩⟩
  have : j = 0 := by simpa using hj
  subst this
  simp
theorem wpList_appI {w : World} {ops : Array Oper} {rest : List Oper} {o : Oper} {a : Act} {Q : Exit → Act → World → Prop} (hgd : o.guard = none) (s x : Operand)
    (ho : o.op = .call { callee := .builtin .append, args := #[s, x], argTypes := #[22, 22] })
    (base : Nat) (v : Value) (l : List Int) (hs : a.eval s = v) (hown : OI w base v l) (xv : Value) (m : List Int) (hx : a.eval x = xv) (hr : RI w xv m)
    (hlen : (l.length + m.length) * 8 ≤ 140737488355328) (hbase : base ≤ w.heap.size)
    (h : ∀ v' w', OI w' base v' (l ++ m) → w.grownBy w' v.ownBlock → wpList Try.prog ops Q rest (a.put o.dst v') w') : wpList Try.prog ops Q (o :: rest) a w := by
  obtain ⟨i, hi, hz, hsz, hby⟩ := info_parts intinfo
  obtain ⟨ao, cap, rfl, hl, hn, hcell⟩ := hr
  have key : ∀ ad, ao = some ad → (∀ j u, (ic m)[j]? = some u → w.cell? (ad.add j) = some u) → wpList Try.prog ops Q (o :: rest) a w := by
    intro ad hxv hnews
    subst hxv
    refine wpList_append_own w hgd s x 22 ho base 3 i (.int .i64 0) 1 8 Try.underlying22 hi hz hsz hby rfl (by decide) v l.length (ic l) hs hown ad m.length cap (ic m) hx (by rw [ic_len, Nat.mul_one]) hnews (ic_one m) (by unfold maxLen; omega) (by omega) hbase ?_
    intro v' w' ho' hg _
    refine h v' w' ?_ hg
    unfold OI
    rw [ic_app, List.length_append]
    exact ho'
  cases ao with
  | none =>
    obtain rfl := hn rfl
    have : m = [] := List.eq_nil_of_length_eq_zero (by omega)
    subst this
    refine wpList_append_own_none hgd s x 22 ho base 3 i 1 Try.underlying22 hi v l.length (ic l) hs hown hx ?_
    exact h v w (by rw [List.append_nil]; exact hown) ⟨rfl, rfl, rfl, Nat.le_refl _, fun _ _ _ => rfl⟩
  | some ad =>
    refine key ad rfl fun j u hj => ?_
    have hj' : j < m.length := by
      have := (List.getElem?_eq_some_iff.1 hj).1
      simpa [ic_len] using this
    rw [ic_at m j hj'] at hj
    cases hj
    obtain ⟨g, off, ha, hc⟩ := hcell j hj'
    cases ha
    rw [Addr.add_lit]
    exact hc
end Go.Proofs.Ytaiccmbhdgecgaa
