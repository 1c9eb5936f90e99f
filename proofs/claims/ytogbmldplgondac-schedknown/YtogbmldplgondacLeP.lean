/-
  Least: a list of pairs of the law's own.
-/
import Derived.Test.YtogbmldplgondacPairsIn
import Derived.Laws.AppendOwnNone
namespace Go.Proofs.Ytogbmldplgondac
open Go.RowKit
set_option maxRecDepth 100000

/-- pairs as cells -/
def pc (P : List Pr) : List Value := P.flatMap fun x => [.int .i64 x.1, .int .i64 x.2]
theorem pc_len (P : List Pr) : (pc P).length = P.length * 2 := by
  induction P with
  | nil => rfl
  | cons x t ih =>
    have e : pc (x :: t) = [.int .i64 x.1, .int .i64 x.2] ++ pc t := rfl
    rw [e, List.length_append, ih, List.length_cons]
    show 2 + t.length * 2 = (t.length + 1) * 2
    omega
theorem pc_app (P Q : List Pr) : pc (P ++ Q) = pc P ++ pc Q := by simp [pc]
theorem pc_one (P : List Pr) : ∀ u ∈ pc P, u.oneCell' = true := by
  intro u hu
  obtain ⟨x, _, hx⟩ := List.mem_flatMap.1 hu
  simp at hx
  rcases hx with rfl | rfl <;> rfl
theorem pc_at (P : List Pr) (i : Nat) (h : i < P.length) : (pc P)[i * 2]? = some (.int .i64 P[i].1) ∧ (pc P)[i * 2 + 1]? = some (.int .i64 P[i].2) := by
  induction P generalizing i with
  | nil => simp at h
  | cons x t ih =>
    have e : pc (x :: t) = .int .i64 x.1 :: .int .i64 x.2 :: pc t := rfl
    rw [e]
    cases i with
    | zero => exact ⟨rfl, rfl⟩
    | succ i =>
      have := ih i (by simpa using h)
      rw [show (i + 1) * 2 = i * 2 + 1 + 1 by omega, List.getElem?_cons_succ, List.getElem?_cons_succ, List.getElem?_cons_succ, List.getElem?_cons_succ, List.getElem_cons_succ]
      exact this
theorem prinfo : (Try.prog.info? 39).map (fun i => (i.zero, i.size, i.bytes)) = some (some (.agg #[.int .i64 0, .int .i64 0]), 2, 16) := by kernel_rfl
/-- pairs in a block of the call's own -/
def OP (w : World) (base : Nat) (v : Value) (P : List Pr) : Prop := w.ownsRow base 39 2 v P.length (pc P)
theorem OP.nil (w : World) (base : Nat) : OP w base (.slice none 0 0) [] := World.ownsRow_nil _ _ _ _
theorem OP.alloc {w : World} {base : Nat} {v : Value} {P : List Pr} (h : OP w base v P) (o : Obj) : OP (w.alloc o) base v P := World.ownsRow.alloc h o
theorem OP.block_ge {w : World} {base : Nat} {v : Value} {P : List Pr} (h : OP w base v P) : ∀ k, v.ownBlock = some k → base ≤ k := fun k hk => (World.ownsRow.lt h k hk).1
theorem OP.below {w w' : World} {base : Nat} {v : Value} {P : List Pr} (h : OP w base v P) (hb : Below w.heap.size w w') : OP w' base v P :=
  World.ownsRow.kept h (Below.grew hb) (by cases v.ownBlock <;> simp)
theorem OP.form {w : World} {base : Nat} {v : Value} {P : List Pr} (h : OP w base v P) (hl : 0 < P.length) :
    ∃ g cap, v = .slice (some ⟨g, 0, none⟩) P.length cap ∧ P.length ≤ cap ∧ cap ≤ maxLen ∧ ∀ j (hj : j < P.length), w.cell? ⟨g, j * 2, none⟩ = some (.int .i64 P[j].1) ∧ w.cell? ⟨g, j * 2 + 1, none⟩ = some (.int .i64 P[j].2) := by
  have hc := fun g hg => World.ownsRow.cells h (g := g) hg
  rcases h.2 with ⟨_, h0⟩ | ⟨g, cap, cur, rfl, _, hgg, hn, hm, _⟩
  · omega
  · refine ⟨g, cap, rfl, hn, hm, fun j hj => ?_⟩
    have e := pc_at P j hj
    have c0 := hc g rfl _ _ e.1
    have c1 := hc g rfl _ _ e.2
    rw [Addr.add_lit, Nat.zero_add] at c0 c1
    exact ⟨c0, c1⟩
theorem cells_of_pc {w : World} {b off : Nat} {M : List Pr} (h : ∀ j (hj : j < M.length), w.cell? ⟨b, off + j * 2, none⟩ = some (.int .i64 M[j].1) ∧ w.cell? ⟨b, off + j * 2 + 1, none⟩ = some (.int .i64 M[j].2)) :
    ∀ j u, (pc M)[j]? = some u → w.cell? ((⟨b, off, none⟩ : Addr).add j) = some u := by
  intro j u hu
  have hj : j < M.length * 2 := by
    have := (List.getElem?_eq_some_iff.1 hu).1
    rwa [pc_len] at this
  rw [Addr.add_lit]
  obtain ⟨i, hi⟩ : ∃ i, j = i * 2 ∨ j = i * 2 + 1 := ⟨j / 2, by omega⟩
  have hin : i < M.length := by omega
  have e := pc_at M i hin
  rcases hi with rfl | rfl
  · rw [e.1] at hu; cases hu; exact (h i hin).1
  · rw [e.2] at hu; cases hu; exact (h i hin).2
theorem wpList_appP {w : World} {ops : Array Oper} {rest : List Oper} {o : Oper} {a : Act} {Q : Exit → Act → World → Prop} (hgd : o.guard = none) (s x : Operand)
    (ho : o.op = .call { callee := .builtin .append, args := #[s, x], argTypes := #[40, 40] })
    (base : Nat) (v : Value) (L : List Pr) (hs : a.eval s = v) (hown : OP w base v L) (xv : Value) (M : List Pr) (hx : a.eval x = xv) (hr : PL w xv M)
    (hlen : (L.length + M.length) * 16 ≤ 140737488355328) (hbase : base ≤ w.heap.size)
    (h : ∀ v' w', OP w' base v' (L ++ M) → w.grownBy w' v.ownBlock → wpList Try.prog ops Q rest (a.put o.dst v') w') : wpList Try.prog ops Q (o :: rest) a w := by
  obtain ⟨i, hi, hz, hsz, hby⟩ := info_parts prinfo
  obtain ⟨ao, cap, hxv, hc, hn, hr⟩ := hr
  have key : ∀ ad, ao = some ad → (∀ j u, (pc M)[j]? = some u → w.cell? (ad.add j) = some u) → wpList Try.prog ops Q (o :: rest) a w := by
    intro ad had hnews
    subst had
    refine wpList_append_own w hgd s x 40 ho base 39 i (.agg #[.int .i64 0, .int .i64 0]) 2 16 Try.underlying40 hi hz hsz hby rfl (by decide) v L.length (pc L) hs hown ad M.length cap (pc M) (hx.trans hxv) (pc_len M) hnews (pc_one M) (by unfold maxLen; omega) hlen hbase ?_
    intro v' w' ho' hg _
    refine h v' w' ?_ hg
    unfold OP
    rw [pc_app, List.length_append]
    exact ho'
  by_cases hM : M = []
  · subst hM
    cases ao with
    | none =>
      obtain rfl := hn rfl
      refine wpList_append_own_none hgd s x 40 ho base 39 i 2 Try.underlying40 hi v L.length (pc L) hs hown (hx.trans hxv) ?_
      exact h v w (by rw [List.append_nil]; exact hown) ⟨rfl, rfl, rfl, Nat.le_refl _, fun _ _ _ => rfl⟩
    | some ad => exact key ad rfl (fun j u hj => by simp [pc] at hj)
  · have h0 : 0 < M.length := List.length_pos_iff.2 hM
    obtain ⟨_, g, off, had, _⟩ := hr 0 h0
    refine key _ had (cells_of_pc fun j hj => ?_)
    obtain ⟨_, g', off', had', c0, c1⟩ := hr j hj
    rw [had] at had'
    injection had' with e
    injection e with e1 e2
    subst e1 e2
    exact ⟨c0, c1⟩
theorem pl_one (w : World) (x y : Int) (hx : -9223372036854775808 ≤ x ∧ x ≤ 9223372036854775807) (hy : -9223372036854775808 ≤ y ∧ y ≤ 9223372036854775807) : PL (w.alloc (.cells #[.int .i64 x, .int .i64 y] 39)) (.slice (some ⟨w.heap.size, 0, none⟩) 1 1) [(x, y)] := by
  refine ⟨_, 1, rfl, Nat.le_refl _, fun e => (by cases e), fun j hj => ?_⟩
  have : j = 0 := by simpa using hj
  subst this
  refine ⟨⟨hx, hy⟩, w.heap.size, 0, rfl, ?_, ?_⟩ <;> simp
end Go.Proofs.Ytogbmldplgondac
