/-
  Lines that are read: SameLines, weight, LentLines, KeptLines.
-/
import Derived.Test.YtfhicemfhkhjaabDx8
import Derived.Test.YtfhicemfhkhjaabLend
import Derived.Handy
namespace Go.Proofs.Ytfhicemfhkhjaab
open Go.RowKit
set_option maxRecDepth 100000

/-- the slice v reads as the lines L -/
def RLn (w : World) (v : Value) (L : List Ln) : Prop :=
  (L = [] ∧ ∃ ao cap, v = .slice ao 0 cap ∧ (ao = none → cap = 0)) ∨
  ∃ b off cap, v = .slice (some ⟨b, off, none⟩) L.length cap ∧ L.length ≤ cap ∧ ∀ j (hj : j < L.length), w.cell? ⟨b, off + j * 2, none⟩ = some (.string L[j].1) ∧ w.cell? ⟨b, off + j * 2 + 1, none⟩ = some (.int .i64 L[j].2)
theorem RLn.below {w w' : World} {v : Value} {L : List Ln} (h : RLn w v L) (hb : Below w.heap.size w w') : RLn w' v L := by
  rcases h with h | ⟨b, off, cap, hv, hl, hc⟩
  · exact .inl h
  · exact .inr ⟨b, off, cap, hv, hl, fun j hj => ⟨below_cells hb _ _ (hc j hj).1, below_cells hb _ _ (hc j hj).2⟩⟩
theorem RLn.form {w : World} {v : Value} {L : List Ln} (h : RLn w v L) : ∃ ao cap, v = .slice ao L.length cap := by
  rcases h with ⟨rfl, ao, cap, rfl, _⟩ | ⟨b, off, cap, rfl, _⟩
  · exact ⟨_, _, rfl⟩
  · exact ⟨_, _, rfl⟩
theorem lc_at (L : List Ln) (i : Nat) (h : i < L.length) : (lc L)[i * 2]? = some (.string L[i].1) ∧ (lc L)[i * 2 + 1]? = some (.int .i64 L[i].2) := by
  induction L generalizing i with
  | nil => simp at h
  | cons x t ih =>
    have e : lc (x :: t) = .string x.1 :: .int .i64 x.2 :: lc t := rfl
    rw [e]
    cases i with
    | zero => exact ⟨rfl, rfl⟩
    | succ i =>
      have := ih i (by simpa using h)
      rw [show (i + 1) * 2 = i * 2 + 1 + 1 by omega, List.getElem?_cons_succ, List.getElem?_cons_succ, List.getElem?_cons_succ, List.getElem?_cons_succ, List.getElem_cons_succ]
      exact this
theorem OLn.cells {w : World} {base : Nat} {v : Value} {L : List Ln} (h : OLn w base v L) (hl : 0 < L.length) : ∃ g cap, v = .slice (some ⟨g, 0, none⟩) L.length cap ∧ L.length ≤ cap ∧ cap ≤ maxLen ∧ ∀ j (hj : j < L.length), w.cell? ⟨g, j * 2, none⟩ = some (.string L[j].1) ∧ w.cell? ⟨g, j * 2 + 1, none⟩ = some (.int .i64 L[j].2) := by
  have hc := fun g hg => World.ownsRow.cells h (g := g) hg
  rcases h.2 with ⟨_, h0⟩ | ⟨g, cap, cur, rfl, _, hgg, hn, hm, _⟩
  · omega
  · refine ⟨g, cap, rfl, hn, hm, fun j hj => ?_⟩
    have e := lc_at L j hj
    have c0 := hc g rfl _ _ e.1
    have c1 := hc g rfl _ _ e.2
    rw [Addr.add_lit, Nat.zero_add] at c0 c1
    exact ⟨c0, c1⟩
theorem OLn.reads {w : World} {base : Nat} {v : Value} {L : List Ln} (h : OLn w base v L) : RLn w v L := by
  by_cases hl : 0 < L.length
  · obtain ⟨g, cap, hv, h1, _, hc⟩ := h.cells hl
    exact .inr ⟨g, 0, cap, hv, h1, fun j hj => by rw [Nat.zero_add]; exact hc j hj⟩
  · obtain rfl : L = [] := List.eq_nil_of_length_eq_zero (by omega)
    rcases h.2 with ⟨rfl, _⟩ | ⟨g, cap, cur, rfl, _⟩
    · exact .inl ⟨rfl, none, 0, rfl, fun _ => rfl⟩
    · exact .inl ⟨rfl, _, cap, rfl, fun e => by cases e⟩
theorem cells_of_lc {w : World} {b off : Nat} {M : List Ln} (h : ∀ j (hj : j < M.length), w.cell? ⟨b, off + j * 2, none⟩ = some (.string M[j].1) ∧ w.cell? ⟨b, off + j * 2 + 1, none⟩ = some (.int .i64 M[j].2)) :
    ∀ j u, (lc M)[j]? = some u → w.cell? ((⟨b, off, none⟩ : Addr).add j) = some u := by
  intro j u hu
  have hj : j < M.length * 2 := by
    have := (List.getElem?_eq_some_iff.1 hu).1
    rwa [lc_len] at this
  rw [Addr.add_lit]
  obtain ⟨i, hi⟩ : ∃ i, j = i * 2 ∨ j = i * 2 + 1 := ⟨j / 2, by omega⟩
  have hin : i < M.length := by omega
  have e := lc_at M i hin
  rcases hi with rfl | rfl
  · rw [e.1] at hu
    cases hu
    exact (h i hin).1
  · rw [e.2] at hu
    cases hu
    exact (h i hin).2
/-- append of lines that are read -/
theorem wpList_appLs {w : World} {ops : Array Oper} {rest : List Oper} {o : Oper} {a : Act} {Q : Exit → Act → World → Prop} (hgd : o.guard = none) (s x : Operand)
    (ho : o.op = .call { callee := .builtin .append, args := #[s, x], argTypes := #[22, 22] })
    (base : Nat) (v : Value) (L : List Ln) (hs : a.eval s = v) (hown : OLn w base v L) (xv : Value) (M : List Ln) (hx : a.eval x = xv) (hr : RLn w xv M)
    (hlen : L.length + M.length ≤ 1000000000000) (hbase : base ≤ w.heap.size)
    (h : ∀ v' w', OLn w' base v' (L ++ M) → w.grownBy w' v.ownBlock → wpList Try.prog ops Q rest (a.put o.dst v') w') : wpList Try.prog ops Q (o :: rest) a w := by
  obtain ⟨i, hi, hz, hsz, hby⟩ := info_parts lninfo
  have key : ∀ ad cap, xv = .slice (some ad) M.length cap → (∀ j u, (lc M)[j]? = some u → w.cell? (ad.add j) = some u) → wpList Try.prog ops Q (o :: rest) a w := by
    intro ad cap hxv hnews
    refine wpList_append_own w hgd s x 22 ho base 75 i (.agg #[.string ⟨#[]⟩, .int .i64 0]) 2 24 Try.underlying22 hi hz hsz hby rfl (by decide) v L.length (lc L) hs hown ad M.length cap (lc M) (hx.trans hxv) (lc_len M) hnews (lc_one _) (by unfold maxLen; omega) (by omega) hbase ?_
    intro v' w' ho' hgr _
    refine h v' w' ?_ hgr
    unfold OLn
    rw [lc_app, List.length_append]
    exact ho'
  rcases hr with ⟨rfl, ao, cap, rfl, hcap⟩ | ⟨b, off, cap, rfl, hl, hcell⟩
  · cases ao with
    | none =>
      obtain rfl := hcap rfl
      refine wpList_append_own_none hgd s x 22 ho base 75 i 2 Try.underlying22 hi v L.length (lc L) hs hown hx ?_
      exact h v w (by rw [List.append_nil]; exact hown) ⟨rfl, rfl, rfl, Nat.le_refl _, fun _ _ _ => rfl⟩
    | some ad => exact key ad cap rfl (fun j u hj => by simp [lc] at hj)
  · exact key _ cap rfl (cells_of_lc hcell)
set_option maxHeartbeats 2000000 in
theorem sameLines_any (v1 v2 : Value) (L : List Ln) (w : World) (h1 : RLn w v1 L) (h2 : RLn w v2 L) (hl : L.length ≤ 1000000000000) :
    Calls Try.prog 47 #[v1, v2] w fun e w' => e = .returned (.bool true) ∧ Below w.heap.size w w' := by
  have HL := hid hl
  clear hl
  rcases h1 with ⟨rfl, ao, cap, rfl, _⟩ | ⟨b, off, cap, rfl, hcap, hcell⟩
  · rcases h2 with ⟨_, ao2, cap2, rfl, _⟩ | ⟨b2, off2, cap2, rfl, _, _⟩
    all_goals
      go_enter Try.func47, Try.ntmps47
      go_wp2_with fail
      go_rounds 1
      go_ret
      exact ⟨rfl, Below.refl _ _⟩
  · rcases h2 with ⟨rfl, ao2, cap2, rfl, _⟩ | ⟨b2, off2, cap2, rfl, hcap2, hcell2⟩
    · go_enter Try.func47, Try.ntmps47
      go_wp2_with fail
      go_rounds 1
      go_ret
      exact ⟨rfl, Below.refl _ _⟩
    · have HC := hid (And.intro hcell hcell2)
      clear hcell hcell2
      go_enter Try.func47, Try.ntmps47
      go_wp2_with fail
      go_loopw [5] (fun i wr => ∃ k : Nat, k ≤ L.length ∧ i = .int .i64 (k : Int) ∧ Below w.heap.size w wr) (fun i _ => L.length - (intOf i).toNat)
      case atStart => exact ⟨0, by omega, rfl, Below.refl _ _⟩
      case round =>
        obtain ⟨k, hk, rfl, hbl⟩ := hrel
        by_cases hlt : k < L.length
        · have hcl := HC.out.1 k hlt
          have hcl2 := HC.out.2 k hlt
          have c0 := below_cells hbl _ _ hcl.1
          have c1 := below_cells hbl _ _ hcl.2
          have d0 := below_cells hbl _ _ hcl2.1
          have d1 := below_cells hbl _ _ hcl2.2
          have hl := HL.out
          have hI : (k : Int) < (L.length : Int) := by omega
          clear hcl hcl2
          generalize (L[k]'hlt).1 = x at c0 d0
          generalize (L[k]'hlt).2 = y at c1 d1
          go_wp2_with fail
          go_quiet (fail)
          have hB1 := below_drewN hbl nq
          clear c0 c1 d0 d1
          go_wp2
          go_roundw
          case rel => exact ⟨k + 1, by omega, by go_num, hB1⟩
          case measure => simp [intOf]; omega
        · go_wp2
          go_ret
          exact ⟨rfl, hbl⟩
end Go.Proofs.Ytfhicemfhkhjaab
