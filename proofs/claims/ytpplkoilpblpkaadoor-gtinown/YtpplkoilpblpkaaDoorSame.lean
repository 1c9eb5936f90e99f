/-
  same: two lists that read the same.
-/
import Derived.Test.YtpplkoilpblpkaaDoorFind
import Derived.Deep.QuietTactic
import Derived.BigQuiet
import Derived.WalkSmall
namespace Go.Proofs.YtpplkoilpblpkaaDoor
open Go.RowKit
set_option maxRecDepth 100000

set_option maxHeartbeats 2000000 in
theorem same_true (v1 v2 : Value) (L : List El) (w : World) (h1 : RE w v1 L) (h2 : RE w v2 L) (hl : L.length ≤ 9223372036854775807) :
    Calls Tryd.prog 10 #[v1, v2] w fun e w' => e = .returned (.bool true) ∧ Below w.heap.size w w' := by
  have HL : Hid (_) := hl
  clear hl
  rcases h1 with ⟨rfl, ao, cap, rfl, _⟩ | ⟨b, off, cap, rfl, hcap, hcell⟩
  · rcases h2 with ⟨_, ao2, cap2, rfl, _⟩ | ⟨b2, off2, cap2, rfl, _, _⟩
    all_goals
      go_enter Tryd.func10, Tryd.ntmps10
      go_wp2_with fail
      go_rounds 1
      go_ret
      exact ⟨rfl, Below.refl _ _⟩
  · rcases h2 with ⟨rfl, ao2, cap2, rfl, _⟩ | ⟨b2, off2, cap2, rfl, hcap2, hcell2⟩
    · go_enter Tryd.func10, Tryd.ntmps10
      go_wp2_with fail
      go_rounds 1
      go_ret
      exact ⟨rfl, Below.refl _ _⟩
    · have HC : Hid (_) := And.intro hcell hcell2
      clear hcell hcell2
      go_enter Tryd.func10, Tryd.ntmps10
      go_wp2_with fail
      go_loopw [5] (fun i wr => ∃ k : Nat, k ≤ L.length ∧ i = .int .i64 (k : Int) ∧ Below w.heap.size w wr) (fun i _ => L.length - (intOf i).toNat)
      case atStart => exact ⟨0, by omega, rfl, Below.refl _ _⟩
      case round =>
        obtain ⟨k, hk, rfl, hbl⟩ := hrel
        by_cases hlt : k < L.length
        · have hcl := HC.out.1 k hlt
          have hcl2 := HC.out.2 k hlt
          have c0 := below_cells hbl _ _ hcl.1
          have c1 := below_cells hbl _ _ hcl.2
          have d0 := below_cells hbl _ _ hcl2.1
          have d1 := below_cells hbl _ _ hcl2.2
          have hl := HL.out
          have hI : (k : Int) < (L.length : Int) := by omega
          clear hcl hcl2
          generalize (L[k]'hlt).1 = x at c0 d0
          generalize (L[k]'hlt).2 = y at c1 d1
          go_wp2_with fail
          go_quiet (fail)
          have hB1 := below_drewN hbl nq
          clear c0 c1 d0 d1
          go_wp2
          go_roundw
          case rel => exact ⟨k + 1, by omega, by go_num, hB1⟩
          case measure => simp [intOf]; omega
        · go_wp2
          go_ret
          exact ⟨rfl, hbl⟩

/-- elements as cells -/
def ec (L : List El) : List Value := L.flatMap fun x => [.string x.1, .string x.2]
theorem ec_len (L : List El) : (ec L).length = L.length * 2 := by
  induction L with
  | nil => rfl
  | cons x t ih =>
    have e : ec (x :: t) = [.string x.1, .string x.2] ++ ec t := rfl
    rw [e, List.length_append, ih, List.length_cons]
    show 2 + t.length * 2 = (t.length + 1) * 2
    omega
theorem ec_append (L M : List El) : ec (L ++ M) = ec L ++ ec M := by simp [ec]
theorem ec_one (L : List El) : ∀ u ∈ ec L, u.oneCell' = true := by
  intro u hu
  obtain ⟨x, _, hx⟩ := List.mem_flatMap.1 hu
  simp at hx
  rcases hx with rfl | rfl <;> rfl
theorem ec_at (L : List El) (j : Nat) (hj : j < L.length) : (ec L)[j * 2]? = some (.string L[j].1) ∧ (ec L)[j * 2 + 1]? = some (.string L[j].2) := by
  induction L generalizing j with
  | nil => simp at hj
  | cons x t ih =>
    cases j with
    | zero => exact ⟨rfl, rfl⟩
    | succ j =>
      have h := ih j (by simpa using hj)
      rw [show (j + 1) * 2 = j * 2 + 1 + 1 by omega]
      exact ⟨h.1, h.2⟩

theorem elinfo : (Tryd.prog.info? 36).map (fun i => (i.zero, i.size, i.bytes)) = some (some (.agg #[.string ⟨#[]⟩, .string ⟨#[]⟩]), 2, 32) := by kernel_rfl

/-- a list of elements in a block of the call's own -/
def OE (w : World) (base : Nat) (v : Value) (L : List El) : Prop := w.ownsRow base 36 2 v L.length (ec L)
theorem OE.nil (w : World) (base : Nat) : OE w base (.slice none 0 0) [] := World.ownsRow_nil _ _ _ _
theorem OE.alloc {w : World} {base : Nat} {v : Value} {L : List El} (h : OE w base v L) (o : Obj) : OE (w.alloc o) base v L := World.ownsRow.alloc h o
theorem OE.block_ge {w : World} {base : Nat} {v : Value} {L : List El} (h : OE w base v L) : ∀ k, v.ownBlock = some k → base ≤ k := fun k hk => (World.ownsRow.lt h k hk).1

theorem cells_of_ec {w : World} {ad : Addr} {M : List El} (h : ∀ j (hj : j < M.length), w.cell? ⟨ad.block, ad.off + j * 2, none⟩ = some (.string M[j].1) ∧ w.cell? ⟨ad.block, ad.off + j * 2 + 1, none⟩ = some (.string M[j].2)) (hs : ad.spot = none) :
    ∀ j u, (ec M)[j]? = some u → w.cell? (ad.add j) = some u := by
  intro j u hu
  have hj : j < M.length * 2 := by
    have := (List.getElem?_eq_some_iff.1 hu).1
    rwa [ec_len] at this
  obtain ⟨b, off, sp⟩ := ad
  simp only at hs h
  subst hs
  rw [Addr.add_lit]
  obtain ⟨i, hi⟩ : ∃ i, j = i * 2 ∨ j = i * 2 + 1 := ⟨j / 2, by omega⟩
  have hin : i < M.length := by omega
  have e := ec_at M i hin
  rcases hi with rfl | rfl
  · rw [e.1] at hu; cases hu; exact (h i hin).1
  · rw [e.2] at hu; cases hu; exact (h i hin).2

theorem wpList_appE {w : World} {ops : Array Oper} {rest : List Oper} {o : Oper} {a : Act} {Q : Exit → Act → World → Prop} (hgd : o.guard = none) (s x : Operand)
    (ho : o.op = .call { callee := .builtin .append, args := #[s, x], argTypes := #[23, 23] })
    (base : Nat) (v : Value) (L : List El) (hs : a.eval s = v) (hown : OE w base v L) (xv : Value) (M : List El) (hx : a.eval x = xv) (hr : RE w xv M)
    (hlen : (L.length + M.length) * 32 ≤ 140737488355328) (hbase : base ≤ w.heap.size)
    (h : ∀ v' w', OE w' base v' (L ++ M) → w.grownBy w' v.ownBlock → wpList Tryd.prog ops Q rest (a.put o.dst v') w') : wpList Tryd.prog ops Q (o :: rest) a w := by
  obtain ⟨i, hi, hz, hsz, hby⟩ := info_parts elinfo
  have key : ∀ ad cap, xv = .slice (some ad) M.length cap → (∀ j u, (ec M)[j]? = some u → w.cell? (ad.add j) = some u) → wpList Tryd.prog ops Q (o :: rest) a w := by
    intro ad cap hxv hnews
    refine wpList_append_own w hgd s x 23 ho base 36 i (.agg #[.string ⟨#[]⟩, .string ⟨#[]⟩]) 2 32 Tryd.underlying23 hi hz hsz hby rfl (by decide) v L.length (ec L) hs hown ad M.length cap (ec M) (hx.trans hxv) (ec_len M) hnews (ec_one M) (by unfold maxLen; omega) hlen hbase ?_
    intro v' w' ho' hg _
    refine h v' w' ?_ hg
    unfold OE
    rw [ec_append, List.length_append]
    exact ho'
  rcases hr with ⟨rfl, ao, cap, rfl, hcap⟩ | ⟨b, off, cap, rfl, hl, hcell⟩
  · cases ao with
    | none =>
      obtain rfl := hcap rfl
      refine wpList_append_own_none hgd s x 23 ho base 36 i 2 Tryd.underlying23 hi v L.length (ec L) hs hown hx ?_
      exact h v w (by rw [List.append_nil]; exact hown) ⟨rfl, rfl, rfl, Nat.le_refl _, fun _ _ _ => rfl⟩
    | some ad => exact key ad cap rfl (fun j u hj => by simp [ec] at hj)
  · exact key _ cap rfl (cells_of_ec hcell rfl)
end Go.Proofs.YtpplkoilpblpkaaDoor
