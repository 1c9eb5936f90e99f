/-
  wheel: the fall of one name.
-/
import Derived.Test.YtffmlnocednehaaWh9
import Derived.WalkMore
import Derived.ArgAppend
import Derived.Deep.AppendLies
namespace Go.Proofs.Ytffmlnocednehaa
open Go.RowKit Go.Maps Go.WideMaps
set_option maxRecDepth 100000

theorem dlinfo : (Try.prog.info? 69).map (fun i => (i.zero, i.size, i.bytes)) = some (some (.agg #[.string ⟨#[]⟩, .int .i64 0]), 2, 24) := by kernel_rfl
/-- the one deadline, as cells; a list of the call's own that holds it -/
def dc1 : List Value := [.string ⟨#[97, 97, 97]⟩, .int .i64 5]
def OD (w : World) (base : Nat) (v : Value) : Prop := w.ownsRow base 69 2 v 1 dc1
theorem wpList_appD {w : World} {ops : Array Oper} {rest : List Oper} {o : Oper} {a : Act} {Q : Exit → Act → World → Prop} (hgd : o.guard = none) (s x : Operand)
    (ho : o.op = .call { callee := .builtin .append, args := #[s, x], argTypes := #[65, 65] })
    (base : Nat) (hs : a.eval s = .slice none 0 0) (ad : Addr) (cap : Nat) (hx : a.eval x = .slice (some ad) 1 cap) (hn : ∀ j u, dc1[j]? = some u → w.cell? (ad.add j) = some u) (hbase : base ≤ w.heap.size)
    (h : ∀ v' w', OD w' base v' → w.grownBy w' none → wpList Try.prog ops Q rest (a.put o.dst v') w') : wpList Try.prog ops Q (o :: rest) a w := by
  obtain ⟨i, hi, hz, hsz, hby⟩ := info_parts dlinfo
  refine wpList_append_own w hgd s x 65 ho base 69 i (.agg #[.string ⟨#[]⟩, .int .i64 0]) 2 24 Try.underlying65 hi hz hsz hby rfl (by decide) (.slice none 0 0) 0 [] hs (World.ownsRow_nil _ _ _ _) ad 1 cap dc1 hx rfl hn (by intro u hu; simp [dc1] at hu; rcases hu with rfl | rfl <;> rfl) (by decide) (by decide) hbase ?_
  intro v' w' ho' hgr _
  exact h v' w' ho' hgr
set_option maxHeartbeats 2000000 in
theorem fall_one (g t : Nat) (w : World) (hc : w.cell? ⟨g, 1 + 5, none⟩ = some (.pointer (some ⟨t, 0, none⟩))) (hf : w.frozen? ⟨g, 1 + 5, none⟩ = false) (hg0 : w.cell? ⟨g, 0, none⟩ = some (.int .i64 5)) (ht : w.heap[t]? = some (.cells #[.string ⟨#[97, 97, 97]⟩, .int .i64 5, .pointer none, .pointer none] 75 (0, 0))) (hne : t ≠ g) :
    Calls Try.prog 38 #[.pointer (some ⟨g, 0, none⟩), .int .i64 0, .int .i64 5] w fun e w' => ∃ v, e = .returned v ∧ OD w' w.heap.size v ∧ Below w.heap.size (w.setCell ⟨g, 1 + 5, none⟩ (.pointer none)) w' := by
  have HE := hid (empty_any g 1 5 (some ⟨t, 0, none⟩) w (by decide) hc hf)
  obtain ⟨W, hW⟩ : ∃ W, w.setCell ⟨g, 1 + 5, none⟩ (.pointer none) = W := ⟨_, rfl⟩
  have rt : W.heap[t]? = some (.cells #[.string ⟨#[97, 97, 97]⟩, .int .i64 5, .pointer none, .pointer none] 75 (0, 0)) := by rw [← hW]; exact (heap_setCell_other w ⟨g, 1 + 5, none⟩ t _ hne).trans ht
  have t0 : W.cell? ⟨t, 0, none⟩ = some (.string ⟨#[97, 97, 97]⟩) := by rw [Lib.cell_of_heap rt]; rfl
  have t1 : W.cell? ⟨t, 1, none⟩ = some (.int .i64 5) := by rw [Lib.cell_of_heap rt]; rfl
  have t2 : W.cell? ⟨t, 2, none⟩ = some (.pointer none) := by rw [Lib.cell_of_heap rt]; rfl
  have t3 : W.cell? ⟨t, 3, none⟩ = some (.pointer none) := by rw [Lib.cell_of_heap rt]; rfl
  have c0 : W.cell? ⟨g, 0, none⟩ = some (.int .i64 5) := by
    rw [← hW]
    exact (World.cell?_setCell_other w _ _ _ (by simp)).trans hg0
  have zW := hid (show W.heap.size = w.heap.size by rw [← hW]; simp)
  have T := fun q => And.intro (show (W.drewN q).cell? ⟨t, 0, none⟩ = _ from t0) (And.intro (show (W.drewN q).cell? ⟨t, 1, none⟩ = _ from t1) (show (W.drewN q).cell? ⟨g, 0, none⟩ = _ from c0))
  have T0 := fun q => (T q).1
  have T1 := fun q => (T q).2.1
  have C0 := fun q => (T q).2.2
  rw [hW] at HE ⊢
  have HW := hid hW
  clear hc hf hg0 ht hW rt T
  go_enter Try.func38, Try.ntmps38
  go_wp2_with fail
  try go_step3
  go_wp2_with fail
  try go_step3
  go_wp2_with fail
  refine Calls.mono HE.out ?_
  rintro e w1 ⟨rfl, hw1⟩
  subst hw1
  go_wp2_with fail
  refine wp_loop_rounds 2 ?_
  rw [rounds_succ]
  go_wp2_with fail
  refine wp_loop_rounds 1 ?_
  rw [rounds_succ]
  go_wp2_with fail
  go_quiet (fail)
  have BQ := hid ((below_drewN (Below.refl w1.heap.size w1) nq).alloc (Nat.le_refl _) (.cells #[.string ⟨#[97, 97, 97]⟩, .int .i64 5] 69))
  have ZQ := hid (show ((w1.drewN nq).alloc (.cells #[.string ⟨#[97, 97, 97]⟩, .int .i64 5] 69)).heap.size = w1.heap.size + 1 by rw [World.size_alloc]; rfl)
  go_wp2_with (at_builtin; refine wpList_appD rfl (.tmp 66) (.tmp 71) rfl w1.heap.size rfl _ _ rfl (World.news_of_block (cs := #[.string ⟨#[97, 97, 97]⟩, .int .i64 5]) (t := 69) (fr := (0, 0)) (heap_alloc_new (w1.drewN nq) _)) (by rw [ZQ.out]; omega) ?hnext)
  case hnext =>
  intro v2 w2 ho hgr
  have HO := hid ho
  have HB := hid (BQ.out.grown hgr (by rw [ZQ.out]; omega) (fun k hk => by cases hk))
  clear ho hgr ZQ BQ
  go_wp2_with fail
  rw [rounds_succ]
  go_wp2
  rw [Exit.noGoto_ret]
  go_ret
  exact ⟨_, rfl, by rw [← zW.out]; exact HO.out, by rw [← zW.out]; exact HB.out⟩
end Go.Proofs.Ytffmlnocednehaa
