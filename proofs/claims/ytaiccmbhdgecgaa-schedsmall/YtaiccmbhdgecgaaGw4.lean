/-
  Clone, with how many blocks it makes.
-/
import Derived.Test.YtaiccmbhdgecgaaGw2
namespace Go.Proofs.Ytaiccmbhdgecgaa
open Go.RowKit Go.Shelf
set_option maxRecDepth 100000

theorem wpList_emptyI {w : World} {ops : Array Oper} {rest : List Oper} {o : Oper} {a : Act} {Q : Exit → Act → World → Prop} (hgd : o.guard = none) (s x : Operand)
    (ho : o.op = .call { callee := .builtin .append, args := #[s, x], argTypes := #[22, 22] })
    (base b : Nat) (hs : a.eval s = .slice (some ⟨b, 0, none⟩) 0 0) (hown : OI w base (.slice (some ⟨b, 0, none⟩) 0 0) []) (xv : Value) (m : List Int) (hx : a.eval x = xv) (hr : RI w xv m)
    (h1 : 1 ≤ m.length) (h2 : m.length ≤ 1000) (hbase : base ≤ w.heap.size)
    (h : ∀ g c w', OI w' base (.slice (some ⟨g, 0, none⟩) m.length c) m → w.grownBy w' (some b) → g = w.heap.size → w'.heap.size = w.heap.size + 1 → wpList Try.prog ops Q rest (a.put o.dst (.slice (some ⟨g, 0, none⟩) m.length c)) w') : wpList Try.prog ops Q (o :: rest) a w := by
  obtain ⟨i, hi, hz, hsz, hby⟩ := info_parts intinfo
  obtain ⟨ao, cap, rfl, hl, hn, hcell⟩ := hr
  obtain ⟨g, off, hao, _⟩ := hcell 0 (by omega)
  subst hao
  have hnews : ∀ j u, (ic m)[j]? = some u → w.cell? ((⟨g, off, none⟩ : Addr).add j) = some u := by
    intro j u hu
    have hj : j < m.length := by have := (List.getElem?_eq_some_iff.1 hu).1; rwa [ic_len] at this
    obtain ⟨g2, off2, hao2, c2⟩ := hcell j hj
    injection hao2 with hao2
    injection hao2 with e1 e2
    subst e1 e2
    rw [ic_at m j hj] at hu
    injection hu with hu
    rw [← hu, Addr.add_lit]
    exact c2
  obtain ⟨v', w', hr1, ho1, hg1, _⟩ := run_append_own (P := Try.prog) w base 22 o.type 3 i (.int .i64 0) 1 8 Try.underlying22 hi hz hsz hby rfl (by decide) (.slice (some ⟨b, 0, none⟩) 0 0) 0 [] hown ⟨g, off, none⟩ m.length cap (ic m) (by rw [ic_len, Nat.mul_one]) hnews (ic_one m) (by unfold maxLen; omega) (by omega) hbase
  have hr2 := run_append_grow (P := Try.prog) w 22 o.type 3 i (.int .i64 0) Try.underlying22 hi hz ⟨b, 0, none⟩ 0 0 [] (by simp) (by intro j v hv; cases hv) ⟨g, off, none⟩ m.length cap (ic m) (by rw [ic_len, hsz, Nat.mul_one]) hnews (by omega) (by omega) (by rw [hby]; unfold Builtin.nextslicecap; rw [if_pos (by omega)]; omega)
  rw [hr1] at hr2
  injection hr2 with e1 e2
  subst e1 e2
  refine wpList_plain hgd fun K hK => ?_
  unfold Oper.wp execOp
  simp only [ho, resolve, invoke, builtin, Sem.run_bind, Sem.run_pure, Result.andThen_ok, List.map_toArray, List.map_cons, List.map_nil, hs, hx, hr1]
  have e3 : 0 + m.length = m.length := Nat.zero_add _
  rw [e3] at ho1 hg1 ⊢
  exact hK _ _ (h _ _ _ ho1 hg1 rfl (by simp))
set_option maxHeartbeats 1000000 in
theorem clone_sz (v : Value) (R : List Int) (w : World) (hr : RI w v R) (h1 : 1 ≤ R.length) (h2 : R.length ≤ 1000) :
    Calls Try.prog 33 #[v] w fun e w' => (∃ g c, e = .returned (.slice (some ⟨g, 0, none⟩) R.length c) ∧ OI w' w.heap.size (.slice (some ⟨g, 0, none⟩) R.length c) R) ∧ Below w.heap.size w w' ∧ w'.heap.size = w.heap.size + 2 := by
  have hr0 := hr
  obtain ⟨ao, cap, rfl, hc, hn, hcell⟩ := hr
  obtain ⟨g0, off0, hao, _⟩ := hcell 0 (by omega)
  subst hao
  have hs : ∀ w : World, (binOp .eql 22 (.slice (some ⟨g0, off0, none⟩) R.length cap) (.slice none 0 0)).run Try.prog w = .ok (.bool false) w := fun w => le_eql_slice_nil w ⟨g0, off0, none⟩ _ _
  have HR := hid hr0
  have HO := hid (show OI (w.alloc (.cells #[] 3)) w.heap.size (.slice (some ⟨w.heap.size, 0, none⟩) 0 0) [] from World.ownsRow_lit w #[] 0 (Nat.le_refl _) (by unfold maxLen; omega) rfl)
  have B1 := hid ((Below.refl w.heap.size w).alloc (Nat.le_refl _) (.cells #[] 3))
  clear hcell hr0
  go_enter Try.func33, Try.ntmps33
  go_wp2_with (at_builtin; refine wpList_emptyI rfl _ _ rfl w.heap.size w.heap.size rfl HO.out _ R rfl (HR.out.alloc _) (by omega) (by omega) (by simp) ?hnext)
  case hnext =>
    intro g c w1 ho1 hg1 hge hz1
    have H1 := hid ho1
    have B2 := hid (B1.out.grown hg1 (by simp) (fun k hk => by cases hk; exact Nat.le_refl _))
    have HZ := hid (show w1.heap.size = w.heap.size + 2 by rw [hz1])
    clear ho1 hg1 hge hz1
    go_wp2
    go_ret
    exact ⟨⟨_, _, rfl, H1.out⟩, B2.out, HZ.out⟩
end Go.Proofs.Ytaiccmbhdgecgaa
