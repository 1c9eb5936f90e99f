/-
  stock: levels copied into memory of their own. (Ckd of levels.)
-/
import Derived.Test.YtdodockemkmmpaaGreatNw6
import Derived.Laws.CopyRow
import Derived.Laws.CopyOwn
namespace Go.Proofs.YtdodockemkmmpaaGreat
open Go.RowKit
set_option maxRecDepth 100000

theorem cells_of_vc {w : World} {b off : Nat} {M : List Lv} (h : ∀ j (hj : j < M.length), w.cell? ⟨b, off + j * 3, none⟩ = some (.string M[j].1) ∧ w.cell? ⟨b, off + j * 3 + 1, none⟩ = some (.int .i64 M[j].2.1) ∧ w.cell? ⟨b, off + j * 3 + 2, none⟩ = some (.int .i64 M[j].2.2)) :
    ∀ j u, (vc M)[j]? = some u → w.cell? ((⟨b, off, none⟩ : Addr).add j) = some u := by
  intro j u hu
  have hj : j < M.length * 3 := by
    have := (List.getElem?_eq_some_iff.1 hu).1
    rwa [vc_len] at this
  rw [Addr.add_lit]
  obtain ⟨i, hi⟩ : ∃ i, j = i * 3 ∨ j = i * 3 + 1 ∨ j = i * 3 + 2 := ⟨j / 3, by omega⟩
  have hin : i < M.length := by omega
  have e := vc_at M i hin
  rcases hi with rfl | rfl | rfl
  · rw [e.1] at hu
    cases hu
    exact (h i hin).1
  · rw [e.2.1] at hu
    cases hu
    exact (h i hin).2.1
  · rw [e.2.2] at hu
    cases hu
    exact (h i hin).2.2
theorem run_copyV (w : World) (ty : TypeId) (g dLen dCap : Nat) (a : Addr) (sLen sCap : Nat) (cur : Array Value) (t : TypeId) (cs : List Value)
    (hg : w.heap[g]? = some (.cells cur t (0, 0))) (hn : cs.length = Nat.min sLen dLen * 3)
    (hsrc : ∀ j v, cs[j]? = some v → w.cell? (a.add j) = some v) (hfit : 0 + cs.length ≤ cur.size) (h1 : ∀ v ∈ cs, v.oneCell' = true) :
    (Builtin.copy_ #[28, 28] ty #[.slice (some ⟨g, 0, none⟩) dLen dCap, .slice (some a) sLen sCap]).run Tryz.prog w =
      .ok (goInt (Nat.min sLen dLen)) (w.setRow g (cur.toList.take 0 ++ cs ++ cur.toList.drop (0 + cs.length)).toArray) := by
  have hl := run_loadCells_list (P := Tryz.prog) w a cs hsrc
  have hst := run_storeCells_at Tryz.prog g 0 t cs 0 cur w hg (by simpa using hfit) h1
  obtain ⟨i, hi, hz, hsz, hby⟩ := info_parts lvinfo
  simp [Builtin.copy_, run_underlying Tryz.underlying28, Builtin.lenOf, Builtin.firstCells, sizeOf, typeInfo, hi, hsz, ← hn, hl, hst]
theorem wpList_copyV {w w' : World} {ops : Array Oper} {rest : List Oper} {o : Oper} {a : Act} {Q : Exit → Act → World → Prop} (hg : o.guard = none) (m x : Operand) (hop : o.op = Op.call { callee := Callee.builtin Builtin.copy, args := #[m, x], argTypes := #[28, 28] })
    {mv key r : Value} (hm : a.eval m = mv) (hx : a.eval x = key) (hrun : (Builtin.copy_ #[28, 28] o.type #[mv, key]).run Tryz.prog w = .ok r w') (hK : wpList Tryz.prog ops Q rest (a.put o.dst r) w') :
    wpList Tryz.prog ops Q (o :: rest) a w := by
  refine wpList_plain hg fun K' hK' => ?_
  unfold Oper.wp
  simp [execOp, hop, resolve, invoke, builtin, hm, hx, hrun, Result.andThen]
  exact hK' _ _ hK
theorem run_mkLv (n : Nat) (hn : n ≤ 1000000) (w : World) : ∃ cur : Array Value, cur.size = n * 3 ∧ (Instr.makeSlice 28 (.int .i64 (n : Int)) (.int .i64 (n : Int))).run Tryz.prog w = .ok (.slice (some ⟨w.heap.size, 0, none⟩) n n) (w.alloc (.cells cur 46)) := by
  obtain ⟨i, hi, hz, hs, hb⟩ := info_parts lvinfo
  have := run_make (P := Tryz.prog) w 28 46 i _ Tryz.underlying28 hi hz .i64 .i64 (n : Int) (n : Int) (by omega) (by omega) (by rw [hb]; omega) (by omega)
  rw [hs] at this
  simp only [Int.toNat_natCast] at this
  exact ⟨_, by rw [size_madeCells], this⟩
set_option maxHeartbeats 1000000 in
theorem copiedLv_any (ao : Option Addr) (cap : Nat) (L : List Lv) (w : World) (hR : RLv w (.slice ao L.length cap) L) (hl : L.length ≤ 1000000) (h0 : 0 < L.length) :
    Calls Tryz.prog 27 #[.slice ao L.length cap] w fun e w' => e = .returned (.slice (some ⟨w.heap.size, 0, none⟩) L.length L.length) ∧ w'.heap[w.heap.size]? = some (.cells (vc L).toArray 46 (0, 0)) ∧ w'.heap.size = w.heap.size + 1 ∧ Below w.heap.size w w' := by
  rcases hR with ⟨rfl, _⟩ | ⟨b, off, cp, hv, hcp, hcell⟩
  · simp at h0
  cases hv
  obtain ⟨cur, hcur, hmk⟩ := run_mkLv L.length hl w
  obtain ⟨W, hW⟩ : ∃ W, w.alloc (.cells cur 46) = W := ⟨_, rfl⟩
  rw [hW] at hmk
  have HRW : W.heap[w.heap.size]? = some (.cells cur 46 (0, 0)) := by rw [← hW]; exact heap_alloc_new w _
  have bW : Below w.heap.size w W := by rw [← hW]; exact (Below.refl _ _).alloc (Nat.le_refl _) _
  have zW : W.heap.size = w.heap.size + 1 := by rw [← hW, World.size_alloc]
  have hrun := run_copyV W 3 w.heap.size L.length L.length ⟨b, off, none⟩ L.length cap cur 46 (vc L) HRW (by rw [vc_len]; simp) (cells_of_vc (fun j hj => ⟨below_cells bW _ _ (hcell j hj).1, below_cells bW _ _ (hcell j hj).2.1, below_cells bW _ _ (hcell j hj).2.2⟩)) (by rw [vc_len, hcur]; omega) (vc_one _)
  have e : (cur.toList.take 0 ++ vc L ++ cur.toList.drop (0 + (vc L).length)).toArray = (vc L).toArray := by
    have : cur.toList.drop (0 + (vc L).length) = [] := List.drop_eq_nil_of_le (by rw [vc_len, Array.length_toList, hcur]; omega)
    rw [this]
    simp
  rw [e] at hrun
  obtain ⟨W2, hW2⟩ : ∃ W2, W.setRow w.heap.size (vc L).toArray = W2 := ⟨_, rfl⟩
  have E2 := hid (show W2.heap[w.heap.size]? = some (.cells (vc L).toArray 46 (0, 0)) by rw [← hW2]; exact setRow_heap W _ _ _ _ _ HRW)
  have B2 := hid (show Below w.heap.size w W2 by rw [← hW2]; exact below_setRow bW (Nat.le_refl _) _)
  have Z2 := hid (show W2.heap.size = w.heap.size + 1 by rw [← hW2, ← zW]; simp [World.setRow])
  rw [hW2] at hrun
  have hne : ¬ (L.length : Int) = 0 := by omega
  have hne2 : L ≠ [] := fun e => by rw [e] at h0; simp at h0
  clear hcell hcp HRW bW zW hW hW2 e hcur
  go_enter Tryz.func27, Tryz.ntmps27
  go_wp2
  go_ret
  exact ⟨rfl, E2.out, Z2.out, B2.out⟩
end Go.Proofs.YtdodockemkmmpaaGreat
