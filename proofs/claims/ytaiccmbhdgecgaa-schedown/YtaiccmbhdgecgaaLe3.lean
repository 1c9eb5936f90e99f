/-
  Least: a clone, and one pick taken out of a list of the call's own.
-/
import Derived.Test.YtaiccmbhdgecgaaLe2
import Derived.Test.YtaiccmbhdgecgaaShelf
import Derived.Laws.OwnMore
namespace Go.Proofs.Ytaiccmbhdgecgaa
open Go.RowKit
set_option maxRecDepth 100000

theorem le_equalIn_slice_nil (w : World) (n : Nat) (ad : Addr) (l c : Nat) : (Op.equalIn (n + 1) 22 (.slice (some ad) l c) (.slice none 0 0)).run Try.prog w = .ok false w := by
  simp [Op.equalIn, run_underlying Try.underlying22]
theorem le_eql_slice_nil (w : World) (ad : Addr) (l c : Nat) : (binOp .eql 22 (.slice (some ad) l c) (.slice none 0 0)).run Try.prog w = .ok (.bool false) w := by
  simp only [binOp]
  simp [Op.equal, Op.maxDepth, le_equalIn_slice_nil w 9999 ad l c]
set_option maxHeartbeats 400000 in
theorem le_clone_any (v : Value) (R : List Int) (w : World) (hr : RI w v R) (hl : R.length * 8 ≤ 140737488355328) :
    Calls Try.prog 33 #[v] w fun e w' => (∃ v', e = .returned v' ∧ OI w' w.heap.size v' R) ∧ Below w.heap.size w w' := by
  have hr0 := hr
  obtain ⟨ao, cap, rfl, hc, hn, hcell⟩ := hr
  cases ao with
  | none =>
    obtain rfl := hn rfl
    have : R = [] := List.eq_nil_of_length_eq_zero (by omega)
    subst this
    have hs : ∀ w : World, (binOp .eql 22 (.slice none 0 0) (.slice none 0 0)).run Try.prog w = .ok (.bool true) w := fun w => by kernel_rfl
    clear hcell hr0
    go_enter Try.func33, Try.ntmps33
    go_wp2
    go_ret
    exact ⟨⟨_, rfl, OI.nil _ _⟩, Below.refl _ _⟩
  | some ad =>
    have hs : ∀ w : World, (binOp .eql 22 (.slice (some ad) R.length cap) (.slice none 0 0)).run Try.prog w = .ok (.bool false) w := fun w => le_eql_slice_nil w ad _ _
    have HR := hid hr0
    have HO := hid (show OI (w.alloc (.cells #[] 3)) w.heap.size (.slice (some ⟨w.heap.size, 0, none⟩) 0 0) [] from World.ownsRow_lit w #[] 0 (Nat.le_refl _) (by unfold maxLen; omega) rfl)
    have B1 := hid ((Below.refl w.heap.size w).alloc (Nat.le_refl _) (.cells #[] 3))
    clear hcell hr0
    go_enter Try.func33, Try.ntmps33
    go_wp2_with (at_builtin; refine wpList_appI rfl _ _ rfl w.heap.size _ [] rfl HO.out _ R rfl (HR.out.alloc _) (by simpa using hl) (by simp) ?hnext)
    case hnext =>
      intro v1 w1 ho1 hg1
      have H1 := hid ho1
      have B2 := hid (B1.out.grown hg1 (by simp) (fun k hk => HO.out.block_ge k hk))
      clear ho1 hg1
      go_wp2
      go_ret
      exact ⟨⟨_, rfl, H1.out⟩, B2.out⟩

theorem heap_setCells (g : Nat) : ∀ (vs : List Value) (o : Nat) (w : World) (cur : Array Value) (t : TypeId), w.heap[g]? = some (.cells cur t (0, 0)) → ∃ cur', (w.setCells g o vs).heap[g]? = some (.cells cur' t (0, 0)) ∧ cur'.size = cur.size ∧ ∀ j, j < cur.size → cur'[j]? = if o ≤ j ∧ j < o + vs.length then vs[j - o]? else cur[j]?
  | [], o, w, cur, t, h => ⟨cur, h, rfl, fun j _ => by rw [if_neg (by simp only [List.length_nil]; omega)]⟩
  | v :: vs, o, w, cur, t, h => by
    obtain ⟨c2, e1, e2, e3⟩ := heap_setCells g vs (o + 1) (w.setCell ⟨g, o, none⟩ v) _ t (heap_setCell_same w g o _ _ v h)
    refine ⟨c2, e1, by rw [e2]; simp, fun j hj => ?_⟩
    rw [e3 j (by simpa using hj)]
    by_cases c : j = o
    · subst c
      rw [if_neg (by omega), if_pos ⟨Nat.le_refl _, by simp⟩, Nat.sub_self]
      simp [hj]
    · by_cases c2 : o + 1 ≤ j ∧ j < o + 1 + vs.length
      · rw [if_pos c2, if_pos ⟨by omega, by simp; omega⟩, show j - o = (j - (o + 1)) + 1 by omega]
        simp
      · rw [if_neg c2, if_neg (by simp; omega), Array.getElem?_setIfInBounds, if_neg (Ne.symm c)]
theorem setCells_kw (g : Nat) : ∀ (vs : List Value) (o : Nat) (w : World), (w.setCells g o vs).os = w.os ∧ (w.setCells g o vs).tape = w.tape ∧ (w.setCells g o vs).output = w.output ∧ w.heap.size ≤ (w.setCells g o vs).heap.size ∧ ∀ k, k ≠ g → (w.setCells g o vs).heap[k]? = w.heap[k]?
  | [], _, _ => ⟨rfl, rfl, rfl, Nat.le_refl _, fun _ _ => rfl⟩
  | v :: vs, o, w => by
    obtain ⟨h1, h2, h3, h4, h5⟩ := setCells_kw g vs (o + 1) (w.setCell ⟨g, o, none⟩ v)
    exact ⟨h1, h2, h3, Nat.le_trans (by simp) h4, fun k hk => (h5 k hk).trans (heap_setCell_other w ⟨g, o, none⟩ k v hk)⟩
/-- one taken out of a list of the call's own -/
theorem delete_any (v : Value) (R : List Int) (i base : Nat) (w : World) (ho : OI w base v R) (hi : i < R.length) (hR : R.length ≤ 512) :
    Calls Try.prog 48 #[v, .int .i64 (i : Int), .int .i64 ((i : Int) + 1)] w fun e w' => (∃ v', e = .returned v' ∧ OI w' base v' (R.eraseIdx i) ∧ v'.ownBlock = v.ownBlock) ∧ w.grownBy w' v.ownBlock := by
  rcases ho.2 with ⟨_, h0⟩ | ⟨g, cap, cur, rfl, hg, hh, hn, hm, hs, ht⟩
  · omega
  have hcell : ∀ j, j < R.length → cur[j]? = some (.int .i64 (R.getD j 0)) := by
    intro j hj
    have h1 := congrArg (·[j]?) ht
    simp only [Nat.mul_one, List.getElem?_take, if_pos hj] at h1
    rw [ic_at R j hj] at h1
    rw [List.getD_eq_getElem?_getD, List.getElem?_eq_getElem hj]
    simpa using h1
  have hc2 : ∀ j, j < R.length → w.cell? ⟨g, 0 + j, none⟩ = some (.int .i64 (R.getD j 0)) := fun j hj => by rw [Nat.zero_add, cell_of_row w g j _ _ _ hh]; exact hcell j hj
  have hf : ∀ j, j < R.length → w.frozen? ⟨g, 0 + j, none⟩ = false := fun j _ => by simp [World.frozen?, hh]
  have hcall := Try.slices_Delete_int_cells g 0 R.length cap i (i + 1) R w (Nat.le_refl _) hn (by unfold maxLen at hm; omega) (by omega) (by omega) hc2 hf
  rw [show ((i + 1 : Nat) : Int) = (i : Int) + 1 by omega] at hcall
  refine hcall.mono ?_
  rintro e w' ⟨rfl, q, rfl⟩
  have hh2 : (w.drewN q).heap[g]? = some (.cells cur 3 (0, 0)) := hh
  obtain ⟨vs, hvs⟩ : ∃ vs, (((R.take R.length).take i ++ (R.take R.length).drop (i + 1) ++ List.replicate (i + 1 - i) 0).map (Value.int .i64)) = vs := ⟨_, rfl⟩
  rw [hvs]
  have hve : vs = ic (R.eraseIdx i) ++ [.int .i64 0] := by
    rw [← hvs, List.take_length, List.eraseIdx_eq_take_drop_succ, show i + 1 - i = 1 by omega]
    simp [ic]
  have hel : (R.eraseIdx i).length = R.length - 1 := List.length_eraseIdx_of_lt hi
  obtain ⟨cur', e1, e2, e3⟩ := heap_setCells g vs 0 (w.drewN q) cur _ hh2
  obtain ⟨k1, k2, k3, k4, k5⟩ := setCells_kw g vs 0 (w.drewN q)
  have hvl : vs.length = R.length := by rw [hve, List.length_append, ic_len, hel]; simp; omega
  refine ⟨⟨_, rfl, ⟨by rw [ic_len, Nat.mul_one], .inr ⟨g, cap, cur', ?_, hg, e1, ?_, hm, by rw [e2]; exact hs, ?_⟩⟩, rfl⟩, ⟨k1, k2, k3, k4, fun k _ hk => k5 k (fun e => hk (by rw [e]; rfl))⟩⟩
  · rw [hel, show i + 1 - i = 1 by omega]
  · rw [hel]; omega
  · apply List.ext_getElem?
    intro j
    rw [Nat.mul_one, List.getElem?_take]
    split
    · rename_i hj
      rw [hel] at hj
      rw [Array.getElem?_toList, e3 j (by omega), if_pos ⟨by omega, by omega⟩, Nat.sub_zero, hve, List.getElem?_append, ic_len, hel, if_pos hj]
    · rename_i hj
      exact (List.getElem?_eq_none (by rw [ic_len]; omega)).symm
end Go.Proofs.Ytaiccmbhdgecgaa
