/-
  plan: four complex numbers kept whole; what Smooth answers is no NaN; halves.
-/
import Derived.Test.YtgnnopjkbmbjbabDoorFq4
import Derived.Test.YtgnnopjkbmbjbabDoorFs3
namespace Go.Proofs.YtgnnopjkbmbjbabDoor
open Go.RowKit
set_option maxRecDepth 100000
set_option linter.unusedSimpArgs false

def cpLd (a : Addr) : Sem Value := loadVar 31 a
theorem cpLd_op (a : Addr) : loadVar 31 a = cpLd a := rfl
def cpSt (a : Addr) (v : Value) : Sem Unit := storeVar 31 a v
theorem cpSt_op (a : Addr) (v : Value) : storeVar 31 a v = cpSt a v := rfl
theorem cpsize : (Tryd.prog.info? 31).map (·.size) = some 4 := by kernel_rfl
/-- four complex numbers, four pairs, in a block -/
def CB (w : World) (b : Nat) (f : Nat → Nat × Nat) : Prop := w.heap[b]? = some (.cells (pA f 4) 31 (0, 0))
def PB (w : World) (b : Nat) (f : Nat → Nat × Nat) : Prop := w.heap[b]? = some (.cells (qA f 4) 36 (0, 0))
theorem CB.later {w w' : World} {b : Nat} {f : Nat → Nat × Nat} (h : CB w b f) (hb : Below w.heap.size w w') : CB w' b f := (hb.block b (Array.getElem?_eq_some_iff.1 h).1).trans h
theorem PB.later {w w' : World} {b : Nat} {f : Nat → Nat × Nat} (h : PB w b f) (hb : Below w.heap.size w w') : PB w' b f := (hb.block b (Array.getElem?_eq_some_iff.1 h).1).trans h
theorem CB.keep {w w' : World} {b : Nat} {f : Nat → Nat × Nat} {row : Option Nat} (h : CB w b f) (hg : w.grownBy w' row) (hr : row ≠ some b) : CB w' b f := (hg.block b (Array.getElem?_eq_some_iff.1 h).1 (fun e => hr e.symm)).trans h
theorem PB.keep {w w' : World} {b : Nat} {f : Nat → Nat × Nat} {row : Option Nat} (h : PB w b f) (hg : w.grownBy w' row) (hr : row ≠ some b) : PB w' b f := (hg.block b (Array.getElem?_eq_some_iff.1 h).1 (fun e => hr e.symm)).trans h
theorem CB.lt {w : World} {b : Nat} {f : Nat → Nat × Nat} (h : CB w b f) : b < w.heap.size := (Array.getElem?_eq_some_iff.1 h).1
theorem PB.lt {w : World} {b : Nat} {f : Nat → Nat × Nat} (h : PB w b f) : b < w.heap.size := (Array.getElem?_eq_some_iff.1 h).1
theorem CB.new (w : World) : CB (w.alloc (.cells #[.complex .f64 0 0, .complex .f64 0 0, .complex .f64 0 0, .complex .f64 0 0] 31)) w.heap.size (fun _ => (0, 0)) := heap_alloc_new w _
theorem PB.new (w : World) : PB (w.alloc (.cells #[.float .f64 0, .float .f64 0, .float .f64 0, .float .f64 0, .float .f64 0, .float .f64 0, .float .f64 0, .float .f64 0] 36)) w.heap.size (fun _ => (0, 0)) := heap_alloc_new w _
theorem CB.load {w : World} {b : Nat} {f : Nat → Nat × Nat} (h : CB w b f) : (cpLd ⟨b, 0, none⟩).run Tryd.prog w = .ok (cp4 f) w :=
  run_loadVar_row _ _ _ _ (pA f 4) (0, 0) _ h Tryd.underlying31 rfl cpsize
theorem PB.load {w : World} {b : Nat} {f : Nat → Nat × Nat} (h : PB w b f) : (ptLd ⟨b, 0, none⟩).run Tryd.prog w = .ok (pt8 f) w := run_ptLd h
theorem CB.store {w : World} {b : Nat} {f : Nat → Nat × Nat} (h : CB w b f) (g : Nat → Nat × Nat) : ∃ W, (cpSt ⟨b, 0, none⟩ (cp4 g)).run Tryd.prog w = .ok () W ∧ CB W b g ∧ w.grownBy W (some b) := by
  refine ⟨w.setRow b (pA g 4), run_storeVar_row w b _ _ (pA f 4) (pA g 4) h cpsize rfl (by simp [pA]; simp [Value.oneCell']), ?_, ⟨rfl, rfl, rfl, by simp [World.setRow], fun k _ hk => ?_⟩⟩
  · show (w.setRow b (pA g 4)).heap[b]? = _
    have h' : w.heap[b]? = some (.cells (pA f 4) 31 (0, 0)) := h
    simp [World.setRow, Array.getElem?_modify, h']
  · have : b ≠ k := fun e => hk (by rw [e])
    simp [World.setRow, Array.getElem?_modify, this]
theorem PB.store {w : World} {b : Nat} {f : Nat → Nat × Nat} (h : PB w b f) (g : Nat → Nat × Nat) : ∃ W, (ptSt ⟨b, 0, none⟩ (pt8 g)).run Tryd.prog w = .ok () W ∧ PB W b g ∧ w.grownBy W (some b) := run_ptSt h
theorem NN.nan {b c : Nat} (h : NN b c) : nanB b = false := by
  obtain ⟨s, v, hv, _⟩ := h
  exact hv.nan
theorem smO_nan {w rest : Nat} {L : List Int} (hw : NN w 1) (hr : NN rest 1) (hL : HOk L) (hl : L.length ≤ 4096) (k : Nat) (h : k ≤ L.length) : ∀ x ∈ smO w rest (L.take k), nanB x = false := by
  induction k with
  | zero => intro x hx; simp [smO] at hx
  | succ k ih =>
    obtain ⟨p, hp, np⟩ := smO_last hw hr hL hl k (by omega)
    rw [smO_take w rest L k (by omega)] at hp ⊢
    intro x hx
    rcases List.mem_append.1 hx with hx | hx
    · exact ih (by omega) x hx
    · simp at hx hp
      rw [hx, hp]
      exact np.nan
theorem smM_nan (L : List Int) (wt : Nat) : (∀ x ∈ smM L wt, nanB x = false) ∧ (smM L wt).length ≤ L.length := by
  unfold smM
  by_cases h : hE L = 0 ∧ wOk wt = true
  · rw [if_pos h]
    obtain ⟨z1, z2⟩ := hE_zero h.1
    obtain ⟨_, s2, s3⟩ := rsT_ok h.2
    have e1 := smO_nan s2 s3 z2 z1 L.length (Nat.le_refl _)
    have e2 := smO_len wt (rsT wt) L L.length (Nat.le_refl _)
    rw [List.take_length] at e1 e2
    exact ⟨e1, by omega⟩
  · rw [if_neg h]
    exact ⟨by simp, by simp⟩
def h2 (x : Int) : Int := x.tdiv 2
/-- the first n halved -/
def hvN (L : List Int) (n : Nat) : List Int := (L.take n).map h2 ++ L.drop n
theorem hvN_len (L : List Int) (n : Nat) : (hvN L n).length = L.length := by simp [hvN]; omega
theorem hvN_zero (L : List Int) : hvN L 0 = L := by simp [hvN]
theorem hvN_all (L : List Int) : hvN L L.length = L.map h2 := by simp [hvN]
theorem hvN_at (L : List Int) (n : Nat) (h : n < L.length) : (hvN L n)[n]'(by rw [hvN_len]; exact h) = L[n] := by
  have e : ((L.take n).map h2).length = n := by simp; omega
  unfold hvN
  rw [List.getElem_append_right (by omega)]
  simp only [e, Nat.sub_self, List.getElem_drop, Nat.add_zero]
theorem hvN_succ (L : List Int) (n : Nat) (h : n < L.length) : (hvN L n).set n (h2 L[n]) = hvN L (n + 1) := by
  have e : ((L.take n).map h2).length = n := by simp; omega
  unfold hvN
  rw [List.take_succ_eq_append_getElem h, List.map_append, List.append_assoc, List.set_append_right _ _ (by omega), e, Nat.sub_self, List.drop_eq_getElem_cons h]
  rfl
theorem map_take (L : List Int) (n : Nat) (h : n < L.length) : (L.take (n + 1)).map h2 = (L.take n).map h2 ++ [h2 L[n]] := by rw [List.take_succ_eq_append_getElem h, List.map_append]; rfl
def I64 (n : Int) : Prop := -9223372036854775808 ≤ n ∧ n ≤ 9223372036854775807
theorem half_in {x : Int} (h : I64 x) : -9223372036854775808 ≤ h2 x ∧ h2 x ≤ 9223372036854775807 := by
  obtain ⟨h1, h2'⟩ := h
  unfold h2
  rcases Int.le_total 0 x with h0 | h0
  · rw [Int.tdiv_eq_ediv_of_nonneg h0]; omega
  · have e : x.tdiv 2 = -((-x).tdiv 2) := by rw [Int.neg_tdiv, Int.neg_neg]
    rw [e, Int.tdiv_eq_ediv_of_nonneg (by omega)]; omega
end Go.Proofs.YtgnnopjkbmbjbabDoor
