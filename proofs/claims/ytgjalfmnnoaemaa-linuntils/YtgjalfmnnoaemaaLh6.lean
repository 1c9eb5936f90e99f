/-
  lin: a new block for an op; is it a history? The program's Check.
-/
import Derived.Test.YtgjalfmnnoaemaaLh5
namespace Go.Proofs.Ytgjalfmnnoaemaa
open Go.RowKit
set_option maxRecDepth 100000

/-- the zero op's cells -/
def opZ : Array Value := #[.string ⟨#[]⟩, .int .i64 0, .slice none 0 0, .string ⟨#[]⟩, .int .i64 0, .int .i64 0, .string ⟨#[]⟩, .int .i64 0, .int .i64 0, .slice none 0 0, .int .i64 0, .int .i64 0, .int .i64 0, .bool false]
def opSt (a : Addr) (v : Value) : Sem Unit := storeVar 35 a v
theorem opSt_op (a : Addr) (v : Value) : storeVar 35 a v = opSt a v := rfl
theorem opsize : (Try.prog.info? 35).map (·.size) = some 14 := by kernel_rfl
/-- an op in a block of its own -/
def OB (W : World) (b : Nat) (x : Opx) (v1 v2 : Value) : Prop := W.heap[b]? = some (.cells (opC x v1 v2).toArray 35 (0, 0))
theorem OB.at {W : World} {b : Nat} {x : Opx} {v1 v2 : Value} (h : OB W b x v1 v2) : Op2 W b 0 x v1 v2 := fun j u hj => by
  rw [Lib.cell_of_heap h, Nat.zero_add]
  simpa using hj
theorem OB.later {W W' : World} {b : Nat} {x : Opx} {v1 v2 : Value} (h : OB W b x v1 v2) (hb : Below W.heap.size W W') : OB W' b x v1 v2 := (hb.block b (Array.getElem?_eq_some_iff.1 h).1).trans h
theorem opC_one {x : Opx} {v1 v2 : Value} (h1 : v1.oneCell' = true) (h2 : v2.oneCell' = true) : ∀ u ∈ opC x v1 v2, u.oneCell' = true := by
  intro u hu
  simp only [opC, List.mem_cons, List.not_mem_nil, or_false] at hu
  rcases hu with rfl | rfl | rfl | rfl | rfl | rfl | rfl | rfl | rfl | rfl | rfl | rfl | rfl | rfl <;> first | rfl | assumption
theorem op_new (w : World) (x : Opx) {v1 v2 : Value} (h1 : v1.oneCell' = true) (h2 : v2.oneCell' = true) :
    ∃ W, (opSt ⟨w.heap.size, 0, none⟩ (opA x v1 v2)).run Try.prog (w.alloc (.cells #[.string ⟨#[]⟩, .int .i64 0, .slice none 0 0, .string ⟨#[]⟩, .int .i64 0, .int .i64 0, .string ⟨#[]⟩, .int .i64 0, .int .i64 0, .slice none 0 0, .int .i64 0, .int .i64 0, .int .i64 0, .bool false] 35)) = .ok () W ∧ Below w.heap.size w W ∧ W.heap.size = w.heap.size + 1 ∧ OB W w.heap.size x v1 v2 := by
  refine ⟨w.alloc (.cells (opC x v1 v2).toArray 35), ?_, (Below.refl _ _).alloc (Nat.le_refl _) _, by simp, heap_alloc_new w _⟩
  unfold opSt opA
  exact run_storeVar_new w _ opZ (opC x v1 v2).toArray opsize rfl (by rw [Array.all_eq_true_iff_forall_mem]; intro u hu; exact opC_one h1 h2 u (by simpa using hu))
theorem RLn.one {w : World} {v : Value} {L : List Ln} (h : RLn w v L) : v.oneCell' = true := by obtain ⟨_, _, rfl⟩ := h.form; rfl
theorem RLv.one {w : World} {v : Value} {L : List Lv} (h : RLv w v L) : v.oneCell' = true := by obtain ⟨_, _, rfl⟩ := h.form; rfl
/-- an op's fault -/
def oF (x : Opx) : Int := if x.beg < 0 ∨ x.fin < x.beg ∨ 4611686018427387904 < x.fin then 160 else if x.opn && !zR x.rep then 161 else 0
/-- what Check answers -/
def CkR (L : List Opx) (e n : Int) : Prop :=
  (4096 < L.length ∧ e = 162 ∧ n = 4096) ∨ (L.length ≤ 4096 ∧ ∃ i, ∃ h : i < L.length, oF L[i] ≠ 0 ∧ (∀ j (hj : j < i), oF (L[j]'(by omega)) = 0) ∧ e = oF L[i] ∧ n = i) ∨ (L.length ≤ 4096 ∧ (∀ j (hj : j < L.length), oF L[j] = 0) ∧ e = 0 ∧ n = 0)
theorem CkR.same {L : List Opx} {e n e' n' : Int} (h : CkR L e n) (k : CkR L e' n') : e = e' ∧ n = n' := by
  rcases h with ⟨a, rfl, rfl⟩ | ⟨a, i, hi, f, g, rfl, rfl⟩ | ⟨a, g, rfl, rfl⟩ <;> rcases k with ⟨b, rfl, rfl⟩ | ⟨b, j, hj, f', g', rfl, rfl⟩ | ⟨b, g', rfl, rfl⟩
  · exact ⟨rfl, rfl⟩
  · omega
  · omega
  · omega
  · rcases Nat.lt_trichotomy i j with h | rfl | h
    · exact absurd (g' i h) f
    · exact ⟨rfl, rfl⟩
    · exact absurd (g j h) f'
  · exact absurd (g' i hi) f
  · omega
  · exact absurd (g j hj) f'
  · exact ⟨rfl, rfl⟩
/-- an op without a fault, or with which -/
theorem oF_parts (x : Opx) : (x.beg < 0 ∧ oF x = 160) ∨ (¬ x.beg < 0 ∧ x.fin < x.beg ∧ oF x = 160) ∨ (¬ x.beg < 0 ∧ ¬ x.fin < x.beg ∧ 4611686018427387904 < x.fin ∧ oF x = 160) ∨
    (¬ x.beg < 0 ∧ ¬ x.fin < x.beg ∧ ¬ 4611686018427387904 < x.fin ∧ x.opn = true ∧ zR x.rep = false ∧ oF x = 161) ∨ (¬ x.beg < 0 ∧ ¬ x.fin < x.beg ∧ ¬ 4611686018427387904 < x.fin ∧ x.opn = true ∧ zR x.rep = true ∧ oF x = 0) ∨ (¬ x.beg < 0 ∧ ¬ x.fin < x.beg ∧ ¬ 4611686018427387904 < x.fin ∧ x.opn = false ∧ oF x = 0) := by
  unfold oF
  by_cases h1 : x.beg < 0
  · exact .inl ⟨h1, if_pos (.inl h1)⟩
  by_cases h2 : x.fin < x.beg
  · exact .inr (.inl ⟨h1, h2, if_pos (.inr (.inl h2))⟩)
  by_cases h3 : 4611686018427387904 < x.fin
  · exact .inr (.inr (.inl ⟨h1, h2, h3, if_pos (.inr (.inr h3))⟩))
  have h0 : ¬ (x.beg < 0 ∨ x.fin < x.beg ∨ 4611686018427387904 < x.fin) := by omega
  rw [if_neg h0]
  cases h4 : x.opn
  · exact .inr (.inr (.inr (.inr (.inr ⟨h1, h2, h3, rfl, by simp⟩))))
  · cases h5 : zR x.rep
    · exact .inr (.inr (.inr (.inl ⟨h1, h2, h3, rfl, rfl, by simp⟩)))
    · exact .inr (.inr (.inr (.inr (.inl ⟨h1, h2, h3, rfl, rfl, by simp⟩))))
end Go.Proofs.Ytgjalfmnnoaemaa
