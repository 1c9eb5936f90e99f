/-
  Dfz: Sheets, the document's side: its Fault with the other layer's number, an api.Cell: kept whole.
-/
import Derived.Test.YtmgfdnccmeahjaaGreatDoorZM
namespace Go.Proofs.YtmgfdnccmeahjaaGreatDoor
open Go.RowKit
set_option maxRecDepth 100000
set_option linter.unusedVariables false
set_option linter.unusedSimpArgs false

/-- a Fault of the document's, with the other layer's number -/
def fVw (c l k i n : Nat) : Value := .agg #[.int .i64 (c : Int), .int .i64 (l : Int), .int .i64 (k : Int), .int .i64 (i : Int), .int .i64 (n : Int)]
def fAw (c l k i n : Nat) : Array Value := #[.int .i64 (c : Int), .int .i64 (l : Int), .int .i64 (k : Int), .int .i64 (i : Int), .int .i64 (n : Int)]
def FWw (w : World) (b : Nat) (c l k i n : Nat) : Prop := w.heap[b]? = some (.cells (fAw c l k i n) 62 (0, 0))
theorem fVw_zero (c l k i : Nat) : fVw c l k i 0 = fV c l k i := rfl
theorem run_fLdw {w : World} {b c l k i n : Nat} (h : FWw w b c l k i n) : (fLd ⟨b, 0, none⟩).run Tryz.prog w = .ok (fVw c l k i n) w :=
  run_loadVar_row _ _ _ _ (fAw c l k i n) (0, 0) _ h Tryz.underlying62 rfl fsize
theorem run_fStw {w : World} {b c l k i : Nat} (h : FW w b c l k i) (c' l' k' i' n' : Nat) :
    ∃ W, (fSt ⟨b, 0, none⟩ (fVw c' l' k' i' n')).run Tryz.prog w = .ok () W ∧ FWw W b c' l' k' i' n' ∧ w.grownBy W (some b) := by
  refine ⟨w.setRow b (fAw c' l' k' i' n'), run_storeVar_row w b _ _ (fA c l k i) (fAw c' l' k' i' n') h fsize rfl (by simp [fAw]; simp [Value.oneCell']), ?_, ⟨rfl, rfl, rfl, by simp [World.setRow], fun k _ hk => ?_⟩⟩
  · unfold FW at h
    unfold FWw
    simp [World.setRow, Array.getElem?_modify, h]
  · have : b ≠ k := fun e => hk (by rw [e])
    simp [World.setRow, Array.getElem?_modify, this]
theorem run_fStNw (w : World) (c l k i n : Nat) :
    ∃ W, (fSt ⟨w.heap.size, 0, none⟩ (fVw c l k i n)).run Tryz.prog (w.alloc (.cells #[.int .i64 0, .int .i64 0, .int .i64 0, .int .i64 0, .int .i64 0] 62)) = .ok () W ∧ FWw W w.heap.size c l k i n ∧ Below w.heap.size w W ∧ w.heap.size < W.heap.size := by
  obtain ⟨W, h1, h2, h3⟩ := run_fStw (FW.new w) c l k i n
  exact ⟨W, h1, h2, ((Below.refl _ w).alloc (Nat.le_refl _) _).grown h3 (by simp) (fun b hb => by cases hb; exact Nat.le_refl _), (Array.getElem?_eq_some_iff.1 h2).1⟩
theorem FWw.big {w w' : World} {b c l k i n : Nat} (h : FWw w b c l k i n) (hb : Below w.heap.size w w') : FWw w' b c l k i n := (hb.block b (Array.getElem?_eq_some_iff.1 h).1).trans h
def kLd (a : Addr) : Sem Value := loadVar 52 a
theorem kLd_op (a : Addr) : loadVar 52 a = kLd a := rfl
def kSt (a : Addr) (v : Value) : Sem Unit := storeVar 52 a v
theorem kSt_op (a : Addr) (v : Value) : storeVar 52 a v = kSt a v := rfl
theorem ksize : (Tryz.prog.info? 52).map (·.size) = some 3 := by kernel_rfl
/-- a Cell in a block -/
def KW (w : World) (b : Nat) (k : Int) (t : ByteArray) (n : Int) : Prop := w.heap[b]? = some (.cells #[.int .i64 k, .string t, .int .i64 n] 52 (0, 0))
def kV (k : Int) (t : ByteArray) (n : Int) : Value := .agg #[.int .i64 k, .string t, .int .i64 n]
theorem run_kLd {w : World} {b : Nat} {k : Int} {t : ByteArray} {n : Int} (h : KW w b k t n) : (kLd ⟨b, 0, none⟩).run Tryz.prog w = .ok (kV k t n) w :=
  run_loadVar_row _ _ _ _ #[.int .i64 k, .string t, .int .i64 n] (0, 0) _ h Tryz.underlying52 rfl ksize
theorem run_kSt {w : World} {b : Nat} {k : Int} {t : ByteArray} {n : Int} (h : KW w b k t n) (k' : Int) (t' : ByteArray) (n' : Int) :
    ∃ W, (kSt ⟨b, 0, none⟩ (kV k' t' n')).run Tryz.prog w = .ok () W ∧ KW W b k' t' n' ∧ w.grownBy W (some b) := by
  refine ⟨w.setRow b #[.int .i64 k', .string t', .int .i64 n'], run_storeVar_row w b _ _ #[.int .i64 k, .string t, .int .i64 n] #[.int .i64 k', .string t', .int .i64 n'] h ksize rfl (by simp; simp [Value.oneCell']), ?_, ⟨rfl, rfl, rfl, by simp [World.setRow], fun k _ hk => ?_⟩⟩
  · unfold KW at h ⊢
    simp [World.setRow, Array.getElem?_modify, h]
  · have : b ≠ k := fun e => hk (by rw [e])
    simp [World.setRow, Array.getElem?_modify, this]
theorem KW.big {w w' : World} {b : Nat} {k : Int} {t : ByteArray} {n : Int} (h : KW w b k t n) (hb : Below w.heap.size w w') : KW w' b k t n := (hb.block b (Array.getElem?_eq_some_iff.1 h).1).trans h
/-- a new Cell, written -/
theorem run_kStN (w : World) (k : Int) (t : ByteArray) (n : Int) :
    ∃ W, (kSt ⟨w.heap.size, 0, none⟩ (kV k t n)).run Tryz.prog (w.alloc (.cells #[.int .i64 0, .string ⟨#[]⟩, .int .i64 0] 52)) = .ok () W ∧ KW W w.heap.size k t n ∧ Below w.heap.size w W ∧ w.heap.size < W.heap.size := by
  obtain ⟨W, h1, h2, h3⟩ := run_kSt (show KW (w.alloc (.cells #[.int .i64 0, .string ⟨#[]⟩, .int .i64 0] 52)) w.heap.size 0 ⟨#[]⟩ 0 from heap_alloc_new w _) k t n
  exact ⟨W, h1, h2, ((Below.refl _ w).alloc (Nat.le_refl _) _).grown h3 (by simp) (fun b hb => by cases hb; exact Nat.le_refl _), (Array.getElem?_eq_some_iff.1 h2).1⟩
end Go.Proofs.YtmgfdnccmeahjaaGreatDoor
