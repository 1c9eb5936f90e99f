/-
  Draws: the program's mixer, the document's Mill.
-/
import Derived.Laws.Closers25b
import Derived.Laws.OwnMore
import Derived.Test.YtecjpjjcahanoabSc1
namespace Go.Proofs.Ytecjpjjcahanoab
open Go.RowKit
set_option maxRecDepth 100000

/-- a state of 64 bits in block b -/
def UBox (t : TypeId) (w : World) (b : Nat) (s : Int) : Prop := w.heap[b]? = some (.cells #[.int .u64 s] t (0, 0))
theorem UBox.facts {t : TypeId} {w : World} {b : Nat} {v : Int} (h : UBox t w b v) : w.cell? ⟨b, 0, none⟩ = some (.int .u64 v) ∧ w.frozen? ⟨b, 0, none⟩ = false ∧ b < w.heap.size :=
  ⟨by rw [Lib.cell_of_heap h]; rfl, Lib.frozen_of_heap h 0, (Array.getElem?_eq_some_iff.1 h).1⟩
theorem UBox.put {t : TypeId} {w : World} {b : Nat} {v : Int} (h : UBox t w b v) (v' : Int) : UBox t (w.setCell ⟨b, 0, none⟩ (.int .u64 v')) b v' := heap_setCell_same w b 0 _ _ _ h
theorem UBox.other {t : TypeId} {w : World} {b : Nat} {v : Int} (h : UBox t w b v) (p : Addr) (u : Value) (hp : p.block ≠ b) : UBox t (w.setCell p u) b v := (heap_setCell_other w p b u (fun e => hp e.symm)).trans h
theorem UBox.later {t : TypeId} {w w' : World} {b : Nat} {v : Int} (h : UBox t w b v) (hb : Below w.heap.size w w') : UBox t w' b v := (hb.block b h.facts.2.2).trans h

/-- the state behind a draw -/
def dS (s : Int) : Int := IntKind.u64.wrap (s + 11400714819323198485)
def xz (z k : Int) : Int := bits BinOp.xor IntKind.u64 z (z / k)
/-- what a draw takes the rest of -/
def dZ (s : Int) : Int := xz (IntKind.u64.wrap (xz (IntKind.u64.wrap (xz (dS s) 1073741824 * 13787848793156543929)) 134217728 * 10723151780598845931)) 2147483648
/-- a draw below n -/
def dv (s : Int) (n : Nat) : Nat := (dZ s).toNat % n
theorem dZ_pos (s : Int) : 0 ≤ dZ s := (bits_within BinOp.xor .u64 _ _).1
theorem dv_lt (s : Int) (n : Nat) (h : 1 ≤ n) : dv s n < n := Nat.mod_lt _ h
theorem dv_val (s : Int) (n : Nat) (h : 1 ≤ n) (h2 : n ≤ 100000) : wrap64 ((dZ s).tmod (n : Int)) = (dv s n : Int) := by
  have h1 := dZ_pos s
  have h3 := dv_lt s n h
  have e : (dZ s).tmod (n : Int) = (dv s n : Int) := by
    unfold dv
    conv => lhs; rw [show dZ s = (((dZ s).toNat : Nat) : Int) by omega]
    rfl
  rw [e]
  unfold wrap64
  omega
set_option maxHeartbeats 400000 in
theorem draw_any (b : Nat) (s : Int) (n : Nat) (w : World) (hn : 1 ≤ n) (hn2 : n ≤ 100000) (h : UBox 94 w b s) :
    Calls Try.prog 74 #[.pointer (some ⟨b, 0, none⟩), .int .i64 (n : Int)] w fun e w' => e = .returned (.int .i64 (dv s n : Int)) ∧ w' = w.setCell ⟨b, 0, none⟩ (.int .u64 (dS s)) := by
  obtain ⟨c0, f0, hlt⟩ := h.facts
  have HV := hid (dv_val s n hn hn2)
  clear h
  have hz : (n : Int) ≠ 0 := by omega
  go_enter Try.func74, Try.ntmps74
  go_wp2
  go_ret
  exact ⟨by rw [← HV.out]; rfl, rfl⟩
theorem dv_ex (s : Int) (n : Nat) (h : 1 ≤ n) : ∃ d : Nat, dv s n = d ∧ d < n := ⟨_, rfl, dv_lt s n h⟩
/-- a block so far: the state and the first i entries -/
def fA (s : Int) (n : Nat) : Nat → Int × List Int
  | 0 => (s, [])
  | i + 1 => if i < n then ((fA s n i).1, (fA s n i).2 ++ [(i : Int)]) else (dS (fA s n i).1, (fA s n i).2 ++ [(dv (fA s n i).1 n : Int)])
/-- two entries change places -/
def swp (L : List Int) (i j : Nat) : List Int := (L.set i (L.getD j 0)).set j (L.getD i 0)
/-- the block behind t swaps -/
def fB (s : Int) (n len : Nat) : Nat → Int × List Int
  | 0 => fA s n len
  | t + 1 => (dS (fB s n len t).1, swp (fB s n len t).2 (len - 1 - t) (dv (fB s n len t).1 (len - 1 - t + 1)))
theorem fA_len (s : Int) (n : Nat) : ∀ i, (fA s n i).2.length = i
  | 0 => rfl
  | i + 1 => by
    unfold fA
    split <;> simp [fA_len s n i]
theorem swp_len (L : List Int) (i j : Nat) : (swp L i j).length = L.length := by simp [swp]
theorem fB_len (s : Int) (n len : Nat) : ∀ t, (fB s n len t).2.length = len
  | 0 => fA_len s n len
  | t + 1 => by rw [fB, swp_len]; exact fB_len s n len t
end Go.Proofs.Ytecjpjjcahanoab
