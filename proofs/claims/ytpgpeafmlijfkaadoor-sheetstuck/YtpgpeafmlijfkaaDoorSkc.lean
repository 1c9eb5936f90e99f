/-
  Sheets: checkCell, checkRow, onLine, checkRows.
-/
import Derived.Test.YtpgpeafmlijfkaaDoorScc
import Derived.Test.YtpgpeafmlijfkaaDoorSq7
namespace Go.Proofs.YtpgpeafmlijfkaaDoor
open Go.RowKit
set_option maxRecDepth 100000
set_option linter.unusedVariables false
set_option linter.unusedSimpArgs false

theorem cfl_long {T : List UInt8} (h : 4096 < T.length) : cfl T = 5 := by unfold cfl; rw [if_pos h]
theorem cfl_bad {T : List UInt8} (h : ¬ 4096 < T.length) {j : Nat} (hj : j < T.length) (hb : mayB (T[j]).toNat = false) : cfl T = 4 := by
  unfold cfl
  rw [if_neg h, if_neg]
  intro ha
  rw [List.all_eq_true.1 ha _ (List.getElem_mem hj)] at hb
  cases hb
theorem cfl_fine {T : List UInt8} (h : ¬ 4096 < T.length) (ha : ∀ i (hi : i < T.length), mayB (T[i]).toNat = true) : cfl T = 0 := by
  unfold cfl
  rw [if_neg h, if_pos]
  rw [List.all_eq_true]
  intro x hx
  obtain ⟨i, hi, rfl⟩ := List.mem_iff_getElem.1 hx
  exact ha i hi
theorem list_at2 (s : ByteArray) (m : Nat) (h : m < s.size) : s.data.toList[m]'(by rw [Array.length_toList]; exact h) = s[m] := by
  rw [Array.getElem_toList]
  rfl
/-- an error that a check answers: none, or a new Fault -/
def Nf (A : Nat → Addr) (w : World) (c line col : Nat) (e : Ending) (w' : World) : Prop :=
  (c = 0 ∧ e = .returned .nilIface ∧ w' = w) ∨ (c ≠ 0 ∧ e = .returned (.iface 54 (.pointer (some ⟨w.heap.size, 0, none⟩))) ∧ w' = w.alloc (.cells #[.int .i64 (line : Int), .int .i64 (col : Int), erV A c] 51))
theorem Nf.bad {A : Nat → Addr} {w : World} {c line col : Nat} (h : c ≠ 0) : Nf A w c line col (.returned (.iface 54 (.pointer (some ⟨w.heap.size, 0, none⟩)))) (w.alloc (.cells #[.int .i64 (line : Int), .int .i64 (col : Int), erV A c] 51)) := .inr ⟨h, rfl, rfl⟩
theorem Nf.none {A : Nat → Addr} {w : World} {line col : Nat} : Nf A w 0 line col (.returned .nilIface) w := .inl ⟨rfl, rfl, rfl⟩
theorem cls_drop (cs : List (List UInt8)) (j : Nat) (hj : j < cs.length) (h : cfl cs[j] = 0) : cls (cs.drop j) j = cls (cs.drop (j + 1)) (j + 1) := by
  rw [List.drop_eq_getElem_cons hj, cls, if_pos h]
theorem cls_hit (cs : List (List UInt8)) (j : Nat) (hj : j < cs.length) (h : cfl cs[j] ≠ 0) : cls (cs.drop j) j = (cfl cs[j], j) := by
  rw [List.drop_eq_getElem_cons hj, cls, if_neg h]
theorem cellA {w : World} {p : Addr} {u : Value} (h : w.cell? p = some u) (o : Obj) : (w.alloc o).cell? p = some u := (World.cell?_alloc_lt _ _ p (World.block_lt_of_cell? _ _ h)).trans h
theorem rck_drop (n : Nat) (R : List (List (List UInt8))) (i : Nat) (hi : i < R.length) (h4 : i ≠ 4096) (h : (wfl n R[i]).1 = 0) : rck n (R.drop i) i = rck n (R.drop (i + 1)) (i + 1) := by
  rw [List.drop_eq_getElem_cons hi, rck, if_neg h4, if_pos h]
theorem rck_hit (n : Nat) (R : List (List (List UInt8))) (i : Nat) (hi : i < R.length) (h4 : i ≠ 4096) (h : (wfl n R[i]).1 ≠ 0) : rck n (R.drop i) i = ((wfl n R[i]).1, i + 1, (wfl n R[i]).2) := by
  rw [List.drop_eq_getElem_cons hi, rck, if_neg h4, if_neg h]
theorem rck_many (n : Nat) (R : List (List (List UInt8))) (i : Nat) (hi : i < R.length) (h4 : i = 4096) : rck n (R.drop i) i = (7, i + 1, 0) := by
  rw [List.drop_eq_getElem_cons hi, rck, if_pos h4]
/-- what a check of rows answers -/
def CkA (A : Nat → Addr) (w : World) (q : Nat × Nat × Nat) (e : Ending) (w' : World) : Prop := ∃ ev, e = .returned ev ∧ FT A w' ev q.1 (q.2.1, q.2.2) ∧ Below w.heap.size w w' ∧ (q.1 = 0 → w' = w)
theorem HE.grown {A : Nat → Addr} {w w' : World} (h : HE A w) (hb : Below w.heap.size w w') : HE A w' := h.kept (G := fun k => k < w.heap.size) ⟨hb.os, hb.tape, hb.output, hb.size, fun k hk => hb.block k hk⟩ (fun k hk => h.lt k hk)
end Go.Proofs.YtpgpeafmlijfkaaDoor
