/-
  Sheets: a Reader in memory; what stays.
-/
import Derived.Test.YtpgpeafmlijfkaaGreatDoorSp3
import Derived.WalkKit
import Derived.ProofKit
import Derived.RowKit
import Derived.Below
import Derived.Handy
import Derived.Maps.AppendAt
import Derived.Laws.AppendOwnNone
import Derived.Laws.OwnMore
import Derived.Lib.Builder
import Derived.Lib.BufferMore
import Derived.Lib.AppendStr
import Derived.Lib.UnsafeStr
import Derived.OpenShut
import Derived.Deep.MidRow
import Derived.Deep.QuietTactic
import Derived.Deep.RegionWith
import Derived.BigQuiet
import Derived.WalkSmall
import Derived.OwnWalk
import Derived.Laws.EntriesVeiled
namespace Go.Proofs.YtpgpeafmlijfkaaGreatDoor
open Go.RowKit
set_option maxRecDepth 100000
set_option linter.unusedVariables false
set_option linter.unusedSimpArgs false

theorem hid {p : Prop} (h : p) : Hid p := h

/-- the blocks of G are as they were -/
structure Kg (G : Nat → Prop) (w w' : World) : Prop where
  os : w'.os = w.os
  tape : w'.tape = w.tape
  output : w'.output = w.output
  size : w.heap.size ≤ w'.heap.size
  block : ∀ k, G k → w'.heap[k]? = w.heap[k]?
theorem Kg.refl (G : Nat → Prop) (w : World) : Kg G w w := ⟨rfl, rfl, rfl, Nat.le_refl _, fun _ _ => rfl⟩
theorem Kg.trans {G : Nat → Prop} {a b c : World} (h : Kg G a b) (k : Kg G b c) : Kg G a c := ⟨k.os.trans h.os, k.tape.trans h.tape, k.output.trans h.output, Nat.le_trans h.size k.size, fun i hi => (k.block i hi).trans (h.block i hi)⟩
theorem Kg.mono {G G' : Nat → Prop} {w w' : World} (h : Kg G w w') (hG : ∀ k, G' k → G k) : Kg G' w w' := ⟨h.os, h.tape, h.output, h.size, fun k hk => h.block k (hG k hk)⟩
theorem Kg.cell {G : Nat → Prop} {w w' : World} (h : Kg G w w') {p : Addr} (hp : G p.block) {u : Value} (hc : w.cell? p = some u) : w'.cell? p = some u := (World.cell?_of_block (h.block p.block hp)).trans hc
theorem Kg.set {G : Nat → Prop} {a w : World} (h : Kg G a w) {b j : Nat} (hb : ¬ G b) (u : Value) : Kg G a (w.setCell ⟨b, j, none⟩ u) := by
  have hs := (Below.refl 0 w).setCell (p := ⟨b, j, none⟩) (Nat.zero_le _) u
  exact ⟨hs.os.trans h.os, hs.tape.trans h.tape, hs.output.trans h.output, Nat.le_trans h.size hs.size, fun k hk => (Below.heap_setCell _ _ _ _ (by show k ≠ b; rintro rfl; exact hb hk)).trans (h.block k hk)⟩
theorem Kg.alloc {G : Nat → Prop} {a w : World} (h : Kg G a w) (hG : ∀ k, G k → k < a.heap.size) (o : Obj) : Kg G a (w.alloc o) :=
  ⟨h.os, h.tape, h.output, Nat.le_trans h.size (by simp), fun k hk => (Lib.alloc_old w o k (Nat.lt_of_lt_of_le (hG k hk) h.size)).trans (h.block k hk)⟩
theorem Kg.grown {G : Nat → Prop} {a w w' : World} {row : Option Nat} (h : Kg G a w) (hG : ∀ k, G k → k < a.heap.size) (hg : w.grownBy w' row) (hr : ∀ k, row = some k → ¬ G k) : Kg G a w' :=
  ⟨hg.os.trans h.os, hg.tape.trans h.tape, hg.output.trans h.output, Nat.le_trans h.size hg.size, fun k hk => (hg.block k (Nat.lt_of_lt_of_le (hG k hk) h.size) (fun e => hr k e.symm hk)).trans (h.block k hk)⟩
/-- everything but block b -/
def But (w : World) (b : Nat) : Nat → Prop := fun k => k < w.heap.size ∧ k ≠ b
theorem But.not (w : World) (b : Nat) : ¬ But w b b := fun h => h.2 rfl
theorem But.lt (w : World) (b : Nat) : ∀ k, But w b k → k < w.heap.size := fun _ h => h.1

/-! the Reader's cells -/

def fnO (m : Nat) : Nat := if m = 1 then 52 else if m = 2 then 69 else if m = 3 then 78 else if m = 4 then 77 else if m = 5 then 85 else 100
def nxV (b m : Nat) : Value := .func (.func (fnO m)) #[.pointer (some ⟨b, 0, none⟩)] #[]
theorem nx1 (b : Nat) : nxV b 1 = .func (.func 52) #[.pointer (some ⟨b, 0, none⟩)] #[] := rfl
theorem nx2 (b : Nat) : nxV b 2 = .func (.func 69) #[.pointer (some ⟨b, 0, none⟩)] #[] := rfl
theorem nx3 (b : Nat) : nxV b 3 = .func (.func 78) #[.pointer (some ⟨b, 0, none⟩)] #[] := rfl
theorem nx4 (b : Nat) : nxV b 4 = .func (.func 77) #[.pointer (some ⟨b, 0, none⟩)] #[] := rfl
theorem nx5 (b : Nat) : nxV b 5 = .func (.func 85) #[.pointer (some ⟨b, 0, none⟩)] #[] := rfl
theorem nx6 (b : Nat) : nxV b 6 = .func (.func 100) #[.pointer (some ⟨b, 0, none⟩)] #[] := rfl
--R18
/-- the Reader's eighteen cells -/
def R18 (w : World) (b : Nat) (v0 v1 v2 v3 v4 v5 v6 v7 v8 v9 v10 v11 v12 v13 v14 v15 v16 v17 : Value) : Prop := w.heap[b]? = some (.cells #[v0, v1, v2, v3, v4, v5, v6, v7, v8, v9, v10, v11, v12, v13, v14, v15, v16, v17] 77 (0, 0))
theorem R18.put0 {w : World} {b : Nat} {v0 v1 v2 v3 v4 v5 v6 v7 v8 v9 v10 v11 v12 v13 v14 v15 v16 v17 : Value} (h : R18 w b v0 v1 v2 v3 v4 v5 v6 v7 v8 v9 v10 v11 v12 v13 v14 v15 v16 v17) (u : Value) : R18 (w.setCell ⟨b, 0, none⟩ u) b u v1 v2 v3 v4 v5 v6 v7 v8 v9 v10 v11 v12 v13 v14 v15 v16 v17 := Lib.heap_setCell_same h _
theorem R18.put1 {w : World} {b : Nat} {v0 v1 v2 v3 v4 v5 v6 v7 v8 v9 v10 v11 v12 v13 v14 v15 v16 v17 : Value} (h : R18 w b v0 v1 v2 v3 v4 v5 v6 v7 v8 v9 v10 v11 v12 v13 v14 v15 v16 v17) (u : Value) : R18 (w.setCell ⟨b, 1, none⟩ u) b v0 u v2 v3 v4 v5 v6 v7 v8 v9 v10 v11 v12 v13 v14 v15 v16 v17 := Lib.heap_setCell_same h _
theorem R18.put2 {w : World} {b : Nat} {v0 v1 v2 v3 v4 v5 v6 v7 v8 v9 v10 v11 v12 v13 v14 v15 v16 v17 : Value} (h : R18 w b v0 v1 v2 v3 v4 v5 v6 v7 v8 v9 v10 v11 v12 v13 v14 v15 v16 v17) (u : Value) : R18 (w.setCell ⟨b, 2, none⟩ u) b v0 v1 u v3 v4 v5 v6 v7 v8 v9 v10 v11 v12 v13 v14 v15 v16 v17 := Lib.heap_setCell_same h _
theorem R18.put3 {w : World} {b : Nat} {v0 v1 v2 v3 v4 v5 v6 v7 v8 v9 v10 v11 v12 v13 v14 v15 v16 v17 : Value} (h : R18 w b v0 v1 v2 v3 v4 v5 v6 v7 v8 v9 v10 v11 v12 v13 v14 v15 v16 v17) (u : Value) : R18 (w.setCell ⟨b, 3, none⟩ u) b v0 v1 v2 u v4 v5 v6 v7 v8 v9 v10 v11 v12 v13 v14 v15 v16 v17 := Lib.heap_setCell_same h _
theorem R18.put4 {w : World} {b : Nat} {v0 v1 v2 v3 v4 v5 v6 v7 v8 v9 v10 v11 v12 v13 v14 v15 v16 v17 : Value} (h : R18 w b v0 v1 v2 v3 v4 v5 v6 v7 v8 v9 v10 v11 v12 v13 v14 v15 v16 v17) (u : Value) : R18 (w.setCell ⟨b, 4, none⟩ u) b v0 v1 v2 v3 u v5 v6 v7 v8 v9 v10 v11 v12 v13 v14 v15 v16 v17 := Lib.heap_setCell_same h _
theorem R18.put5 {w : World} {b : Nat} {v0 v1 v2 v3 v4 v5 v6 v7 v8 v9 v10 v11 v12 v13 v14 v15 v16 v17 : Value} (h : R18 w b v0 v1 v2 v3 v4 v5 v6 v7 v8 v9 v10 v11 v12 v13 v14 v15 v16 v17) (u : Value) : R18 (w.setCell ⟨b, 5, none⟩ u) b v0 v1 v2 v3 v4 u v6 v7 v8 v9 v10 v11 v12 v13 v14 v15 v16 v17 := Lib.heap_setCell_same h _
theorem R18.put6 {w : World} {b : Nat} {v0 v1 v2 v3 v4 v5 v6 v7 v8 v9 v10 v11 v12 v13 v14 v15 v16 v17 : Value} (h : R18 w b v0 v1 v2 v3 v4 v5 v6 v7 v8 v9 v10 v11 v12 v13 v14 v15 v16 v17) (u : Value) : R18 (w.setCell ⟨b, 6, none⟩ u) b v0 v1 v2 v3 v4 v5 u v7 v8 v9 v10 v11 v12 v13 v14 v15 v16 v17 := Lib.heap_setCell_same h _
theorem R18.put7 {w : World} {b : Nat} {v0 v1 v2 v3 v4 v5 v6 v7 v8 v9 v10 v11 v12 v13 v14 v15 v16 v17 : Value} (h : R18 w b v0 v1 v2 v3 v4 v5 v6 v7 v8 v9 v10 v11 v12 v13 v14 v15 v16 v17) (u : Value) : R18 (w.setCell ⟨b, 7, none⟩ u) b v0 v1 v2 v3 v4 v5 v6 u v8 v9 v10 v11 v12 v13 v14 v15 v16 v17 := Lib.heap_setCell_same h _
theorem R18.put8 {w : World} {b : Nat} {v0 v1 v2 v3 v4 v5 v6 v7 v8 v9 v10 v11 v12 v13 v14 v15 v16 v17 : Value} (h : R18 w b v0 v1 v2 v3 v4 v5 v6 v7 v8 v9 v10 v11 v12 v13 v14 v15 v16 v17) (u : Value) : R18 (w.setCell ⟨b, 8, none⟩ u) b v0 v1 v2 v3 v4 v5 v6 v7 u v9 v10 v11 v12 v13 v14 v15 v16 v17 := Lib.heap_setCell_same h _
theorem R18.put9 {w : World} {b : Nat} {v0 v1 v2 v3 v4 v5 v6 v7 v8 v9 v10 v11 v12 v13 v14 v15 v16 v17 : Value} (h : R18 w b v0 v1 v2 v3 v4 v5 v6 v7 v8 v9 v10 v11 v12 v13 v14 v15 v16 v17) (u : Value) : R18 (w.setCell ⟨b, 9, none⟩ u) b v0 v1 v2 v3 v4 v5 v6 v7 v8 u v10 v11 v12 v13 v14 v15 v16 v17 := Lib.heap_setCell_same h _
theorem R18.put10 {w : World} {b : Nat} {v0 v1 v2 v3 v4 v5 v6 v7 v8 v9 v10 v11 v12 v13 v14 v15 v16 v17 : Value} (h : R18 w b v0 v1 v2 v3 v4 v5 v6 v7 v8 v9 v10 v11 v12 v13 v14 v15 v16 v17) (u : Value) : R18 (w.setCell ⟨b, 10, none⟩ u) b v0 v1 v2 v3 v4 v5 v6 v7 v8 v9 u v11 v12 v13 v14 v15 v16 v17 := Lib.heap_setCell_same h _
theorem R18.put11 {w : World} {b : Nat} {v0 v1 v2 v3 v4 v5 v6 v7 v8 v9 v10 v11 v12 v13 v14 v15 v16 v17 : Value} (h : R18 w b v0 v1 v2 v3 v4 v5 v6 v7 v8 v9 v10 v11 v12 v13 v14 v15 v16 v17) (u : Value) : R18 (w.setCell ⟨b, 11, none⟩ u) b v0 v1 v2 v3 v4 v5 v6 v7 v8 v9 v10 u v12 v13 v14 v15 v16 v17 := Lib.heap_setCell_same h _
theorem R18.put12 {w : World} {b : Nat} {v0 v1 v2 v3 v4 v5 v6 v7 v8 v9 v10 v11 v12 v13 v14 v15 v16 v17 : Value} (h : R18 w b v0 v1 v2 v3 v4 v5 v6 v7 v8 v9 v10 v11 v12 v13 v14 v15 v16 v17) (u : Value) : R18 (w.setCell ⟨b, 12, none⟩ u) b v0 v1 v2 v3 v4 v5 v6 v7 v8 v9 v10 v11 u v13 v14 v15 v16 v17 := Lib.heap_setCell_same h _
theorem R18.put13 {w : World} {b : Nat} {v0 v1 v2 v3 v4 v5 v6 v7 v8 v9 v10 v11 v12 v13 v14 v15 v16 v17 : Value} (h : R18 w b v0 v1 v2 v3 v4 v5 v6 v7 v8 v9 v10 v11 v12 v13 v14 v15 v16 v17) (u : Value) : R18 (w.setCell ⟨b, 13, none⟩ u) b v0 v1 v2 v3 v4 v5 v6 v7 v8 v9 v10 v11 v12 u v14 v15 v16 v17 := Lib.heap_setCell_same h _
theorem R18.put14 {w : World} {b : Nat} {v0 v1 v2 v3 v4 v5 v6 v7 v8 v9 v10 v11 v12 v13 v14 v15 v16 v17 : Value} (h : R18 w b v0 v1 v2 v3 v4 v5 v6 v7 v8 v9 v10 v11 v12 v13 v14 v15 v16 v17) (u : Value) : R18 (w.setCell ⟨b, 14, none⟩ u) b v0 v1 v2 v3 v4 v5 v6 v7 v8 v9 v10 v11 v12 v13 u v15 v16 v17 := Lib.heap_setCell_same h _
theorem R18.put15 {w : World} {b : Nat} {v0 v1 v2 v3 v4 v5 v6 v7 v8 v9 v10 v11 v12 v13 v14 v15 v16 v17 : Value} (h : R18 w b v0 v1 v2 v3 v4 v5 v6 v7 v8 v9 v10 v11 v12 v13 v14 v15 v16 v17) (u : Value) : R18 (w.setCell ⟨b, 15, none⟩ u) b v0 v1 v2 v3 v4 v5 v6 v7 v8 v9 v10 v11 v12 v13 v14 u v16 v17 := Lib.heap_setCell_same h _
theorem R18.put16 {w : World} {b : Nat} {v0 v1 v2 v3 v4 v5 v6 v7 v8 v9 v10 v11 v12 v13 v14 v15 v16 v17 : Value} (h : R18 w b v0 v1 v2 v3 v4 v5 v6 v7 v8 v9 v10 v11 v12 v13 v14 v15 v16 v17) (u : Value) : R18 (w.setCell ⟨b, 16, none⟩ u) b v0 v1 v2 v3 v4 v5 v6 v7 v8 v9 v10 v11 v12 v13 v14 v15 u v17 := Lib.heap_setCell_same h _
theorem R18.put17 {w : World} {b : Nat} {v0 v1 v2 v3 v4 v5 v6 v7 v8 v9 v10 v11 v12 v13 v14 v15 v16 v17 : Value} (h : R18 w b v0 v1 v2 v3 v4 v5 v6 v7 v8 v9 v10 v11 v12 v13 v14 v15 v16 v17) (u : Value) : R18 (w.setCell ⟨b, 17, none⟩ u) b v0 v1 v2 v3 v4 v5 v6 v7 v8 v9 v10 v11 v12 v13 v14 v15 v16 u := Lib.heap_setCell_same h _
theorem R18.c0 {w : World} {b : Nat} {v0 v1 v2 v3 v4 v5 v6 v7 v8 v9 v10 v11 v12 v13 v14 v15 v16 v17 : Value} (h : R18 w b v0 v1 v2 v3 v4 v5 v6 v7 v8 v9 v10 v11 v12 v13 v14 v15 v16 v17) : w.cell? ⟨b, 0, none⟩ = some v0 := Lib.cell_of_heap h 0
theorem R18.c1 {w : World} {b : Nat} {v0 v1 v2 v3 v4 v5 v6 v7 v8 v9 v10 v11 v12 v13 v14 v15 v16 v17 : Value} (h : R18 w b v0 v1 v2 v3 v4 v5 v6 v7 v8 v9 v10 v11 v12 v13 v14 v15 v16 v17) : w.cell? ⟨b, 1, none⟩ = some v1 := Lib.cell_of_heap h 1
theorem R18.c2 {w : World} {b : Nat} {v0 v1 v2 v3 v4 v5 v6 v7 v8 v9 v10 v11 v12 v13 v14 v15 v16 v17 : Value} (h : R18 w b v0 v1 v2 v3 v4 v5 v6 v7 v8 v9 v10 v11 v12 v13 v14 v15 v16 v17) : w.cell? ⟨b, 2, none⟩ = some v2 := Lib.cell_of_heap h 2
theorem R18.c3 {w : World} {b : Nat} {v0 v1 v2 v3 v4 v5 v6 v7 v8 v9 v10 v11 v12 v13 v14 v15 v16 v17 : Value} (h : R18 w b v0 v1 v2 v3 v4 v5 v6 v7 v8 v9 v10 v11 v12 v13 v14 v15 v16 v17) : w.cell? ⟨b, 3, none⟩ = some v3 := Lib.cell_of_heap h 3
theorem R18.c4 {w : World} {b : Nat} {v0 v1 v2 v3 v4 v5 v6 v7 v8 v9 v10 v11 v12 v13 v14 v15 v16 v17 : Value} (h : R18 w b v0 v1 v2 v3 v4 v5 v6 v7 v8 v9 v10 v11 v12 v13 v14 v15 v16 v17) : w.cell? ⟨b, 4, none⟩ = some v4 := Lib.cell_of_heap h 4
theorem R18.c5 {w : World} {b : Nat} {v0 v1 v2 v3 v4 v5 v6 v7 v8 v9 v10 v11 v12 v13 v14 v15 v16 v17 : Value} (h : R18 w b v0 v1 v2 v3 v4 v5 v6 v7 v8 v9 v10 v11 v12 v13 v14 v15 v16 v17) : w.cell? ⟨b, 5, none⟩ = some v5 := Lib.cell_of_heap h 5
theorem R18.c6 {w : World} {b : Nat} {v0 v1 v2 v3 v4 v5 v6 v7 v8 v9 v10 v11 v12 v13 v14 v15 v16 v17 : Value} (h : R18 w b v0 v1 v2 v3 v4 v5 v6 v7 v8 v9 v10 v11 v12 v13 v14 v15 v16 v17) : w.cell? ⟨b, 6, none⟩ = some v6 := Lib.cell_of_heap h 6
theorem R18.c7 {w : World} {b : Nat} {v0 v1 v2 v3 v4 v5 v6 v7 v8 v9 v10 v11 v12 v13 v14 v15 v16 v17 : Value} (h : R18 w b v0 v1 v2 v3 v4 v5 v6 v7 v8 v9 v10 v11 v12 v13 v14 v15 v16 v17) : w.cell? ⟨b, 7, none⟩ = some v7 := Lib.cell_of_heap h 7
theorem R18.c8 {w : World} {b : Nat} {v0 v1 v2 v3 v4 v5 v6 v7 v8 v9 v10 v11 v12 v13 v14 v15 v16 v17 : Value} (h : R18 w b v0 v1 v2 v3 v4 v5 v6 v7 v8 v9 v10 v11 v12 v13 v14 v15 v16 v17) : w.cell? ⟨b, 8, none⟩ = some v8 := Lib.cell_of_heap h 8
theorem R18.c9 {w : World} {b : Nat} {v0 v1 v2 v3 v4 v5 v6 v7 v8 v9 v10 v11 v12 v13 v14 v15 v16 v17 : Value} (h : R18 w b v0 v1 v2 v3 v4 v5 v6 v7 v8 v9 v10 v11 v12 v13 v14 v15 v16 v17) : w.cell? ⟨b, 9, none⟩ = some v9 := Lib.cell_of_heap h 9
theorem R18.c10 {w : World} {b : Nat} {v0 v1 v2 v3 v4 v5 v6 v7 v8 v9 v10 v11 v12 v13 v14 v15 v16 v17 : Value} (h : R18 w b v0 v1 v2 v3 v4 v5 v6 v7 v8 v9 v10 v11 v12 v13 v14 v15 v16 v17) : w.cell? ⟨b, 10, none⟩ = some v10 := Lib.cell_of_heap h 10
theorem R18.c11 {w : World} {b : Nat} {v0 v1 v2 v3 v4 v5 v6 v7 v8 v9 v10 v11 v12 v13 v14 v15 v16 v17 : Value} (h : R18 w b v0 v1 v2 v3 v4 v5 v6 v7 v8 v9 v10 v11 v12 v13 v14 v15 v16 v17) : w.cell? ⟨b, 11, none⟩ = some v11 := Lib.cell_of_heap h 11
theorem R18.c12 {w : World} {b : Nat} {v0 v1 v2 v3 v4 v5 v6 v7 v8 v9 v10 v11 v12 v13 v14 v15 v16 v17 : Value} (h : R18 w b v0 v1 v2 v3 v4 v5 v6 v7 v8 v9 v10 v11 v12 v13 v14 v15 v16 v17) : w.cell? ⟨b, 12, none⟩ = some v12 := Lib.cell_of_heap h 12
theorem R18.c13 {w : World} {b : Nat} {v0 v1 v2 v3 v4 v5 v6 v7 v8 v9 v10 v11 v12 v13 v14 v15 v16 v17 : Value} (h : R18 w b v0 v1 v2 v3 v4 v5 v6 v7 v8 v9 v10 v11 v12 v13 v14 v15 v16 v17) : w.cell? ⟨b, 13, none⟩ = some v13 := Lib.cell_of_heap h 13
theorem R18.c14 {w : World} {b : Nat} {v0 v1 v2 v3 v4 v5 v6 v7 v8 v9 v10 v11 v12 v13 v14 v15 v16 v17 : Value} (h : R18 w b v0 v1 v2 v3 v4 v5 v6 v7 v8 v9 v10 v11 v12 v13 v14 v15 v16 v17) : w.cell? ⟨b, 14, none⟩ = some v14 := Lib.cell_of_heap h 14
theorem R18.c15 {w : World} {b : Nat} {v0 v1 v2 v3 v4 v5 v6 v7 v8 v9 v10 v11 v12 v13 v14 v15 v16 v17 : Value} (h : R18 w b v0 v1 v2 v3 v4 v5 v6 v7 v8 v9 v10 v11 v12 v13 v14 v15 v16 v17) : w.cell? ⟨b, 15, none⟩ = some v15 := Lib.cell_of_heap h 15
theorem R18.c16 {w : World} {b : Nat} {v0 v1 v2 v3 v4 v5 v6 v7 v8 v9 v10 v11 v12 v13 v14 v15 v16 v17 : Value} (h : R18 w b v0 v1 v2 v3 v4 v5 v6 v7 v8 v9 v10 v11 v12 v13 v14 v15 v16 v17) : w.cell? ⟨b, 16, none⟩ = some v16 := Lib.cell_of_heap h 16
theorem R18.c17 {w : World} {b : Nat} {v0 v1 v2 v3 v4 v5 v6 v7 v8 v9 v10 v11 v12 v13 v14 v15 v16 v17 : Value} (h : R18 w b v0 v1 v2 v3 v4 v5 v6 v7 v8 v9 v10 v11 v12 v13 v14 v15 v16 v17) : w.cell? ⟨b, 17, none⟩ = some v17 := Lib.cell_of_heap h 17
theorem R18.fr {w : World} {b : Nat} {v0 v1 v2 v3 v4 v5 v6 v7 v8 v9 v10 v11 v12 v13 v14 v15 v16 v17 : Value} (h : R18 w b v0 v1 v2 v3 v4 v5 v6 v7 v8 v9 v10 v11 v12 v13 v14 v15 v16 v17) (j : Nat) : w.frozen? ⟨b, j, none⟩ = false := Lib.frozen_of_heap h j
theorem R18.lt {w : World} {b : Nat} {v0 v1 v2 v3 v4 v5 v6 v7 v8 v9 v10 v11 v12 v13 v14 v15 v16 v17 : Value} (h : R18 w b v0 v1 v2 v3 v4 v5 v6 v7 v8 v9 v10 v11 v12 v13 v14 v15 v16 v17) : b < w.heap.size := (Array.getElem?_eq_some_iff.1 h).1
theorem R18.kept {w : World} {b : Nat} {v0 v1 v2 v3 v4 v5 v6 v7 v8 v9 v10 v11 v12 v13 v14 v15 v16 v17 : Value} (h : R18 w b v0 v1 v2 v3 v4 v5 v6 v7 v8 v9 v10 v11 v12 v13 v14 v15 v16 v17) {G : Nat → Prop} {w' : World} (hk : Kg G w w') (hG : G b) : R18 w' b v0 v1 v2 v3 v4 v5 v6 v7 v8 v9 v10 v11 v12 v13 v14 v15 v16 v17 := (hk.block b hG).trans h
theorem R18.alloc {w : World} {b : Nat} {v0 v1 v2 v3 v4 v5 v6 v7 v8 v9 v10 v11 v12 v13 v14 v15 v16 v17 : Value} (h : R18 w b v0 v1 v2 v3 v4 v5 v6 v7 v8 v9 v10 v11 v12 v13 v14 v15 v16 v17) (o : Obj) : R18 (w.alloc o) b v0 v1 v2 v3 v4 v5 v6 v7 v8 v9 v10 v11 v12 v13 v14 v15 v16 v17 := (Lib.alloc_old w o b h.lt).trans h
--81R
/-- the Reader in block b -/
abbrev RB (w : World) (b : Nat) (nx : Value) (sz : Nat) (hp op ep : Nat × Nat) (rw wd : Nat) (bp bv cv tv : Value) (fp : Nat × Nat) (ev : Value) (dn : Bool) : Prop :=
  R18 w b nx (.int .i64 (sz : Int)) (.int .i64 (hp.1 : Int)) (.int .i64 (hp.2 : Int)) (.int .i64 (op.1 : Int)) (.int .i64 (op.2 : Int)) (.int .i64 (ep.1 : Int)) (.int .i64 (ep.2 : Int)) (.int .i64 (rw : Int)) (.int .i64 (wd : Int)) bp bv cv tv (.int .i64 (fp.1 : Int)) (.int .i64 (fp.2 : Int)) ev (.bool dn)
/-- a place as a value -/
def plV (p : Nat × Nat) : Value := .agg #[.int .i64 (p.1 : Int), .int .i64 (p.2 : Int)]

set_option maxHeartbeats 1000000 in
theorem fail_raw (b : Nat) (nx : Value) (sz : Nat) (hp op ep : Nat × Nat) (rw wd : Nat) (bp bv cv tv : Value) (fp : Nat × Nat) (ev : Value) (dn : Bool) (t : TypeId) (x : Value) (p : Nat × Nat) (w : World) (h : RB w b nx sz hp op ep rw wd bp bv cv tv fp ev dn) :
    Calls Tryz.prog 59 #[.pointer (some ⟨b, 0, none⟩), .iface t x, plV p] w fun e w' => e = .returned (.tuple #[]) ∧ RB w' b nx sz hp op ep rw wd (.pointer none) (.slice none 0 0) (.slice none 0 0) tv p (.iface t x) dn ∧ Kg (But w b) w w' := by
  have hlt : b < w.heap.size := h.lt
  have hne : b ≠ w.heap.size := by omega
  have f14 := h.fr 14
  have f15 := h.fr 15
  have f16 := h.fr 16
  have f10 := h.fr 10
  have f11 := h.fr 11
  have f12 := h.fr 12
  have c14 := h.c14
  have c15 := h.c15
  have c16 := h.c16
  have c10 := h.c10
  have c11 := h.c11
  have c12 := h.c12
  have H := hid h
  clear h
  unfold plV
  go_enter Tryz.func59, Tryz.ntmps59
  go_wp2
  go_end0
  refine ⟨rfl, ?_, ?_⟩
  · exact ((((((H.out.put14 _).put15 _).put16 _).put10 _).put11 _).put12 _).alloc _
  · refine Kg.alloc ?_ (But.lt w b) _
    iterate 6 refine Kg.set ?_ (But.not w b) _
    exact Kg.refl (But w b) w
end Go.Proofs.YtpgpeafmlijfkaaGreatDoor
