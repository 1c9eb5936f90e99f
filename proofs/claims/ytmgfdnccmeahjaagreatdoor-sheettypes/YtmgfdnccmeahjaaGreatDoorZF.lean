/-
  Sp1: Sheets, told twice: the Reader's states byte by byte, and cells, rows and all of them from the left.
  Sp2: Sheets: what the Reader's states come to is what the document reads: cells, rows, all.
  Sp3: Sheets: texts that are too long; what Parse answers.
  Sq1: Sheets: a Reader in memory; what stays.
-/
import Derived.Test.YtmgfdnccmeahjaaGreatDoorProg
import Derived.WalkKit
import Derived.ProofKit
import Derived.RowKit
import Derived.Below
import Derived.Handy
import Derived.Maps.AppendAt
import Derived.Laws.AppendOwnNone
import Derived.Laws.OwnMore
import Derived.Lib.Builder
import Derived.Lib.BufferMore
import Derived.Lib.AppendStr
import Derived.Lib.UnsafeStr
import Derived.OpenShut
import Derived.Deep.MidRow
import Derived.Deep.QuietTactic
import Derived.Deep.RegionWith
import Derived.BigQuiet
import Derived.WalkSmall
import Derived.OwnWalk
import Derived.Laws.EntriesVeiled
namespace Go.Proofs.YtmgfdnccmeahjaaGreatDoor
set_option maxRecDepth 100000
set_option linter.unusedVariables false
set_option linter.unusedSimpArgs false

def bt (L : List UInt8) (i : Nat) : UInt8 := L.getD i 0
def ch (L : List UInt8) (i : Nat) : Nat := (bt L i).toNat
/-- may a cell have this byte? -/
def mayB (c : Nat) : Bool := c == 9 || c == 10 || c == 13 || (decide (32 ≤ c) && c != 127)

/-! the Reader -/

structure Rs where
  md : Nat
  sz : Nat
  hp : Nat × Nat
  op : Nat × Nat
  ep : Nat × Nat
  rw : Nat
  wd : Nat
  cur : List UInt8
  cs : List (List UInt8)
  td : List (List (List UInt8))
  er : Nat
  fp : Nat × Nat

def adv (p : Nat × Nat) (c : Nat) : Nat × Nat := if c = 10 then (p.1 + 1, 0) else (p.1, p.2 + 1)

def Rs.fail (s : Rs) (code : Nat) (p : Nat × Nat) : Rs := { s with er := code, fp := p, cur := [], cs := [] }
def Rs.add (s : Rs) (c : UInt8) : Rs := if s.cur.length = 4096 then s.fail 5 s.hp else { s with cur := s.cur ++ [c] }
def Rs.endRow (s : Rs) (p : Nat × Nat) : Rs := if 0 < s.rw ∧ s.cs.length ≠ s.wd then s.fail 8 p else { s with rw := s.rw + 1, wd := s.cs.length, td := s.td ++ [s.cs], cur := [], cs := [], md := 1 }
def Rs.cel (s : Rs) : Rs := { s with cs := s.cs ++ [s.cur], cur := [] }
/-- behind a cell: none is the text's end -/
def Rs.endCell (s : Rs) (c : Option UInt8) : Rs :=
  match c with
  | none => s.cel.endRow s.hp
  | some c => if c.toNat = 13 then { s.cel with ep := s.hp, md := 6 } else if s.cs.length + 1 = 64 then s.cel.fail 6 s.hp else { s.cel with md := 2 }
def Rs.plain (s : Rs) (c : Option UInt8) : Rs :=
  match c with
  | none => s.endCell none
  | some c => if c.toNat = 44 ∨ c.toNat = 13 then s.endCell (some c) else if c.toNat = 10 then s.fail 3 s.hp else if c.toNat = 34 then s.fail 2 s.hp else if c.toNat = 9 ∨ mayB c.toNat = false then s.fail 4 s.hp else s.add c
def Rs.quoted (s : Rs) (c : Option UInt8) : Rs :=
  match c with
  | none => s.fail 1 s.op
  | some c => if c.toNat = 34 then { s with md := 5 } else if mayB c.toNat = false then s.fail 4 s.hp else s.add c
def Rs.behindQuote (s : Rs) (c : Option UInt8) : Rs :=
  match c with
  | none => s.endCell none
  | some c => if c.toNat = 34 then Rs.add { s with md := 4 } c else if c.toNat = 44 ∨ c.toNat = 13 then s.endCell (some c) else if c.toNat = 10 then s.fail 3 s.hp else s.fail 2 s.hp
def Rs.behindReturn (s : Rs) (c : Option UInt8) : Rs :=
  match c with
  | none => s.fail 3 s.ep
  | some c => if c.toNat = 10 then s.endRow s.ep else s.fail 3 s.ep
def Rs.beginCell (s : Rs) (c : Option UInt8) : Rs :=
  match c with
  | none => Rs.plain { s with md := 3 } none
  | some c => if c.toNat = 34 then { s with op := s.hp, md := 4 } else Rs.plain { s with md := 3 } (some c)
def Rs.beginRow (s : Rs) (c : Option UInt8) : Rs :=
  match c with
  | none => s
  | some c => if s.rw = 4096 then s.fail 7 s.hp else s.beginCell (some c)
def Rs.next (s : Rs) (c : Option UInt8) : Rs :=
  if s.md = 1 then s.beginRow c else if s.md = 2 then s.beginCell c else if s.md = 3 then s.plain c else if s.md = 4 then s.quoted c else if s.md = 5 then s.behindQuote c else s.behindReturn c
def Rs.gone (s : Rs) (c : UInt8) : Rs := { s with sz := s.sz + 1, hp := adv s.hp c.toNat }
def Rs.take (s : Rs) (c : UInt8) : Rs := if s.sz = 262144 then s.fail 20 s.hp else (s.next (some c)).gone c

/-- bytes are taken, up to the first fault -/
def runL (s : Rs) : List UInt8 → Rs
  | [] => s
  | c :: r => if s.er = 0 then runL (s.take c) r else s
/-! the document -/

/-- where a byte lies -/
def plc (L : List UInt8) : Nat → Nat × Nat
  | 0 => (1, 0)
  | n + 1 => adv (plc L n) (ch L n)

/-- a quoted cell, so many bytes being left -/
def qdN (L : List UInt8) (fr : Nat) : Nat → Nat → List UInt8 → List UInt8 × Nat × Nat × Nat
  | 0, _, _ => ([], 0, 1, fr)
  | 1, i, t => if ch L i = 34 then (t, i + 1, 0, 0) else if mayB (ch L i) = false then ([], 0, 4, i) else if t.length = 4096 then ([], 0, 5, i) else ([], 0, 1, fr)
  | n + 2, i, t =>
    if ch L i = 34 then
      if ch L (i + 1) ≠ 34 then (t, i + 1, 0, 0)
      else if t.length = 4096 then ([], 0, 5, i + 1) else qdN L fr n (i + 2) (t ++ [bt L (i + 1)])
    else if mayB (ch L i) = false then ([], 0, 4, i)
    else if t.length = 4096 then ([], 0, 5, i) else qdN L fr (n + 1) (i + 1) (t ++ [bt L i])
/-- a quoted cell: its text, the place behind it, the fault's code and place -/
def qd (L : List UInt8) (fr i : Nat) (t : List UInt8) : List UInt8 × Nat × Nat × Nat := qdN L fr (L.length - i) i t
/-- a bare cell, so many bytes being left -/
def qlN (L : List UInt8) (fr : Nat) : Nat → Nat → Nat × Nat × Nat
  | 0, i => (i, 0, 0)
  | n + 1, i =>
    if ch L i ≠ 44 ∧ ch L i ≠ 13 then
      if ch L i = 10 then (0, 3, i) else if ch L i = 34 then (0, 2, i) else if ch L i = 9 ∨ mayB (ch L i) = false then (0, 4, i) else if i - fr = 4096 then (0, 5, i) else qlN L fr n (i + 1)
    else (i, 0, 0)
/-- a bare cell: the place behind it, the fault's code and place -/
def ql (L : List UInt8) (fr i : Nat) : Nat × Nat × Nat := qlN L fr (L.length - i) i
def sub (L : List UInt8) (a b : Nat) : List UInt8 := (L.take b).drop a

def cel (L : List UInt8) (fr : Nat) : List UInt8 × Nat × Nat × Nat :=
  if fr < L.length ∧ ch L fr = 34 then
    let q := qd L fr (fr + 1) []
    if q.2.2.1 ≠ 0 ∨ q.2.1 = L.length ∨ ch L q.2.1 = 44 ∨ ch L q.2.1 = 13 then q
    else if ch L q.2.1 = 10 then ([], 0, 3, q.2.1) else ([], 0, 2, q.2.1)
  else
    let q := ql L fr fr
    if q.2.1 = 0 then (sub L fr q.1, q.1, 0, 0) else ([], 0, q.2.1, q.2.2)

/-! the two are one -/

/-- the Reader at place i without a fault -/
def st (L : List UInt8) (md i : Nat) (o e : Nat × Nat) (rw wd : Nat) (cur : List UInt8) (cs : List (List UInt8)) (td : List (List (List UInt8))) : Rs :=
  { md := md, sz := i, hp := plc L i, op := o, ep := e, rw := rw, wd := wd, cur := cur, cs := cs, td := td, er := 0, fp := (0, 0) }

end Go.Proofs.YtmgfdnccmeahjaaGreatDoor

namespace Go.Proofs.YtmgfdnccmeahjaaGreatDoor
set_option maxRecDepth 100000
set_option linter.unusedVariables false
set_option linter.unusedSimpArgs false

end Go.Proofs.YtmgfdnccmeahjaaGreatDoor

namespace Go.Proofs.YtmgfdnccmeahjaaGreatDoor
set_option maxRecDepth 100000
set_option linter.unusedVariables false
set_option linter.unusedSimpArgs false

/-- the Reader to which nothing has come, begun -/
def s0 : Rs := { md := 1, sz := 0, hp := (1, 0), op := (0, 0), ep := (0, 0), rw := 0, wd := 0, cur := [], cs := [], td := [], er := 0, fp := (0, 0) }
end Go.Proofs.YtmgfdnccmeahjaaGreatDoor

namespace Go.Proofs.YtmgfdnccmeahjaaGreatDoor
open Go.RowKit
set_option maxRecDepth 100000
set_option linter.unusedVariables false
set_option linter.unusedSimpArgs false

theorem hid {p : Prop} (h : p) : Hid p := h

/-- the blocks of G are as they were -/
structure Kg (G : Nat → Prop) (w w' : World) : Prop where
  os : w'.os = w.os
  tape : w'.tape = w.tape
  output : w'.output = w.output
  size : w.heap.size ≤ w'.heap.size
  block : ∀ k, G k → w'.heap[k]? = w.heap[k]?
theorem Kg.refl (G : Nat → Prop) (w : World) : Kg G w w := ⟨rfl, rfl, rfl, Nat.le_refl _, fun _ _ => rfl⟩
theorem Kg.trans {G : Nat → Prop} {a b c : World} (h : Kg G a b) (k : Kg G b c) : Kg G a c := ⟨k.os.trans h.os, k.tape.trans h.tape, k.output.trans h.output, Nat.le_trans h.size k.size, fun i hi => (k.block i hi).trans (h.block i hi)⟩
theorem Kg.mono {G G' : Nat → Prop} {w w' : World} (h : Kg G w w') (hG : ∀ k, G' k → G k) : Kg G' w w' := ⟨h.os, h.tape, h.output, h.size, fun k hk => h.block k (hG k hk)⟩
theorem Kg.cell {G : Nat → Prop} {w w' : World} (h : Kg G w w') {p : Addr} (hp : G p.block) {u : Value} (hc : w.cell? p = some u) : w'.cell? p = some u := (World.cell?_of_block (h.block p.block hp)).trans hc
theorem Kg.set {G : Nat → Prop} {a w : World} (h : Kg G a w) {b j : Nat} (hb : ¬ G b) (u : Value) : Kg G a (w.setCell ⟨b, j, none⟩ u) := by
  have hs := (Below.refl 0 w).setCell (p := ⟨b, j, none⟩) (Nat.zero_le _) u
  exact ⟨hs.os.trans h.os, hs.tape.trans h.tape, hs.output.trans h.output, Nat.le_trans h.size hs.size, fun k hk => (Below.heap_setCell _ _ _ _ (by show k ≠ b; rintro rfl; exact hb hk)).trans (h.block k hk)⟩
theorem Kg.alloc {G : Nat → Prop} {a w : World} (h : Kg G a w) (hG : ∀ k, G k → k < a.heap.size) (o : Obj) : Kg G a (w.alloc o) :=
  ⟨h.os, h.tape, h.output, Nat.le_trans h.size (by simp), fun k hk => (Lib.alloc_old w o k (Nat.lt_of_lt_of_le (hG k hk) h.size)).trans (h.block k hk)⟩
theorem Kg.grown {G : Nat → Prop} {a w w' : World} {row : Option Nat} (h : Kg G a w) (hG : ∀ k, G k → k < a.heap.size) (hg : w.grownBy w' row) (hr : ∀ k, row = some k → ¬ G k) : Kg G a w' :=
  ⟨hg.os.trans h.os, hg.tape.trans h.tape, hg.output.trans h.output, Nat.le_trans h.size hg.size, fun k hk => (hg.block k (Nat.lt_of_lt_of_le (hG k hk) h.size) (fun e => hr k e.symm hk)).trans (h.block k hk)⟩
/-- everything but block b -/
def But (w : World) (b : Nat) : Nat → Prop := fun k => k < w.heap.size ∧ k ≠ b
theorem But.not (w : World) (b : Nat) : ¬ But w b b := fun h => h.2 rfl
theorem But.lt (w : World) (b : Nat) : ∀ k, But w b k → k < w.heap.size := fun _ h => h.1

/-! the Reader's cells -/

def fnO (m : Nat) : Nat := if m = 1 then 118 else if m = 2 then 155 else if m = 3 then 184 else if m = 4 then 183 else if m = 5 then 218 else 260
def nxV (b m : Nat) : Value := .func (.func (fnO m)) #[.pointer (some ⟨b, 0, none⟩)] #[]
/-- the Reader's eighteen cells -/
def R18 (w : World) (b : Nat) (v0 v1 v2 v3 v4 v5 v6 v7 v8 v9 v10 v11 v12 v13 v14 v15 v16 v17 : Value) : Prop := w.heap[b]? = some (.cells #[v0, v1, v2, v3, v4, v5, v6, v7, v8, v9, v10, v11, v12, v13, v14, v15, v16, v17] 179 (0, 0))
theorem R18.put0 {w : World} {b : Nat} {v0 v1 v2 v3 v4 v5 v6 v7 v8 v9 v10 v11 v12 v13 v14 v15 v16 v17 : Value} (h : R18 w b v0 v1 v2 v3 v4 v5 v6 v7 v8 v9 v10 v11 v12 v13 v14 v15 v16 v17) (u : Value) : R18 (w.setCell ⟨b, 0, none⟩ u) b u v1 v2 v3 v4 v5 v6 v7 v8 v9 v10 v11 v12 v13 v14 v15 v16 v17 := Lib.heap_setCell_same h _
theorem R18.put1 {w : World} {b : Nat} {v0 v1 v2 v3 v4 v5 v6 v7 v8 v9 v10 v11 v12 v13 v14 v15 v16 v17 : Value} (h : R18 w b v0 v1 v2 v3 v4 v5 v6 v7 v8 v9 v10 v11 v12 v13 v14 v15 v16 v17) (u : Value) : R18 (w.setCell ⟨b, 1, none⟩ u) b v0 u v2 v3 v4 v5 v6 v7 v8 v9 v10 v11 v12 v13 v14 v15 v16 v17 := Lib.heap_setCell_same h _
theorem R18.put2 {w : World} {b : Nat} {v0 v1 v2 v3 v4 v5 v6 v7 v8 v9 v10 v11 v12 v13 v14 v15 v16 v17 : Value} (h : R18 w b v0 v1 v2 v3 v4 v5 v6 v7 v8 v9 v10 v11 v12 v13 v14 v15 v16 v17) (u : Value) : R18 (w.setCell ⟨b, 2, none⟩ u) b v0 v1 u v3 v4 v5 v6 v7 v8 v9 v10 v11 v12 v13 v14 v15 v16 v17 := Lib.heap_setCell_same h _
theorem R18.put3 {w : World} {b : Nat} {v0 v1 v2 v3 v4 v5 v6 v7 v8 v9 v10 v11 v12 v13 v14 v15 v16 v17 : Value} (h : R18 w b v0 v1 v2 v3 v4 v5 v6 v7 v8 v9 v10 v11 v12 v13 v14 v15 v16 v17) (u : Value) : R18 (w.setCell ⟨b, 3, none⟩ u) b v0 v1 v2 u v4 v5 v6 v7 v8 v9 v10 v11 v12 v13 v14 v15 v16 v17 := Lib.heap_setCell_same h _
theorem R18.put13 {w : World} {b : Nat} {v0 v1 v2 v3 v4 v5 v6 v7 v8 v9 v10 v11 v12 v13 v14 v15 v16 v17 : Value} (h : R18 w b v0 v1 v2 v3 v4 v5 v6 v7 v8 v9 v10 v11 v12 v13 v14 v15 v16 v17) (u : Value) : R18 (w.setCell ⟨b, 13, none⟩ u) b v0 v1 v2 v3 v4 v5 v6 v7 v8 v9 v10 v11 v12 u v14 v15 v16 v17 := Lib.heap_setCell_same h _
theorem R18.c0 {w : World} {b : Nat} {v0 v1 v2 v3 v4 v5 v6 v7 v8 v9 v10 v11 v12 v13 v14 v15 v16 v17 : Value} (h : R18 w b v0 v1 v2 v3 v4 v5 v6 v7 v8 v9 v10 v11 v12 v13 v14 v15 v16 v17) : w.cell? ⟨b, 0, none⟩ = some v0 := Lib.cell_of_heap h 0
theorem R18.c1 {w : World} {b : Nat} {v0 v1 v2 v3 v4 v5 v6 v7 v8 v9 v10 v11 v12 v13 v14 v15 v16 v17 : Value} (h : R18 w b v0 v1 v2 v3 v4 v5 v6 v7 v8 v9 v10 v11 v12 v13 v14 v15 v16 v17) : w.cell? ⟨b, 1, none⟩ = some v1 := Lib.cell_of_heap h 1
theorem R18.c2 {w : World} {b : Nat} {v0 v1 v2 v3 v4 v5 v6 v7 v8 v9 v10 v11 v12 v13 v14 v15 v16 v17 : Value} (h : R18 w b v0 v1 v2 v3 v4 v5 v6 v7 v8 v9 v10 v11 v12 v13 v14 v15 v16 v17) : w.cell? ⟨b, 2, none⟩ = some v2 := Lib.cell_of_heap h 2
theorem R18.c3 {w : World} {b : Nat} {v0 v1 v2 v3 v4 v5 v6 v7 v8 v9 v10 v11 v12 v13 v14 v15 v16 v17 : Value} (h : R18 w b v0 v1 v2 v3 v4 v5 v6 v7 v8 v9 v10 v11 v12 v13 v14 v15 v16 v17) : w.cell? ⟨b, 3, none⟩ = some v3 := Lib.cell_of_heap h 3
theorem R18.c4 {w : World} {b : Nat} {v0 v1 v2 v3 v4 v5 v6 v7 v8 v9 v10 v11 v12 v13 v14 v15 v16 v17 : Value} (h : R18 w b v0 v1 v2 v3 v4 v5 v6 v7 v8 v9 v10 v11 v12 v13 v14 v15 v16 v17) : w.cell? ⟨b, 4, none⟩ = some v4 := Lib.cell_of_heap h 4
theorem R18.c5 {w : World} {b : Nat} {v0 v1 v2 v3 v4 v5 v6 v7 v8 v9 v10 v11 v12 v13 v14 v15 v16 v17 : Value} (h : R18 w b v0 v1 v2 v3 v4 v5 v6 v7 v8 v9 v10 v11 v12 v13 v14 v15 v16 v17) : w.cell? ⟨b, 5, none⟩ = some v5 := Lib.cell_of_heap h 5
theorem R18.c6 {w : World} {b : Nat} {v0 v1 v2 v3 v4 v5 v6 v7 v8 v9 v10 v11 v12 v13 v14 v15 v16 v17 : Value} (h : R18 w b v0 v1 v2 v3 v4 v5 v6 v7 v8 v9 v10 v11 v12 v13 v14 v15 v16 v17) : w.cell? ⟨b, 6, none⟩ = some v6 := Lib.cell_of_heap h 6
theorem R18.c7 {w : World} {b : Nat} {v0 v1 v2 v3 v4 v5 v6 v7 v8 v9 v10 v11 v12 v13 v14 v15 v16 v17 : Value} (h : R18 w b v0 v1 v2 v3 v4 v5 v6 v7 v8 v9 v10 v11 v12 v13 v14 v15 v16 v17) : w.cell? ⟨b, 7, none⟩ = some v7 := Lib.cell_of_heap h 7
theorem R18.c8 {w : World} {b : Nat} {v0 v1 v2 v3 v4 v5 v6 v7 v8 v9 v10 v11 v12 v13 v14 v15 v16 v17 : Value} (h : R18 w b v0 v1 v2 v3 v4 v5 v6 v7 v8 v9 v10 v11 v12 v13 v14 v15 v16 v17) : w.cell? ⟨b, 8, none⟩ = some v8 := Lib.cell_of_heap h 8
theorem R18.c9 {w : World} {b : Nat} {v0 v1 v2 v3 v4 v5 v6 v7 v8 v9 v10 v11 v12 v13 v14 v15 v16 v17 : Value} (h : R18 w b v0 v1 v2 v3 v4 v5 v6 v7 v8 v9 v10 v11 v12 v13 v14 v15 v16 v17) : w.cell? ⟨b, 9, none⟩ = some v9 := Lib.cell_of_heap h 9
theorem R18.c10 {w : World} {b : Nat} {v0 v1 v2 v3 v4 v5 v6 v7 v8 v9 v10 v11 v12 v13 v14 v15 v16 v17 : Value} (h : R18 w b v0 v1 v2 v3 v4 v5 v6 v7 v8 v9 v10 v11 v12 v13 v14 v15 v16 v17) : w.cell? ⟨b, 10, none⟩ = some v10 := Lib.cell_of_heap h 10
theorem R18.c11 {w : World} {b : Nat} {v0 v1 v2 v3 v4 v5 v6 v7 v8 v9 v10 v11 v12 v13 v14 v15 v16 v17 : Value} (h : R18 w b v0 v1 v2 v3 v4 v5 v6 v7 v8 v9 v10 v11 v12 v13 v14 v15 v16 v17) : w.cell? ⟨b, 11, none⟩ = some v11 := Lib.cell_of_heap h 11
theorem R18.c12 {w : World} {b : Nat} {v0 v1 v2 v3 v4 v5 v6 v7 v8 v9 v10 v11 v12 v13 v14 v15 v16 v17 : Value} (h : R18 w b v0 v1 v2 v3 v4 v5 v6 v7 v8 v9 v10 v11 v12 v13 v14 v15 v16 v17) : w.cell? ⟨b, 12, none⟩ = some v12 := Lib.cell_of_heap h 12
theorem R18.c13 {w : World} {b : Nat} {v0 v1 v2 v3 v4 v5 v6 v7 v8 v9 v10 v11 v12 v13 v14 v15 v16 v17 : Value} (h : R18 w b v0 v1 v2 v3 v4 v5 v6 v7 v8 v9 v10 v11 v12 v13 v14 v15 v16 v17) : w.cell? ⟨b, 13, none⟩ = some v13 := Lib.cell_of_heap h 13
theorem R18.fr {w : World} {b : Nat} {v0 v1 v2 v3 v4 v5 v6 v7 v8 v9 v10 v11 v12 v13 v14 v15 v16 v17 : Value} (h : R18 w b v0 v1 v2 v3 v4 v5 v6 v7 v8 v9 v10 v11 v12 v13 v14 v15 v16 v17) (j : Nat) : w.frozen? ⟨b, j, none⟩ = false := Lib.frozen_of_heap h j
theorem R18.lt {w : World} {b : Nat} {v0 v1 v2 v3 v4 v5 v6 v7 v8 v9 v10 v11 v12 v13 v14 v15 v16 v17 : Value} (h : R18 w b v0 v1 v2 v3 v4 v5 v6 v7 v8 v9 v10 v11 v12 v13 v14 v15 v16 v17) : b < w.heap.size := (Array.getElem?_eq_some_iff.1 h).1
theorem R18.kept {w : World} {b : Nat} {v0 v1 v2 v3 v4 v5 v6 v7 v8 v9 v10 v11 v12 v13 v14 v15 v16 v17 : Value} (h : R18 w b v0 v1 v2 v3 v4 v5 v6 v7 v8 v9 v10 v11 v12 v13 v14 v15 v16 v17) {G : Nat → Prop} {w' : World} (hk : Kg G w w') (hG : G b) : R18 w' b v0 v1 v2 v3 v4 v5 v6 v7 v8 v9 v10 v11 v12 v13 v14 v15 v16 v17 := (hk.block b hG).trans h
theorem R18.alloc {w : World} {b : Nat} {v0 v1 v2 v3 v4 v5 v6 v7 v8 v9 v10 v11 v12 v13 v14 v15 v16 v17 : Value} (h : R18 w b v0 v1 v2 v3 v4 v5 v6 v7 v8 v9 v10 v11 v12 v13 v14 v15 v16 v17) (o : Obj) : R18 (w.alloc o) b v0 v1 v2 v3 v4 v5 v6 v7 v8 v9 v10 v11 v12 v13 v14 v15 v16 v17 := (Lib.alloc_old w o b h.lt).trans h
--81R
/-- the Reader in block b -/
abbrev RB (w : World) (b : Nat) (nx : Value) (sz : Nat) (hp op ep : Nat × Nat) (rw wd : Nat) (bp bv cv tv : Value) (fp : Nat × Nat) (ev : Value) (dn : Bool) : Prop :=
  R18 w b nx (.int .i64 (sz : Int)) (.int .i64 (hp.1 : Int)) (.int .i64 (hp.2 : Int)) (.int .i64 (op.1 : Int)) (.int .i64 (op.2 : Int)) (.int .i64 (ep.1 : Int)) (.int .i64 (ep.2 : Int)) (.int .i64 (rw : Int)) (.int .i64 (wd : Int)) bp bv cv tv (.int .i64 (fp.1 : Int)) (.int .i64 (fp.2 : Int)) ev (.bool dn)
end Go.Proofs.YtmgfdnccmeahjaaGreatDoor
