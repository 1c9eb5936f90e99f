/-
  Sp1: Sheets, told twice: the Reader's states byte by byte, and cells, rows and all of them from the left.
  Sp2: Sheets: what the Reader's states come to is what the document reads: cells, rows, all.
  Sp3: Sheets: texts that are too long; what Parse answers.
  Sq1: Sheets: a Reader in memory; what stays.
-/
import Derived.Test.YtmgfdnccmeahjaaGreatDoorProg
import Derived.WalkKit
import Derived.ProofKit
import Derived.RowKit
import Derived.Below
import Derived.Handy
import Derived.Maps.AppendAt
import Derived.Laws.AppendOwnNone
import Derived.Laws.OwnMore
import Derived.Lib.Builder
import Derived.Lib.BufferMore
import Derived.Lib.AppendStr
import Derived.Lib.UnsafeStr
import Derived.OpenShut
import Derived.Deep.MidRow
import Derived.Deep.QuietTactic
import Derived.Deep.RegionWith
import Derived.BigQuiet
import Derived.WalkSmall
import Derived.OwnWalk
import Derived.Laws.EntriesVeiled
namespace Go.Proofs.YtmgfdnccmeahjaaGreatDoor
set_option maxRecDepth 100000
set_option linter.unusedVariables false
set_option linter.unusedSimpArgs false

def bt (L : List UInt8) (i : Nat) : UInt8 := L.getD i 0
def ch (L : List UInt8) (i : Nat) : Nat := (bt L i).toNat
/-- may a cell have this byte? -/
def mayB (c : Nat) : Bool := c == 9 || c == 10 || c == 13 || (decide (32 ≤ c) && c != 127)

/-! the Reader -/

structure Rs where
  md : Nat
  sz : Nat
  hp : Nat × Nat
  op : Nat × Nat
  ep : Nat × Nat
  rw : Nat
  wd : Nat
  cur : List UInt8
  cs : List (List UInt8)
  td : List (List (List UInt8))
  er : Nat
  fp : Nat × Nat

def adv (p : Nat × Nat) (c : Nat) : Nat × Nat := if c = 10 then (p.1 + 1, 0) else (p.1, p.2 + 1)

def Rs.fail (s : Rs) (code : Nat) (p : Nat × Nat) : Rs := { s with er := code, fp := p, cur := [], cs := [] }
def Rs.add (s : Rs) (c : UInt8) : Rs := if s.cur.length = 4096 then s.fail 5 s.hp else { s with cur := s.cur ++ [c] }
def Rs.endRow (s : Rs) (p : Nat × Nat) : Rs := if 0 < s.rw ∧ s.cs.length ≠ s.wd then s.fail 8 p else { s with rw := s.rw + 1, wd := s.cs.length, td := s.td ++ [s.cs], cur := [], cs := [], md := 1 }
def Rs.cel (s : Rs) : Rs := { s with cs := s.cs ++ [s.cur], cur := [] }
/-- behind a cell: none is the text's end -/
def Rs.endCell (s : Rs) (c : Option UInt8) : Rs :=
  match c with
  | none => s.cel.endRow s.hp
  | some c => if c.toNat = 13 then { s.cel with ep := s.hp, md := 6 } else if s.cs.length + 1 = 64 then s.cel.fail 6 s.hp else { s.cel with md := 2 }
def Rs.plain (s : Rs) (c : Option UInt8) : Rs :=
  match c with
  | none => s.endCell none
  | some c => if c.toNat = 44 ∨ c.toNat = 13 then s.endCell (some c) else if c.toNat = 10 then s.fail 3 s.hp else if c.toNat = 34 then s.fail 2 s.hp else if c.toNat = 9 ∨ mayB c.toNat = false then s.fail 4 s.hp else s.add c
def Rs.quoted (s : Rs) (c : Option UInt8) : Rs :=
  match c with
  | none => s.fail 1 s.op
  | some c => if c.toNat = 34 then { s with md := 5 } else if mayB c.toNat = false then s.fail 4 s.hp else s.add c
def Rs.behindQuote (s : Rs) (c : Option UInt8) : Rs :=
  match c with
  | none => s.endCell none
  | some c => if c.toNat = 34 then Rs.add { s with md := 4 } c else if c.toNat = 44 ∨ c.toNat = 13 then s.endCell (some c) else if c.toNat = 10 then s.fail 3 s.hp else s.fail 2 s.hp
def Rs.behindReturn (s : Rs) (c : Option UInt8) : Rs :=
  match c with
  | none => s.fail 3 s.ep
  | some c => if c.toNat = 10 then s.endRow s.ep else s.fail 3 s.ep
def Rs.beginCell (s : Rs) (c : Option UInt8) : Rs :=
  match c with
  | none => Rs.plain { s with md := 3 } none
  | some c => if c.toNat = 34 then { s with op := s.hp, md := 4 } else Rs.plain { s with md := 3 } (some c)
def Rs.beginRow (s : Rs) (c : Option UInt8) : Rs :=
  match c with
  | none => s
  | some c => if s.rw = 4096 then s.fail 7 s.hp else s.beginCell (some c)
def Rs.next (s : Rs) (c : Option UInt8) : Rs :=
  if s.md = 1 then s.beginRow c else if s.md = 2 then s.beginCell c else if s.md = 3 then s.plain c else if s.md = 4 then s.quoted c else if s.md = 5 then s.behindQuote c else s.behindReturn c
def Rs.gone (s : Rs) (c : UInt8) : Rs := { s with sz := s.sz + 1, hp := adv s.hp c.toNat }
def Rs.take (s : Rs) (c : UInt8) : Rs := if s.sz = 262144 then s.fail 20 s.hp else (s.next (some c)).gone c

/-- bytes are taken, up to the first fault -/
def runL (s : Rs) : List UInt8 → Rs
  | [] => s
  | c :: r => if s.er = 0 then runL (s.take c) r else s
/-- the bytes of L from place i on are taken, up to the first fault -/
def feed (L : List UInt8) (s : Rs) (i : Nat) : Rs := runL s (L.drop i)

/-! the document -/

/-- where a byte lies -/
def plc (L : List UInt8) : Nat → Nat × Nat
  | 0 => (1, 0)
  | n + 1 => adv (plc L n) (ch L n)

/-- a quoted cell, so many bytes being left -/
def qdN (L : List UInt8) (fr : Nat) : Nat → Nat → List UInt8 → List UInt8 × Nat × Nat × Nat
  | 0, _, _ => ([], 0, 1, fr)
  | 1, i, t => if ch L i = 34 then (t, i + 1, 0, 0) else if mayB (ch L i) = false then ([], 0, 4, i) else if t.length = 4096 then ([], 0, 5, i) else ([], 0, 1, fr)
  | n + 2, i, t =>
    if ch L i = 34 then
      if ch L (i + 1) ≠ 34 then (t, i + 1, 0, 0)
      else if t.length = 4096 then ([], 0, 5, i + 1) else qdN L fr n (i + 2) (t ++ [bt L (i + 1)])
    else if mayB (ch L i) = false then ([], 0, 4, i)
    else if t.length = 4096 then ([], 0, 5, i) else qdN L fr (n + 1) (i + 1) (t ++ [bt L i])
/-- a quoted cell: its text, the place behind it, the fault's code and place -/
def qd (L : List UInt8) (fr i : Nat) (t : List UInt8) : List UInt8 × Nat × Nat × Nat := qdN L fr (L.length - i) i t
theorem qd_eq (L : List UInt8) (fr i : Nat) (t : List UInt8) : qd L fr i t =
  (if i < L.length then
    if ch L i = 34 then
      if L.length ≤ i + 1 ∨ ch L (i + 1) ≠ 34 then (t, i + 1, 0, 0)
      else if t.length = 4096 then ([], 0, 5, i + 1) else qd L fr (i + 2) (t ++ [bt L (i + 1)])
    else if mayB (ch L i) = false then ([], 0, 4, i)
    else if t.length = 4096 then ([], 0, 5, i) else qd L fr (i + 1) (t ++ [bt L i])
  else ([], 0, 1, fr)) := by
  unfold qd
  rcases Nat.lt_or_ge i L.length with h | h
  · rw [if_pos h]
    rcases Nat.lt_or_ge (i + 1) L.length with h2 | h2
    · obtain ⟨n, hn⟩ : ∃ n, L.length - i = n + 2 := ⟨L.length - i - 2, by omega⟩
      have h3 : L.length - (i + 1) = n + 1 := by omega
      have h4 : L.length - (i + 2) = n := by omega
      rw [hn, h3, h4, qdN]
      have h5 : ¬ L.length ≤ i + 1 := by omega
      simp only [h5, false_or]
    · have hn : L.length - i = 1 := by omega
      have h3 : L.length - (i + 1) = 0 := by omega
      rw [hn, h3, qdN, qdN]
      simp only [h2, true_or, if_true]
  · rw [if_neg (by omega), show L.length - i = 0 by omega, qdN]

/-- a bare cell, so many bytes being left -/
def qlN (L : List UInt8) (fr : Nat) : Nat → Nat → Nat × Nat × Nat
  | 0, i => (i, 0, 0)
  | n + 1, i =>
    if ch L i ≠ 44 ∧ ch L i ≠ 13 then
      if ch L i = 10 then (0, 3, i) else if ch L i = 34 then (0, 2, i) else if ch L i = 9 ∨ mayB (ch L i) = false then (0, 4, i) else if i - fr = 4096 then (0, 5, i) else qlN L fr n (i + 1)
    else (i, 0, 0)
/-- a bare cell: the place behind it, the fault's code and place -/
def ql (L : List UInt8) (fr i : Nat) : Nat × Nat × Nat := qlN L fr (L.length - i) i
theorem ql_eq (L : List UInt8) (fr i : Nat) : ql L fr i =
  (if i < L.length ∧ ch L i ≠ 44 ∧ ch L i ≠ 13 then
    if ch L i = 10 then (0, 3, i) else if ch L i = 34 then (0, 2, i) else if ch L i = 9 ∨ mayB (ch L i) = false then (0, 4, i) else if i - fr = 4096 then (0, 5, i) else ql L fr (i + 1)
  else (i, 0, 0)) := by
  unfold ql
  rcases Nat.lt_or_ge i L.length with h | h
  · obtain ⟨n, hn⟩ : ∃ n, L.length - i = n + 1 := ⟨L.length - i - 1, by omega⟩
    have h3 : L.length - (i + 1) = n := by omega
    rw [hn, h3, qlN]
    simp only [h, true_and]
  · rw [if_neg (fun h' => by omega), show L.length - i = 0 by omega, qlN]

def sub (L : List UInt8) (a b : Nat) : List UInt8 := (L.take b).drop a

def cel (L : List UInt8) (fr : Nat) : List UInt8 × Nat × Nat × Nat :=
  if fr < L.length ∧ ch L fr = 34 then
    let q := qd L fr (fr + 1) []
    if q.2.2.1 ≠ 0 ∨ q.2.1 = L.length ∨ ch L q.2.1 = 44 ∨ ch L q.2.1 = 13 then q
    else if ch L q.2.1 = 10 then ([], 0, 3, q.2.1) else ([], 0, 2, q.2.1)
  else
    let q := ql L fr fr
    if q.2.1 = 0 then (sub L fr q.1, q.1, 0, 0) else ([], 0, q.2.1, q.2.2)

/-- a row from place i on, behind these cells -/
def rowD (L : List UInt8) : Nat → Nat → List (List UInt8) → List (List UInt8) × Nat × Nat × Nat
  | 0, _, _ => ([], 0, 0, 0)
  | n + 1, i, acc =>
    let q := cel L i
    if q.2.2.1 ≠ 0 then ([], 0, q.2.2.1, q.2.2.2)
    else if q.2.1 < L.length ∧ ch L q.2.1 = 44 then
      if acc.length + 1 = 64 then ([], 0, 6, q.2.1) else rowD L n (q.2.1 + 1) (acc ++ [q.1])
    else (acc ++ [q.1], q.2.1, 0, 0)

/-- all rows from place i on, behind these: the rows, how many an LF has ended, the fault's code and place -/
def rdD (L : List UInt8) : Nat → Nat → List (List (List UInt8)) → List (List (List UInt8)) × Nat × Nat × Nat
  | 0, _, _ => ([], 0, 0, 0)
  | n + 1, i, acc =>
    if i < L.length then
      if acc.length = 4096 then (acc, acc.length, 7, i)
      else
        let q := rowD L (L.length + 1) i []
        if q.2.2.1 ≠ 0 then (acc, acc.length, q.2.2.1, q.2.2.2)
        else if q.2.1 < L.length ∧ (q.2.1 + 1 = L.length ∨ ch L (q.2.1 + 1) ≠ 10) then (acc, acc.length, 3, q.2.1)
        else if 0 < acc.length ∧ q.1.length ≠ (acc.headD []).length then (acc, acc.length, 8, q.2.1)
        else if q.2.1 = L.length then (acc ++ [q.1], acc.length, 0, 0)
        else rdD L n (q.2.1 + 2) (acc ++ [q.1])
    else (acc, acc.length, 0, 0)

/-- does a fault of some bytes show, whatever may come behind them? -/
def shw (L : List UInt8) (c f : Nat) : Bool :=
  if c = 0 ∨ c = 1 then false else if c = 3 then decide (ch L f = 10 ∨ f + 1 < L.length) else if c = 8 then decide (f < L.length) else true

/-! the two are one -/

/-- the Reader at place i without a fault -/
def st (L : List UInt8) (md i : Nat) (o e : Nat × Nat) (rw wd : Nat) (cur : List UInt8) (cs : List (List UInt8)) (td : List (List (List UInt8))) : Rs :=
  { md := md, sz := i, hp := plc L i, op := o, ep := e, rw := rw, wd := wd, cur := cur, cs := cs, td := td, er := 0, fp := (0, 0) }

/-- a fault was told -/
def Bad (R : Rs) (c : Nat) (p : Nat × Nat) (T : List (List (List UInt8))) : Prop := R.er = c ∧ R.fp = p ∧ R.td = T

theorem runL_er (s : Rs) (l : List UInt8) (h : s.er ≠ 0) : runL s l = s := by
  cases l with
  | nil => rfl
  | cons c r => rw [runL, if_neg h]
theorem feed_er (L : List UInt8) (s : Rs) (i : Nat) (h : s.er ≠ 0) : feed L s i = s := runL_er s _ h
theorem feed_end (L : List UInt8) (s : Rs) (i : Nat) (h : L.length ≤ i) : feed L s i = s := by
  unfold feed
  rw [List.drop_eq_nil_of_le h]
  rfl
theorem feed_go (L : List UInt8) (s : Rs) (i : Nat) (h : i < L.length) (he : s.er = 0) : feed L s i = feed L (s.take (bt L i)) (i + 1) := by
  unfold feed
  have hb : bt L i = L[i] := by unfold bt; rw [List.getD_eq_getElem?_getD, List.getElem?_eq_getElem h]; rfl
  rw [List.drop_eq_getElem_cons h, runL, if_pos he, hb]
theorem feed_st (L : List UInt8) (md i : Nat) (o e : Nat × Nat) (rw wd : Nat) (cur : List UInt8) (cs : List (List UInt8)) (td : List (List (List UInt8))) (h : i < L.length) (hL : L.length ≤ 262144) :
    feed L (st L md i o e rw wd cur cs td) i = feed L (((st L md i o e rw wd cur cs td).next (some (bt L i))).gone (bt L i)) (i + 1) := by
  rw [feed_go L _ i h rfl, Rs.take, if_neg (show ¬ ((st L md i o e rw wd cur cs td).sz = 262144) by simp only [st]; omega)]
theorem feed_bad (L : List UInt8) (s : Rs) (i c : Nat) (p : Nat × Nat) (T : List (List (List UInt8))) (h : Bad s c p T) (hc : c ≠ 0) : Bad (feed L s i) c p T := by
  rw [feed_er L s i (by rw [h.1]; exact hc)]; exact h
theorem plc_succ (L : List UInt8) (i : Nat) : plc L (i + 1) = adv (plc L i) (bt L i).toNat := rfl

/-- within a quoted cell -/
theorem qd_feed (L : List UInt8) (hL : L.length ≤ 262144) (fr : Nat) (o e : Nat × Nat) (rw wd : Nat) (cs : List (List UInt8)) (td : List (List (List UInt8))) :
    ∀ (n i : Nat) (t : List UInt8), L.length - i ≤ n → t.length ≤ 4096 → i ≤ L.length →
      ((qd L fr i t).2.2.1 = 0 ∧ i < (qd L fr i t).2.1 ∧ (qd L fr i t).2.1 ≤ L.length ∧ (qd L fr i t).1.length ≤ 4096 ∧ ((qd L fr i t).2.1 < L.length → ch L (qd L fr i t).2.1 ≠ 34) ∧ feed L (st L 4 i o e rw wd t cs td) i = feed L (st L 5 (qd L fr i t).2.1 o e rw wd (qd L fr i t).1 cs td) (qd L fr i t).2.1)
      ∨ (qd L fr i t = ([], 0, 1, fr) ∧ ∃ t', feed L (st L 4 i o e rw wd t cs td) i = st L 4 L.length o e rw wd t' cs td)
      ∨ (((qd L fr i t).2.2.1 = 4 ∨ (qd L fr i t).2.2.1 = 5) ∧ (qd L fr i t).2.2.2 < L.length ∧ Bad (feed L (st L 4 i o e rw wd t cs td) i) (qd L fr i t).2.2.1 (plc L (qd L fr i t).2.2.2) td) := by
  intro n
  induction n with
  | zero =>
    intro i t hn ht hi
    have he : i = L.length := by omega
    subst he
    refine .inr (.inl ⟨by rw [qd_eq]; simp, t, feed_end _ _ _ (Nat.le_refl _)⟩)
  | succ n ih =>
    intro i t hn ht hi
    by_cases h : i < L.length
    · by_cases hq : ch L i = 34
      · by_cases h2 : L.length ≤ i + 1 ∨ ch L (i + 1) ≠ 34
        · have hv : qd L fr i t = (t, i + 1, 0, 0) := by rw [qd_eq]; simp [h, hq, h2]
          rw [hv]
          refine .inl ⟨rfl, by simp, h, ht, fun h3 => ?_, ?_⟩
          · rcases h2 with h2 | h2
            · simp at h3; omega
            · exact h2
          · rw [feed_st L _ _ _ _ _ _ _ _ _ h hL]
            have hn : Rs.gone ((st L 4 i o e rw wd t cs td).next (some (bt L i))) (bt L i) = st L 5 (i + 1) o e rw wd t cs td := by
              have hq' : (bt L i).toNat = 34 := hq
              simp [st, Rs.next, Rs.quoted, Rs.gone, plc_succ, hq']
            rw [hn]
        · have h2' := not_or.1 h2
          have hlt : i + 1 < L.length := by omega
          have hq2 : ch L (i + 1) = 34 := Decidable.not_not.1 h2'.2
          have e1 : feed L (st L 4 i o e rw wd t cs td) i = feed L (st L 5 (i + 1) o e rw wd t cs td) (i + 1) := by
            rw [feed_st L _ _ _ _ _ _ _ _ _ h hL]
            have hq' : (bt L i).toNat = 34 := hq
            simp [st, Rs.next, Rs.quoted, Rs.gone, plc_succ, hq']
          have hq2' : (bt L (i + 1)).toNat = 34 := hq2
          by_cases h3 : t.length = 4096
          · have hv : qd L fr i t = ([], 0, 5, i + 1) := by rw [qd_eq]; simp [h, hq, h2, h3]
            rw [hv]
            refine .inr (.inr ⟨.inr rfl, hlt, ?_⟩)
            rw [e1, feed_st L _ _ _ _ _ _ _ _ _ hlt hL]
            refine feed_bad _ _ _ _ _ _ ?_ (by simp)
            simp [st, Rs.next, Rs.behindQuote, Rs.add, hq2', h3, Rs.gone, Rs.fail, Bad]
          · have hv : qd L fr i t = qd L fr (i + 2) (t ++ [bt L (i + 1)]) := by rw [qd_eq L fr i t]; simp [h, hq, h2, h3]
            have e2 : feed L (st L 4 i o e rw wd t cs td) i = feed L (st L 4 (i + 2) o e rw wd (t ++ [bt L (i + 1)]) cs td) (i + 2) := by
              rw [e1, feed_st L _ _ _ _ _ _ _ _ _ hlt hL]
              simp [st, Rs.next, Rs.behindQuote, Rs.add, hq2', h3, Rs.gone, plc_succ]
            rw [hv, e2]
            have := ih (i + 2) (t ++ [bt L (i + 1)]) (by omega) (by simp; omega) (by omega)
            rcases this with ⟨a, b, c⟩ | h' | h'
            · exact .inl ⟨a, by omega, c⟩
            · exact .inr (.inl h')
            · exact .inr (.inr h')
      · have hq' : ¬ (bt L i).toNat = 34 := hq
        by_cases hm : mayB (ch L i) = false
        · have hv : qd L fr i t = ([], 0, 4, i) := by rw [qd_eq]; simp [h, hq, hm]
          rw [hv]
          refine .inr (.inr ⟨.inl rfl, h, ?_⟩)
          rw [feed_st L _ _ _ _ _ _ _ _ _ h hL]
          refine feed_bad _ _ _ _ _ _ ?_ (by simp)
          have hm' : mayB (bt L i).toNat = false := hm
          simp [st, Rs.next, Rs.quoted, hq', hm', Rs.gone, Rs.fail, Bad]
        · have hm' : ¬ mayB (bt L i).toNat = false := hm
          by_cases h3 : t.length = 4096
          · have hv : qd L fr i t = ([], 0, 5, i) := by rw [qd_eq]; simp [h, hq, hm, h3]
            rw [hv]
            refine .inr (.inr ⟨.inr rfl, h, ?_⟩)
            rw [feed_st L _ _ _ _ _ _ _ _ _ h hL]
            refine feed_bad _ _ _ _ _ _ ?_ (by simp)
            simp [st, Rs.next, Rs.quoted, hq', hm', Rs.gone, Rs.fail, Bad, Rs.add, h3]
          · have hv : qd L fr i t = qd L fr (i + 1) (t ++ [bt L i]) := by rw [qd_eq L fr i t]; simp [h, hq, hm, h3]
            have e2 : feed L (st L 4 i o e rw wd t cs td) i = feed L (st L 4 (i + 1) o e rw wd (t ++ [bt L i]) cs td) (i + 1) := by
              rw [feed_st L _ _ _ _ _ _ _ _ _ h hL]
              simp [st, Rs.next, Rs.quoted, hq', hm', Rs.add, h3, Rs.gone, plc_succ]
            rw [hv, e2]
            have := ih (i + 1) (t ++ [bt L i]) (by omega) (by simp; omega) (by omega)
            rcases this with ⟨a, b, c⟩ | h' | h'
            · exact .inl ⟨a, by omega, c⟩
            · exact .inr (.inl h')
            · exact .inr (.inr h')
    · have he : i = L.length := by omega
      subst he
      refine .inr (.inl ⟨by rw [qd_eq]; simp, t, feed_end _ _ _ (Nat.le_refl _)⟩)

theorem sub_snoc (L : List UInt8) (a i : Nat) (h : i < L.length) (ha : a ≤ i) : sub L a (i + 1) = sub L a i ++ [bt L i] := by
  unfold sub bt
  rw [List.take_add_one, List.drop_append_of_le_length (by simp; omega), List.getD_eq_getElem?_getD, List.getElem?_eq_getElem h]
  rfl
theorem sub_len (L : List UInt8) (a i : Nat) (h : i ≤ L.length) : (sub L a i).length = i - a := by
  unfold sub; simp; omega
theorem sub_nil (L : List UInt8) (a : Nat) : sub L a a = [] := by
  unfold sub; apply List.drop_eq_nil_of_le; simp; omega

/-- within a bare cell -/
theorem ql_feed (L : List UInt8) (hL : L.length ≤ 262144) (fr : Nat) (o e : Nat × Nat) (rw wd : Nat) (cs : List (List UInt8)) (td : List (List (List UInt8))) :
    ∀ (n i : Nat), L.length - i ≤ n → fr ≤ i → i - fr ≤ 4096 → i ≤ L.length →
      ((ql L fr i).2.1 = 0 ∧ i ≤ (ql L fr i).1 ∧ (ql L fr i).1 ≤ L.length ∧ ((ql L fr i).1 < L.length → ch L (ql L fr i).1 = 44 ∨ ch L (ql L fr i).1 = 13) ∧ (ql L fr i).1 - fr ≤ 4096 ∧ feed L (st L 3 i o e rw wd (sub L fr i) cs td) i = feed L (st L 3 (ql L fr i).1 o e rw wd (sub L fr (ql L fr i).1) cs td) (ql L fr i).1)
      ∨ (((ql L fr i).2.1 = 2 ∨ (ql L fr i).2.1 = 4 ∨ (ql L fr i).2.1 = 5 ∨ ((ql L fr i).2.1 = 3 ∧ ch L (ql L fr i).2.2 = 10)) ∧ (ql L fr i).2.2 < L.length ∧ Bad (feed L (st L 3 i o e rw wd (sub L fr i) cs td) i) (ql L fr i).2.1 (plc L (ql L fr i).2.2) td) := by
  intro n
  induction n with
  | zero =>
    intro i hn hf hc hi
    have he : i = L.length := by omega
    subst he
    have hv : ql L fr L.length = (L.length, 0, 0) := by rw [ql_eq]; simp
    rw [hv]
    exact .inl ⟨rfl, Nat.le_refl _, Nat.le_refl _, fun h => absurd h (Nat.lt_irrefl _), hc, rfl⟩
  | succ n ih =>
    intro i hn hf hc hi
    by_cases h : i < L.length ∧ ch L i ≠ 44 ∧ ch L i ≠ 13
    · obtain ⟨h, h44, h13⟩ := h
      have h44' : ¬ (bt L i).toNat = 44 := h44
      have h13' : ¬ (bt L i).toNat = 13 := h13
      by_cases h10 : ch L i = 10
      · have hv : ql L fr i = (0, 3, i) := by rw [ql_eq]; simp [h, h10]
        rw [hv]
        refine .inr ⟨.inr (.inr (.inr ⟨rfl, h10⟩)), h, ?_⟩
        rw [feed_st L _ _ _ _ _ _ _ _ _ h hL]
        refine feed_bad _ _ _ _ _ _ ?_ (by simp)
        have h10' : (bt L i).toNat = 10 := h10
        simp [st, Rs.next, Rs.plain, h10', Rs.gone, Rs.fail, Bad]
      · have h10' : ¬ (bt L i).toNat = 10 := h10
        by_cases h34 : ch L i = 34
        · have hv : ql L fr i = (0, 2, i) := by rw [ql_eq]; simp [h, h34]
          rw [hv]
          refine .inr ⟨.inl rfl, h, ?_⟩
          rw [feed_st L _ _ _ _ _ _ _ _ _ h hL]
          refine feed_bad _ _ _ _ _ _ ?_ (by simp)
          have h34' : (bt L i).toNat = 34 := h34
          simp [st, Rs.next, Rs.plain, h34', Rs.gone, Rs.fail, Bad]
        · have h34' : ¬ (bt L i).toNat = 34 := h34
          by_cases h9 : ch L i = 9 ∨ mayB (ch L i) = false
          · have hv : ql L fr i = (0, 4, i) := by rw [ql_eq L fr i, if_pos ⟨h, h44, h13⟩, if_neg h10, if_neg h34, if_pos h9]
            rw [hv]
            refine .inr ⟨.inr (.inl rfl), h, ?_⟩
            rw [feed_st L _ _ _ _ _ _ _ _ _ h hL]
            refine feed_bad _ _ _ _ _ _ ?_ (by simp)
            have h9' : (bt L i).toNat = 9 ∨ mayB (bt L i).toNat = false := h9
            simp [st, Rs.next, Rs.plain, h44', h13', h10', h34', h9', Rs.gone, Rs.fail, Bad]
          · have h9' : ¬ ((bt L i).toNat = 9 ∨ mayB (bt L i).toNat = false) := h9
            by_cases h4 : i - fr = 4096
            · have hv : ql L fr i = (0, 5, i) := by rw [ql_eq L fr i, if_pos ⟨h, h44, h13⟩, if_neg h10, if_neg h34, if_neg h9, if_pos h4]
              rw [hv]
              refine .inr ⟨.inr (.inr (.inl rfl)), h, ?_⟩
              rw [feed_st L _ _ _ _ _ _ _ _ _ h hL]
              refine feed_bad _ _ _ _ _ _ ?_ (by simp)
              have hl : (sub L fr i).length = 4096 := by rw [sub_len _ _ _ hi]; exact h4
              simp [st, Rs.next, Rs.plain, h44', h13', h10', h34', h9', Rs.add, hl, Rs.gone, Rs.fail, Bad]
            · have hv : ql L fr i = ql L fr (i + 1) := by rw [ql_eq L fr i, if_pos ⟨h, h44, h13⟩, if_neg h10, if_neg h34, if_neg h9, if_neg h4]
              have hl : ¬ (sub L fr i).length = 4096 := by rw [sub_len _ _ _ hi]; exact h4
              have e2 : feed L (st L 3 i o e rw wd (sub L fr i) cs td) i = feed L (st L 3 (i + 1) o e rw wd (sub L fr (i + 1)) cs td) (i + 1) := by
                rw [feed_st L _ _ _ _ _ _ _ _ _ h hL, sub_snoc L fr i h hf]
                simp [st, Rs.next, Rs.plain, h44', h13', h10', h34', h9', Rs.add, hl, Rs.gone, plc_succ]
              rw [hv, e2]
              have := ih (i + 1) (by omega) (by omega) (by omega) (by omega)
              rcases this with ⟨a, b, c⟩ | h'
              · exact .inl ⟨a, by omega, c⟩
              · exact .inr h'
    · have hv : ql L fr i = (i, 0, 0) := by rw [ql_eq]; simp [h]
      rw [hv]
      refine .inl ⟨rfl, Nat.le_refl _, hi, fun h' => ?_, hc, rfl⟩
      have h2 : ¬ (ch L i ≠ 44 ∧ ch L i ≠ 13) := fun h3 => h ⟨h', h3⟩
      show ch L i = 44 ∨ ch L i = 13
      omega
end Go.Proofs.YtmgfdnccmeahjaaGreatDoor

namespace Go.Proofs.YtmgfdnccmeahjaaGreatDoor
set_option maxRecDepth 100000
set_option linter.unusedVariables false
set_option linter.unusedSimpArgs false

theorem cel_feed (L : List UInt8) (hL : L.length ≤ 262144) (i : Nat) (hi : i ≤ L.length) (o e : Nat × Nat) (rw wd : Nat) (cs : List (List UInt8)) (td : List (List (List UInt8))) :
    ((cel L i).2.2.1 = 0 ∧ i ≤ (cel L i).2.1 ∧ (cel L i).2.1 ≤ L.length ∧ (cel L i).1.length ≤ 4096
        ∧ ((cel L i).2.1 = L.length → ∃ o' m, feed L (st L 2 i o e rw wd [] cs td) i = st L m L.length o' e rw wd (cel L i).1 cs td ∧ (m = 2 ∨ m = 3 ∨ m = 5))
        ∧ ((cel L i).2.1 < L.length → (ch L (cel L i).2.1 = 44 ∨ ch L (cel L i).2.1 = 13) ∧ ∃ o' m, feed L (st L 2 i o e rw wd [] cs td) i = feed L (st L m (cel L i).2.1 o' e rw wd (cel L i).1 cs td) (cel L i).2.1 ∧ (m = 2 ∨ m = 3 ∨ m = 5)))
    ∨ (cel L i = ([], 0, 1, i) ∧ i < L.length ∧ ∃ t', feed L (st L 2 i o e rw wd [] cs td) i = st L 4 L.length (plc L i) e rw wd t' cs td)
    ∨ (((cel L i).2.2.1 = 2 ∨ (cel L i).2.2.1 = 4 ∨ (cel L i).2.2.1 = 5 ∨ ((cel L i).2.2.1 = 3 ∧ ch L (cel L i).2.2.2 = 10)) ∧ (cel L i).2.2.2 < L.length ∧ Bad (feed L (st L 2 i o e rw wd [] cs td) i) (cel L i).2.2.1 (plc L (cel L i).2.2.2) td) := by
  by_cases h : i < L.length ∧ ch L i = 34
  · obtain ⟨h, hq⟩ := h
    have hq' : (bt L i).toNat = 34 := hq
    have e1 : feed L (st L 2 i o e rw wd [] cs td) i = feed L (st L 4 (i + 1) (plc L i) e rw wd [] cs td) (i + 1) := by
      rw [feed_st L _ _ _ _ _ _ _ _ _ h hL]
      simp [st, Rs.next, Rs.beginCell, Rs.gone, plc_succ, hq']
    rw [e1]
    rcases qd_feed L hL i (plc L i) e rw wd cs td _ (i + 1) [] (Nat.le_refl _) (by simp) h with ⟨h0, h1, h2, h3, h4, h5⟩ | ⟨h0, t', h1⟩ | ⟨h0, h1, h2⟩
    · rw [h5]
      by_cases hb : (qd L i (i + 1) []).2.1 = L.length ∨ ch L (qd L i (i + 1) []).2.1 = 44 ∨ ch L (qd L i (i + 1) []).2.1 = 13
      · have hv : cel L i = qd L i (i + 1) [] := by rw [cel, if_pos ⟨h, hq⟩]; exact if_pos (.inr hb)
        rw [hv]
        refine .inl ⟨h0, by omega, h2, h3, fun h6 => ?_, fun h6 => ⟨?_, plc L i, 5, rfl, .inr (.inr rfl)⟩⟩
        · refine ⟨plc L i, 5, ?_, .inr (.inr rfl)⟩
          rw [h6]
          exact feed_end _ _ _ (Nat.le_refl _)
        · rcases hb with hb | hb
          · omega
          · exact hb
      · have hb' := not_or.1 hb
        have hlt : (qd L i (i + 1) []).2.1 < L.length := by omega
        have h44 : ¬ (bt L (qd L i (i + 1) []).2.1).toNat = 44 := fun h => hb'.2 (.inl h)
        have h13 : ¬ (bt L (qd L i (i + 1) []).2.1).toNat = 13 := fun h => hb'.2 (.inr h)
        have h34 : ¬ (bt L (qd L i (i + 1) []).2.1).toNat = 34 := h4 hlt
        have hno : ¬ ((qd L i (i + 1) []).2.2.1 ≠ 0 ∨ (qd L i (i + 1) []).2.1 = L.length ∨ ch L (qd L i (i + 1) []).2.1 = 44 ∨ ch L (qd L i (i + 1) []).2.1 = 13) := fun h' => h'.elim (fun h'' => h'' h0) hb
        by_cases h10 : ch L (qd L i (i + 1) []).2.1 = 10
        · have hv : cel L i = ([], 0, 3, (qd L i (i + 1) []).2.1) := by
            rw [cel, if_pos ⟨h, hq⟩]
            show (if _ then _ else _) = _
            rw [if_neg hno, if_pos h10]
          rw [hv]
          refine .inr (.inr ⟨.inr (.inr (.inr ⟨rfl, h10⟩)), hlt, ?_⟩)
          rw [feed_st L _ _ _ _ _ _ _ _ _ hlt hL]
          refine feed_bad _ _ _ _ _ _ ?_ (by simp)
          have h10' : (bt L (qd L i (i + 1) []).2.1).toNat = 10 := h10
          simp [st, Rs.next, Rs.behindQuote, h10', Rs.gone, Rs.fail, Bad]
        · have hv : cel L i = ([], 0, 2, (qd L i (i + 1) []).2.1) := by
            rw [cel, if_pos ⟨h, hq⟩]
            show (if _ then _ else _) = _
            rw [if_neg hno, if_neg h10]
          rw [hv]
          refine .inr (.inr ⟨.inl rfl, hlt, ?_⟩)
          rw [feed_st L _ _ _ _ _ _ _ _ _ hlt hL]
          refine feed_bad _ _ _ _ _ _ ?_ (by simp)
          have h10' : ¬ (bt L (qd L i (i + 1) []).2.1).toNat = 10 := h10
          simp [st, Rs.next, Rs.behindQuote, h10', h44, h13, h34, Rs.gone, Rs.fail, Bad]
    · have hv : cel L i = ([], 0, 1, i) := by rw [cel, if_pos ⟨h, hq⟩]; rw [h0]; simp
      exact .inr (.inl ⟨hv, h, t', h1⟩)
    · have hc : (qd L i (i + 1) []).2.2.1 ≠ 0 := by omega
      have hv : cel L i = qd L i (i + 1) [] := by rw [cel, if_pos ⟨h, hq⟩]; exact if_pos (.inl hc)
      rw [hv]
      refine .inr (.inr ⟨?_, h1, h2⟩)
      omega
  · have e1 : i < L.length → feed L (st L 2 i o e rw wd [] cs td) i = feed L (st L 3 i o e rw wd (sub L i i) cs td) i := by
      intro hlt
      have hq' : ¬ (bt L i).toNat = 34 := fun hq => h ⟨hlt, hq⟩
      rw [feed_st L _ _ _ _ _ _ _ _ _ hlt hL, feed_st L _ _ _ _ _ _ _ _ _ hlt hL, sub_nil]
      simp [st, Rs.next, Rs.beginCell, hq']
    rcases Nat.lt_or_ge i L.length with hlt | hge
    · rw [e1 hlt]
      rcases ql_feed L hL i o e rw wd cs td _ i (Nat.le_refl _) (Nat.le_refl _) (by omega) hi with ⟨h0, h1, h2, h3, h4, h5⟩ | ⟨h0, h1, h2⟩
      · have hv : cel L i = (sub L i (ql L i i).1, (ql L i i).1, 0, 0) := by rw [cel, if_neg h]; exact if_pos h0
        rw [hv, h5]
        refine .inl ⟨rfl, h1, h2, by rw [sub_len _ _ _ h2]; exact h4, fun h6 => ?_, fun h6 => ⟨h3 h6, o, 3, rfl, .inr (.inl rfl)⟩⟩
        refine ⟨o, 3, ?_, .inr (.inl rfl)⟩
        have h6' : (ql L i i).1 = L.length := h6
        rw [h6']
        exact feed_end _ _ _ (Nat.le_refl _)
      · have hc : (ql L i i).2.1 ≠ 0 := by omega
        have hv : cel L i = ([], 0, (ql L i i).2.1, (ql L i i).2.2) := by rw [cel, if_neg h]; exact if_neg hc
        rw [hv]
        exact .inr (.inr ⟨h0, h1, h2⟩)
    · have he : i = L.length := by omega
      subst he
      have hq : ql L L.length L.length = (L.length, 0, 0) := by rw [ql_eq]; simp
      have hv : cel L L.length = ([], L.length, 0, 0) := by rw [cel, if_neg h]; simp [hq, sub_nil]
      rw [hv]
      exact .inl ⟨rfl, Nat.le_refl _, Nat.le_refl _, by simp, fun _ => ⟨o, 2, feed_end _ _ _ (Nat.le_refl _), .inl rfl⟩, fun h => absurd h (Nat.lt_irrefl _)⟩

/-- behind a cell: the comma, the CR -/
theorem comma_many (L : List UInt8) (hL : L.length ≤ 262144) (m i : Nat) (hi : i < L.length) (hm : m = 2 ∨ m = 3 ∨ m = 5) (o e : Nat × Nat) (rw wd : Nat) (cur : List UInt8) (cs : List (List UInt8)) (td : List (List (List UInt8))) (h : ch L i = 44) (hl : cs.length + 1 = 64) :
    Bad (feed L (st L m i o e rw wd cur cs td) i) 6 (plc L i) td := by
  have h' : (bt L i).toNat = 44 := h
  rw [feed_st L _ _ _ _ _ _ _ _ _ hi hL]
  refine feed_bad _ _ _ _ _ _ ?_ (by simp)
  rcases hm with rfl | rfl | rfl <;> simp [st, Rs.next, Rs.beginCell, Rs.plain, Rs.behindQuote, Rs.endCell, Rs.cel, hl, h', Rs.gone, Rs.fail, Bad]
theorem cr_feed (L : List UInt8) (hL : L.length ≤ 262144) (m i : Nat) (hi : i < L.length) (hm : m = 2 ∨ m = 3 ∨ m = 5) (o e : Nat × Nat) (rw wd : Nat) (cur : List UInt8) (cs : List (List UInt8)) (td : List (List (List UInt8))) (h : ch L i = 13) :
    feed L (st L m i o e rw wd cur cs td) i = feed L (st L 6 (i + 1) o (plc L i) rw wd [] (cs ++ [cur]) td) (i + 1) := by
  have h' : (bt L i).toNat = 13 := h
  rw [feed_st L _ _ _ _ _ _ _ _ _ hi hL]
  rcases hm with rfl | rfl | rfl <;> simp [st, Rs.next, Rs.beginCell, Rs.plain, Rs.behindQuote, Rs.endCell, Rs.cel, h', Rs.gone, plc_succ]

theorem row_feed (L : List UInt8) (hL : L.length ≤ 262144) (e : Nat × Nat) (rw wd : Nat) (td : List (List (List UInt8))) :
    ∀ (n i : Nat) (o : Nat × Nat) (cs : List (List UInt8)), L.length - i < n → i ≤ L.length →
      ((rowD L n i cs).2.2.1 = 0 ∧ i ≤ (rowD L n i cs).2.1 ∧ (rowD L n i cs).2.1 ≤ L.length
        ∧ ((rowD L n i cs).2.1 = L.length → ∃ o' m t cs', feed L (st L 2 i o e rw wd [] cs td) i = st L m L.length o' e rw wd t cs' td ∧ (m = 2 ∨ m = 3 ∨ m = 5) ∧ (rowD L n i cs).1 = cs' ++ [t])
        ∧ ((rowD L n i cs).2.1 < L.length → ch L (rowD L n i cs).2.1 = 13 ∧ ∃ o', feed L (st L 2 i o e rw wd [] cs td) i = feed L (st L 6 ((rowD L n i cs).2.1 + 1) o' (plc L (rowD L n i cs).2.1) rw wd [] (rowD L n i cs).1 td) ((rowD L n i cs).2.1 + 1)))
      ∨ ((rowD L n i cs).2.2.1 = 1 ∧ (rowD L n i cs).2.2.2 < L.length ∧ ∃ t' cs', feed L (st L 2 i o e rw wd [] cs td) i = st L 4 L.length (plc L (rowD L n i cs).2.2.2) e rw wd t' cs' td)
      ∨ (((rowD L n i cs).2.2.1 = 2 ∨ (rowD L n i cs).2.2.1 = 4 ∨ (rowD L n i cs).2.2.1 = 5 ∨ (rowD L n i cs).2.2.1 = 6 ∨ ((rowD L n i cs).2.2.1 = 3 ∧ ch L (rowD L n i cs).2.2.2 = 10)) ∧ (rowD L n i cs).2.2.2 < L.length ∧ Bad (feed L (st L 2 i o e rw wd [] cs td) i) (rowD L n i cs).2.2.1 (plc L (rowD L n i cs).2.2.2) td) := by
  intro n
  induction n with
  | zero => intro i o cs h; omega
  | succ n ih =>
    intro i o cs hn hi
    rcases cel_feed L hL i hi o e rw wd cs td with ⟨h0, h1, h2, h3, h4, h5⟩ | ⟨h0, h1, t', h2⟩ | ⟨h0, h1, h2⟩
    · by_cases hc : (cel L i).2.1 < L.length ∧ ch L (cel L i).2.1 = 44
      · obtain ⟨_, o', m, h6, hm⟩ := h5 hc.1
        rw [h6]
        by_cases hl : cs.length + 1 = 64
        · have hv : rowD L (n + 1) i cs = ([], 0, 6, (cel L i).2.1) := by rw [rowD]; simp [h0, hc, hl]
          rw [hv]
          exact .inr (.inr ⟨.inr (.inr (.inr (.inl rfl))), hc.1, comma_many L hL m _ hc.1 hm o' e rw wd _ cs td hc.2 hl⟩)
        · have hv : rowD L (n + 1) i cs = rowD L n ((cel L i).2.1 + 1) (cs ++ [(cel L i).1]) := by rw [rowD]; simp [h0, hc, hl]
          rw [hv]
          have e2 : feed L (st L m (cel L i).2.1 o' e rw wd (cel L i).1 cs td) (cel L i).2.1 = feed L (st L 2 ((cel L i).2.1 + 1) o' e rw wd [] (cs ++ [(cel L i).1]) td) ((cel L i).2.1 + 1) := by
            have h' : (bt L (cel L i).2.1).toNat = 44 := hc.2
            rw [feed_st L _ _ _ _ _ _ _ _ _ hc.1 hL]
            rcases hm with rfl | rfl | rfl <;> simp [st, Rs.next, Rs.beginCell, Rs.plain, Rs.behindQuote, Rs.endCell, Rs.cel, hl, h', Rs.gone, plc_succ]
          rw [e2]
          have hlt := hc.1
          have b1 : L.length - ((cel L i).2.1 + 1) < n := by clear h4 h5; omega
          have := ih ((cel L i).2.1 + 1) o' (cs ++ [(cel L i).1]) b1 hlt
          rcases this with ⟨a, b, c⟩ | h' | h'
          · exact .inl ⟨a, by omega, c⟩
          · exact .inr (.inl h')
          · exact .inr (.inr h')
      · have hv : rowD L (n + 1) i cs = (cs ++ [(cel L i).1], (cel L i).2.1, 0, 0) := by rw [rowD]; simp [h0, hc]
        rw [hv]
        refine .inl ⟨rfl, h1, h2, fun h6 => ?_, fun h6 => ?_⟩
        · obtain ⟨o', m, h7, hm⟩ := h4 h6
          exact ⟨o', m, _, _, h7, hm, rfl⟩
        · obtain ⟨h8, o', m, h7, hm⟩ := h5 h6
          have h13 : ch L (cel L i).2.1 = 13 := h8.resolve_left (fun h => hc ⟨h6, h⟩)
          refine ⟨h13, o', ?_⟩
          rw [h7]
          exact cr_feed L hL m _ h6 hm o' e rw wd _ cs td h13
    · have hv : rowD L (n + 1) i cs = ([], 0, 1, i) := by rw [rowD]; simp [h0]
      rw [hv]
      exact .inr (.inl ⟨rfl, h1, t', cs, h2⟩)
    · have hc : (cel L i).2.2.1 ≠ 0 := by omega
      have hv : rowD L (n + 1) i cs = ([], 0, (cel L i).2.2.1, (cel L i).2.2.2) := by rw [rowD]; simp [hc]
      rw [hv]
      refine .inr (.inr ⟨?_, h1, h2⟩)
      rcases h0 with h0 | h0 | h0 | h0
      · exact .inl h0
      · exact .inr (.inl h0)
      · exact .inr (.inr (.inl h0))
      · exact .inr (.inr (.inr (.inr h0)))

/-- a row's beginning is a cell's -/
theorem begin_feed (L : List UInt8) (hL : L.length ≤ 262144) (i : Nat) (hi : i < L.length) (o e : Nat × Nat) (rw wd : Nat) (td : List (List (List UInt8))) (h : ¬ rw = 4096) :
    feed L (st L 1 i o e rw wd [] [] td) i = feed L (st L 2 i o e rw wd [] [] td) i := by
  rw [feed_st L _ _ _ _ _ _ _ _ _ hi hL, feed_st L _ _ _ _ _ _ _ _ _ hi hL]
  simp [st, Rs.next, Rs.beginRow, Rs.beginCell, h]

/-- what is read of a text, whole or not -/
def Reads2 (L : List UInt8) (R : Rs) (q : List (List (List UInt8)) × Nat × Nat × Nat) : Prop :=
  q.2.1 ≤ q.1.length ∧ q.2.2.2 ≤ L.length ∧
  ((shw L q.2.2.1 q.2.2.2 = true ∧ Bad R q.2.2.1 (plc L q.2.2.2) (q.1.take q.2.1) ∧ q.2.2.1 ≠ 0 ∧ q.2.2.1 ≤ 8)
   ∨ (shw L q.2.2.1 q.2.2.2 = false ∧ R.er = 0 ∧ R.td = q.1.take q.2.1 ∧ R.sz = L.length ∧ R.hp = plc L L.length ∧ ((q.2.2.1 = 0 ∧ (R.next none).er = 0 ∧ (R.next none).td = q.1) ∨ (q.2.2.1 ≠ 0 ∧ q.2.2.1 ≤ 8 ∧ Bad (R.next none) q.2.2.1 (plc L q.2.2.2) (q.1.take q.2.1)))))

theorem read_feed (L : List UInt8) (hL : L.length ≤ 262144) :
    ∀ (n i : Nat) (o e : Nat × Nat) (wd : Nat) (acc : List (List (List UInt8))), L.length - i < n → i ≤ L.length → (0 < acc.length → wd = (acc.headD []).length) →
      Reads2 L (feed L (st L 1 i o e acc.length wd [] [] acc) i) (rdD L n i acc) := by
  intro n
  induction n with
  | zero => intro i o e wd acc h; omega
  | succ n ih =>
    intro i o e wd acc hn hi hw
    by_cases h : i < L.length
    · by_cases hr : acc.length = 4096
      · have hv : rdD L (n + 1) i acc = (acc, acc.length, 7, i) := by rw [rdD]; simp [h, hr]
        rw [hv]
        refine ⟨Nat.le_refl _, hi, .inl ⟨by simp [shw], ?_, by simp, by simp⟩⟩
        rw [feed_st L _ _ _ _ _ _ _ _ _ h hL]
        refine feed_bad _ _ _ _ _ _ ?_ (by simp)
        simp [st, Rs.next, Rs.beginRow, hr, Rs.gone, Rs.fail, Bad]
        rw [← hr, List.take_length]
      · rw [begin_feed L hL i h o e acc.length wd acc hr]
        rcases row_feed L hL e acc.length wd acc (L.length + 1) i o [] (by omega) hi with ⟨h0, h1, h2, h3, h4⟩ | ⟨h0, h1, t', cs', h2⟩ | ⟨h0, h1, h2⟩
        · by_cases hc : (rowD L (L.length + 1) i []).2.1 < L.length ∧ ((rowD L (L.length + 1) i []).2.1 + 1 = L.length ∨ ch L ((rowD L (L.length + 1) i []).2.1 + 1) ≠ 10)
          · have hv : rdD L (n + 1) i acc = (acc, acc.length, 3, (rowD L (L.length + 1) i []).2.1) := by rw [rdD]; simp only [h, hr, h0, hc, if_true, if_false, ne_eq, not_true_eq_false, and_self]
            rw [hv]
            obtain ⟨h13, o', h5⟩ := h4 hc.1
            rw [h5]
            refine ⟨Nat.le_refl _, h2, ?_⟩
            rcases Nat.lt_or_ge ((rowD L (L.length + 1) i []).2.1 + 1) L.length with hlt | hge
            · have hne : ¬ ch L ((rowD L (L.length + 1) i []).2.1 + 1) = 10 := hc.2.resolve_left (by omega)
              have hne' : ¬ (bt L ((rowD L (L.length + 1) i []).2.1 + 1)).toNat = 10 := hne
              refine .inl ⟨by simp [shw, hlt], ?_, by simp, by simp⟩
              rw [feed_st L _ _ _ _ _ _ _ _ _ hlt hL]
              refine feed_bad _ _ _ _ _ _ ?_ (by simp)
              simp [st, Rs.next, Rs.behindReturn, hne', Rs.gone, Rs.fail, Bad]
            · have he : (rowD L (L.length + 1) i []).2.1 + 1 = L.length := by omega
              refine .inr ⟨?_, ?_⟩
              · simp only [shw, h13]
                simp
                omega
              · rw [feed_end L _ _ hge, he]
                refine ⟨rfl, by simp [st], rfl, rfl, .inr ⟨by simp, by simp, ?_⟩⟩
                simp [st, Rs.next, Rs.behindReturn, Rs.fail, Bad]
          · by_cases hg : 0 < acc.length ∧ (rowD L (L.length + 1) i []).1.length ≠ (acc.headD []).length
            · have hv : rdD L (n + 1) i acc = (acc, acc.length, 8, (rowD L (L.length + 1) i []).2.1) := by rw [rdD]; simp only [h, hr, h0, hc, hg, if_true, if_false, ne_eq, not_true_eq_false, not_false_eq_true, and_self]
              rw [hv]
              have hw' := hw hg.1
              refine ⟨Nat.le_refl _, h2, ?_⟩
              rcases Nat.lt_or_ge (rowD L (L.length + 1) i []).2.1 L.length with hlt | hge
              · obtain ⟨h13, o', h5⟩ := h4 hlt
                rw [h5]
                have hc' : ¬ ((rowD L (L.length + 1) i []).2.1 + 1 = L.length ∨ ch L ((rowD L (L.length + 1) i []).2.1 + 1) ≠ 10) := fun h' => hc ⟨hlt, h'⟩
                have hlt' : (rowD L (L.length + 1) i []).2.1 + 1 < L.length := by
                  have := (not_or.1 hc').1
                  omega
                have h10 : (bt L ((rowD L (L.length + 1) i []).2.1 + 1)).toNat = 10 := Decidable.not_not.1 (not_or.1 hc').2
                refine .inl ⟨by simp [shw, hlt], ?_, by simp, by simp⟩
                rw [feed_st L _ _ _ _ _ _ _ _ _ hlt' hL]
                refine feed_bad _ _ _ _ _ _ ?_ (by simp)
                have hg2 : 0 < acc.length ∧ (rowD L (L.length + 1) i []).1.length ≠ wd := ⟨hg.1, by rw [hw']; exact hg.2⟩
                simp [st, Rs.next, Rs.behindReturn, h10, Rs.endRow, hg2, Rs.gone, Rs.fail, Bad]
              · have he : (rowD L (L.length + 1) i []).2.1 = L.length := by omega
                obtain ⟨o', m, t, cs', h5, hm, h6⟩ := h3 he
                refine .inr ⟨?_, ?_⟩
                · simp only [shw]
                  simp
                  omega
                · rw [h5]
                  refine ⟨rfl, by simp [st], rfl, rfl, .inr ⟨by simp, by simp, ?_⟩⟩
                  have hg2 : 0 < acc.length ∧ cs'.length + 1 ≠ wd := ⟨hg.1, by rw [hw']; have := hg.2; rw [h6] at this; simpa using this⟩
                  rcases hm with rfl | rfl | rfl <;> simp [st, Rs.next, Rs.beginCell, Rs.plain, Rs.behindQuote, Rs.endCell, Rs.cel, Rs.endRow, hg2, Rs.fail, Bad, he]
            · have hrow : ∀ cs : List (List UInt8), cs = (rowD L (L.length + 1) i []).1 → ¬ (0 < acc.length ∧ cs.length ≠ wd) := by
                rintro cs rfl ⟨ha, hb⟩
                exact hg ⟨ha, by rw [← hw ha]; exact hb⟩
              by_cases he : (rowD L (L.length + 1) i []).2.1 = L.length
              · have hv : rdD L (n + 1) i acc = (acc ++ [(rowD L (L.length + 1) i []).1], acc.length, 0, 0) := by
                  rw [rdD]
                  simp only [h, hr, h0, hc, hg, he, if_true, if_false, ne_eq, not_true_eq_false, and_self, false_and, Nat.lt_irrefl]
                rw [hv]
                obtain ⟨o', m, t, cs', h5, hm, h6⟩ := h3 he
                refine ⟨by simp, by simp, .inr ⟨by simp [shw], ?_⟩⟩
                rw [h5]
                refine ⟨rfl, by simp [st], rfl, rfl, .inl ⟨rfl, ?_⟩⟩
                have hg2 := hrow (cs' ++ [t]) h6.symm
                simp only [List.length_append, List.length_cons, List.length_nil] at hg2
                rw [h6]
                rcases hm with rfl | rfl | rfl <;> simp [st, Rs.next, Rs.beginCell, Rs.plain, Rs.behindQuote, Rs.endCell, Rs.cel, Rs.endRow, hg2]
              · have hlt : (rowD L (L.length + 1) i []).2.1 < L.length := by omega
                have hv : rdD L (n + 1) i acc = rdD L n ((rowD L (L.length + 1) i []).2.1 + 2) (acc ++ [(rowD L (L.length + 1) i []).1]) := by
                  rw [rdD]
                  simp only [h, hr, h0, hc, hg, he, if_true, if_false, ne_eq, not_true_eq_false, and_self, false_and, Nat.lt_irrefl]
                rw [hv]
                obtain ⟨h13, o', h5⟩ := h4 hlt
                rw [h5]
                have hc' : ¬ ((rowD L (L.length + 1) i []).2.1 + 1 = L.length ∨ ch L ((rowD L (L.length + 1) i []).2.1 + 1) ≠ 10) := fun h' => hc ⟨hlt, h'⟩
                have hlt' : (rowD L (L.length + 1) i []).2.1 + 1 < L.length := by
                  have := (not_or.1 hc').1
                  omega
                have h10 : (bt L ((rowD L (L.length + 1) i []).2.1 + 1)).toNat = 10 := Decidable.not_not.1 (not_or.1 hc').2
                have hg2 := hrow _ rfl
                have e2 : feed L (st L 6 ((rowD L (L.length + 1) i []).2.1 + 1) o' (plc L (rowD L (L.length + 1) i []).2.1) acc.length wd [] (rowD L (L.length + 1) i []).1 acc) ((rowD L (L.length + 1) i []).2.1 + 1)
                    = feed L (st L 1 ((rowD L (L.length + 1) i []).2.1 + 2) o' (plc L (rowD L (L.length + 1) i []).2.1) (acc ++ [(rowD L (L.length + 1) i []).1]).length (rowD L (L.length + 1) i []).1.length [] [] (acc ++ [(rowD L (L.length + 1) i []).1])) ((rowD L (L.length + 1) i []).2.1 + 2) := by
                  rw [feed_st L _ _ _ _ _ _ _ _ _ hlt' hL]
                  congr 1
                  simp [st, Rs.next, Rs.behindReturn, h10, Rs.endRow, hg2, Rs.gone, plc_succ]
                rw [e2]
                have b1 : L.length - ((rowD L (L.length + 1) i []).2.1 + 2) < n := by clear h3 h4 h5 e2; omega
                refine ih _ _ _ _ _ b1 hlt' (fun _ => ?_)
                cases hacc : acc with
                | nil => simp
                | cons a ac =>
                  have hpos : 0 < acc.length := by rw [hacc]; simp
                  have hw' := hw hpos
                  have : (rowD L (L.length + 1) i []).1.length = wd := Decidable.not_not.1 (fun h' => hg2 ⟨hpos, h'⟩)
                  rw [this, hw', hacc]
                  simp
        · have hv : rdD L (n + 1) i acc = (acc, acc.length, 1, (rowD L (L.length + 1) i []).2.2.2) := by
            rw [rdD]
            simp [h, hr, h0]
          rw [hv, h2]
          refine ⟨Nat.le_refl _, Nat.le_of_lt h1, .inr ⟨by simp [shw], rfl, by simp [st], rfl, rfl, .inr ⟨by simp, by simp, ?_⟩⟩⟩
          simp [st, Rs.next, Rs.quoted, Rs.fail, Bad]
        · have hc : (rowD L (L.length + 1) i []).2.2.1 ≠ 0 := by omega
          have hv : rdD L (n + 1) i acc = (acc, acc.length, (rowD L (L.length + 1) i []).2.2.1, (rowD L (L.length + 1) i []).2.2.2) := by
            rw [rdD]
            simp [h, hr, hc]
          rw [hv]
          refine ⟨Nat.le_refl _, Nat.le_of_lt h1, .inl ⟨?_, by simpa using h2, hc, by simp only; omega⟩⟩
          simp only [shw]
          rcases h0 with h0 | h0 | h0 | h0 | ⟨h0, h10⟩ <;> rw [h0] <;> simp
          exact .inl h10
    · have he : i = L.length := by omega
      subst he
      have hv : rdD L (n + 1) L.length acc = (acc, acc.length, 0, 0) := by rw [rdD]; simp
      rw [hv, feed_end _ _ _ (Nat.le_refl _)]
      refine ⟨Nat.le_refl _, Nat.zero_le _, .inr ⟨by simp [shw], rfl, by simp [st], rfl, rfl, .inl ⟨rfl, ?_⟩⟩⟩
      simp [st, Rs.next, Rs.beginRow]
end Go.Proofs.YtmgfdnccmeahjaaGreatDoor

namespace Go.Proofs.YtmgfdnccmeahjaaGreatDoor
set_option maxRecDepth 100000
set_option linter.unusedVariables false
set_option linter.unusedSimpArgs false

theorem bt_take (L : List UInt8) (k i : Nat) (h : i < k) : bt (L.take k) i = bt L i := by
  unfold bt
  rw [List.getD_eq_getElem?_getD, List.getD_eq_getElem?_getD, List.getElem?_take_of_lt h]
theorem ch_take (L : List UInt8) (k i : Nat) (h : i < k) : ch (L.take k) i = ch L i := by unfold ch; rw [bt_take L k i h]
theorem plc_take (L : List UInt8) (k : Nat) : ∀ i, i ≤ k → plc (L.take k) i = plc L i
  | 0, _ => rfl
  | i + 1, h => by rw [plc, plc, plc_take L k i (by omega), ch_take L k i (by omega)]

/-- what comes first is taken first -/
theorem feed_take (L : List UInt8) (k : Nat) (hk : k ≤ L.length) : ∀ (n i : Nat) (s : Rs), k - i ≤ n → i ≤ k →
    feed L s i = (if (feed (L.take k) s i).er = 0 then feed L (feed (L.take k) s i) k else feed (L.take k) s i) := by
  intro n
  induction n with
  | zero =>
    intro i s hn hi
    have he : i = k := by omega
    subst he
    rw [feed_end (L.take i) s i (by simp; omega)]
    by_cases h : s.er = 0
    · rw [if_pos h]
    · rw [if_neg h, feed_er L s i h]
  | succ n ih =>
    intro i s hn hi
    rcases Nat.lt_or_ge i k with hlt | hge
    · by_cases h : s.er = 0
      · have e1 : feed L s i = feed L (s.take (bt L i)) (i + 1) := feed_go L s i (by omega) h
        have e2 : feed (L.take k) s i = feed (L.take k) (s.take (bt L i)) (i + 1) := by
          rw [feed_go (L.take k) s i (by simp; omega) h, bt_take L k i hlt]
        rw [e1, e2]
        exact ih (i + 1) _ (by omega) (by omega)
      · rw [feed_er (L.take k) s i h, feed_er L s i h, if_neg h]
    · have he : i = k := by omega
      subst he
      rw [feed_end (L.take i) s i (by simp; omega)]
      by_cases h : s.er = 0
      · rw [if_pos h]
      · rw [if_neg h, feed_er L s i h]

/-- the Reader to which nothing has come, begun -/
def s0 : Rs := { md := 1, sz := 0, hp := (1, 0), op := (0, 0), ep := (0, 0), rw := 0, wd := 0, cur := [], cs := [], td := [], er := 0, fp := (0, 0) }
/-- what the document reads: rows, how many an LF has ended, the fault's code and place -/
def rdA (L : List UInt8) : List (List (List UInt8)) × Nat × Nat × Nat :=
  if L.length ≤ 262144 then rdD L (L.length + 1) 0 []
  else
    let q := rdD (L.take 262144) ((L.take 262144).length + 1) 0 []
    if shw (L.take 262144) q.2.2.1 q.2.2.2 = true then q else (q.1.take q.2.1, q.2.1, 20, 262144)

/-- the bytes that Parse feeds -/
def cut (L : List UInt8) : List UInt8 := L.take (min L.length 262145)
def fdP (L : List UInt8) : Rs := feed (cut L) s0 0
def clP (s : Rs) : Rs := if s.er = 0 then Rs.next { s with td := [] } none else s

theorem next_td (s : Rs) : ((Rs.next { s with td := [] } none).er = (s.next none).er ∧ (Rs.next { s with td := [] } none).fp = (s.next none).fp) ∧ (s.next none).td = s.td ++ (Rs.next { s with td := [] } none).td := by
  by_cases hg : 0 < s.rw ∧ s.cs.length + 1 ≠ s.wd
  all_goals
    unfold Rs.next
    by_cases h1 : s.md = 1
    · simp [h1, Rs.beginRow]
    by_cases h2 : s.md = 2
    · simp [h2, Rs.beginCell, Rs.plain, Rs.endCell, Rs.cel, Rs.endRow, hg, Rs.fail]
    by_cases h3 : s.md = 3
    · simp [h3, Rs.plain, Rs.endCell, Rs.cel, Rs.endRow, hg, Rs.fail]
    by_cases h4 : s.md = 4
    · simp [h4, Rs.quoted, Rs.fail]
    by_cases h5 : s.md = 5
    · simp [h5, Rs.behindQuote, Rs.endCell, Rs.cel, Rs.endRow, hg, Rs.fail]
    · simp [h1, h2, h3, h4, h5, Rs.behindReturn, Rs.fail]

/-- what Parse answers is what the document reads -/
theorem parse_one (L : List UInt8) :
    ((rdA L).2.2.1 = 0 ∧ (fdP L).er = 0 ∧ (clP (fdP L)).er = 0 ∧ (fdP L).td ++ (clP (fdP L)).td = (rdA L).1)
    ∨ ((rdA L).2.2.1 ≠ 0 ∧ ((rdA L).2.2.1 ≤ 8 ∨ (rdA L).2.2.1 = 20) ∧ (clP (fdP L)).er = (rdA L).2.2.1 ∧ (clP (fdP L)).fp = plc L (rdA L).2.2.2 ∧ (rdA L).2.2.2 ≤ L.length) := by
  have key : ∀ N : List UInt8, N.length ≤ 262144 → Reads2 N (feed N s0 0) (rdD N (N.length + 1) 0 []) := by
    intro N hN
    exact read_feed N hN (N.length + 1) 0 (0, 0) (0, 0) 0 [] (by omega) (Nat.zero_le _) (by simp)
  rcases Nat.lt_or_ge 262144 L.length with hl | hl
  · have hq : rdA L = (if shw (L.take 262144) (rdD (L.take 262144) ((L.take 262144).length + 1) 0 []).2.2.1 (rdD (L.take 262144) ((L.take 262144).length + 1) 0 []).2.2.2 = true then rdD (L.take 262144) ((L.take 262144).length + 1) 0 [] else ((rdD (L.take 262144) ((L.take 262144).length + 1) 0 []).1.take (rdD (L.take 262144) ((L.take 262144).length + 1) 0 []).2.1, (rdD (L.take 262144) ((L.take 262144).length + 1) 0 []).2.1, 20, 262144)) := by
      rw [rdA, if_neg (by omega)]
    have hN : (L.take 262144).length = 262144 := by simp; omega
    obtain ⟨k1, k2, k3⟩ := key (L.take 262144) (by omega)
    have hM : cut L = L.take 262145 := by unfold cut; congr 1; omega
    have hMl : (cut L).length = 262145 := by rw [hM]; simp; omega
    have hMt : (cut L).take 262144 = L.take 262144 := by rw [hM, List.take_take]; congr 1
    have hf := feed_take (cut L) 262144 (by omega) 262144 0 s0 (by omega) (by omega)
    rw [hMt] at hf
    refine .inr ?_
    rcases k3 with ⟨h1, ⟨h2, h3, h4⟩, h5, h6⟩ | ⟨h1, h2, h3, h4, h5, h6⟩
    · rw [h1, if_pos rfl] at hq
      have hne : ¬ (feed (L.take 262144) s0 0).er = 0 := by rw [h2]; exact h5
      rw [if_neg hne] at hf
      have hc : clP (fdP L) = feed (L.take 262144) s0 0 := by unfold clP fdP; rw [hf, if_neg hne]
      rw [hq, hc]
      refine ⟨h5, .inl h6, h2, ?_, by omega⟩
      rw [h3]
      exact plc_take L 262144 _ (by omega)
    · rw [h1, if_neg (by simp)] at hq
      rw [if_pos h2] at hf
      have hg : feed (cut L) (feed (L.take 262144) s0 0) 262144 = feed (cut L) ((feed (L.take 262144) s0 0).fail 20 (feed (L.take 262144) s0 0).hp) 262145 := by
        rw [feed_go (cut L) _ 262144 (by omega) h2, Rs.take, if_pos (by rw [h4]; exact hN)]
      rw [hg, feed_er (cut L) ((feed (L.take 262144) s0 0).fail 20 (feed (L.take 262144) s0 0).hp) 262145 (by simp [Rs.fail])] at hf
      have hc : clP (fdP L) = (feed (L.take 262144) s0 0).fail 20 (feed (L.take 262144) s0 0).hp := by
        unfold clP fdP
        rw [hf, if_neg (by simp [Rs.fail])]
      rw [hq, hc]
      refine ⟨by simp, .inr rfl, rfl, ?_, by simp only; omega⟩
      show (feed (L.take 262144) s0 0).hp = _
      rw [h5, hN]
      exact plc_take L 262144 _ (by omega)
  · have hq : rdA L = rdD L (L.length + 1) 0 [] := by rw [rdA, if_pos hl]
    have hM : cut L = L := by unfold cut; rw [List.take_of_length_le (by omega)]
    obtain ⟨k1, k2, k3⟩ := key L hl
    have hf : fdP L = feed L s0 0 := by unfold fdP; rw [hM]
    rw [hq, hf]
    rcases k3 with ⟨h1, ⟨h2, h3, h4⟩, h5, h6⟩ | ⟨h1, h2, h3, h4, h5, h6⟩
    · have hne : ¬ (feed L s0 0).er = 0 := by rw [h2]; exact h5
      have hc : clP (feed L s0 0) = feed L s0 0 := by unfold clP; rw [if_neg hne]
      rw [hc]
      exact .inr ⟨h5, .inl h6, h2, h3, k2⟩
    · have hc : clP (feed L s0 0) = Rs.next { feed L s0 0 with td := [] } none := by unfold clP; rw [if_pos h2]
      obtain ⟨⟨n1, n2⟩, n3⟩ := next_td (feed L s0 0)
      rw [hc, n1, n2]
      rcases h6 with ⟨h6, h7, h8⟩ | ⟨h6, h6', h7, h8, h9⟩
      · exact .inl ⟨h6, h2, h7, by rw [← n3]; exact h8⟩
      · exact .inr ⟨h6, .inl h6', h7, h8, k2⟩
end Go.Proofs.YtmgfdnccmeahjaaGreatDoor

namespace Go.Proofs.YtmgfdnccmeahjaaGreatDoor
open Go.RowKit
set_option maxRecDepth 100000
set_option linter.unusedVariables false
set_option linter.unusedSimpArgs false

theorem hid {p : Prop} (h : p) : Hid p := h

/-- the blocks of G are as they were -/
structure Kg (G : Nat → Prop) (w w' : World) : Prop where
  os : w'.os = w.os
  tape : w'.tape = w.tape
  output : w'.output = w.output
  size : w.heap.size ≤ w'.heap.size
  block : ∀ k, G k → w'.heap[k]? = w.heap[k]?
theorem Kg.refl (G : Nat → Prop) (w : World) : Kg G w w := ⟨rfl, rfl, rfl, Nat.le_refl _, fun _ _ => rfl⟩
theorem Kg.trans {G : Nat → Prop} {a b c : World} (h : Kg G a b) (k : Kg G b c) : Kg G a c := ⟨k.os.trans h.os, k.tape.trans h.tape, k.output.trans h.output, Nat.le_trans h.size k.size, fun i hi => (k.block i hi).trans (h.block i hi)⟩
theorem Kg.mono {G G' : Nat → Prop} {w w' : World} (h : Kg G w w') (hG : ∀ k, G' k → G k) : Kg G' w w' := ⟨h.os, h.tape, h.output, h.size, fun k hk => h.block k (hG k hk)⟩
theorem Kg.cell {G : Nat → Prop} {w w' : World} (h : Kg G w w') {p : Addr} (hp : G p.block) {u : Value} (hc : w.cell? p = some u) : w'.cell? p = some u := (World.cell?_of_block (h.block p.block hp)).trans hc
theorem Kg.set {G : Nat → Prop} {a w : World} (h : Kg G a w) {b j : Nat} (hb : ¬ G b) (u : Value) : Kg G a (w.setCell ⟨b, j, none⟩ u) := by
  have hs := (Below.refl 0 w).setCell (p := ⟨b, j, none⟩) (Nat.zero_le _) u
  exact ⟨hs.os.trans h.os, hs.tape.trans h.tape, hs.output.trans h.output, Nat.le_trans h.size hs.size, fun k hk => (Below.heap_setCell _ _ _ _ (by show k ≠ b; rintro rfl; exact hb hk)).trans (h.block k hk)⟩
theorem Kg.alloc {G : Nat → Prop} {a w : World} (h : Kg G a w) (hG : ∀ k, G k → k < a.heap.size) (o : Obj) : Kg G a (w.alloc o) :=
  ⟨h.os, h.tape, h.output, Nat.le_trans h.size (by simp), fun k hk => (Lib.alloc_old w o k (Nat.lt_of_lt_of_le (hG k hk) h.size)).trans (h.block k hk)⟩
theorem Kg.grown {G : Nat → Prop} {a w w' : World} {row : Option Nat} (h : Kg G a w) (hG : ∀ k, G k → k < a.heap.size) (hg : w.grownBy w' row) (hr : ∀ k, row = some k → ¬ G k) : Kg G a w' :=
  ⟨hg.os.trans h.os, hg.tape.trans h.tape, hg.output.trans h.output, Nat.le_trans h.size hg.size, fun k hk => (hg.block k (Nat.lt_of_lt_of_le (hG k hk) h.size) (fun e => hr k e.symm hk)).trans (h.block k hk)⟩
/-- everything but block b -/
def But (w : World) (b : Nat) : Nat → Prop := fun k => k < w.heap.size ∧ k ≠ b
theorem But.not (w : World) (b : Nat) : ¬ But w b b := fun h => h.2 rfl
theorem But.lt (w : World) (b : Nat) : ∀ k, But w b k → k < w.heap.size := fun _ h => h.1

/-! the Reader's cells -/

def fnO (m : Nat) : Nat := if m = 1 then 118 else if m = 2 then 155 else if m = 3 then 184 else if m = 4 then 183 else if m = 5 then 218 else 260
def nxV (b m : Nat) : Value := .func (.func (fnO m)) #[.pointer (some ⟨b, 0, none⟩)] #[]
theorem nx1 (b : Nat) : nxV b 1 = .func (.func 118) #[.pointer (some ⟨b, 0, none⟩)] #[] := rfl
theorem nx3 (b : Nat) : nxV b 3 = .func (.func 184) #[.pointer (some ⟨b, 0, none⟩)] #[] := rfl
theorem nx4 (b : Nat) : nxV b 4 = .func (.func 183) #[.pointer (some ⟨b, 0, none⟩)] #[] := rfl
theorem nx5 (b : Nat) : nxV b 5 = .func (.func 218) #[.pointer (some ⟨b, 0, none⟩)] #[] := rfl
/-- the Reader's eighteen cells -/
def R18 (w : World) (b : Nat) (v0 v1 v2 v3 v4 v5 v6 v7 v8 v9 v10 v11 v12 v13 v14 v15 v16 v17 : Value) : Prop := w.heap[b]? = some (.cells #[v0, v1, v2, v3, v4, v5, v6, v7, v8, v9, v10, v11, v12, v13, v14, v15, v16, v17] 179 (0, 0))
theorem R18.put0 {w : World} {b : Nat} {v0 v1 v2 v3 v4 v5 v6 v7 v8 v9 v10 v11 v12 v13 v14 v15 v16 v17 : Value} (h : R18 w b v0 v1 v2 v3 v4 v5 v6 v7 v8 v9 v10 v11 v12 v13 v14 v15 v16 v17) (u : Value) : R18 (w.setCell ⟨b, 0, none⟩ u) b u v1 v2 v3 v4 v5 v6 v7 v8 v9 v10 v11 v12 v13 v14 v15 v16 v17 := Lib.heap_setCell_same h _
theorem R18.put1 {w : World} {b : Nat} {v0 v1 v2 v3 v4 v5 v6 v7 v8 v9 v10 v11 v12 v13 v14 v15 v16 v17 : Value} (h : R18 w b v0 v1 v2 v3 v4 v5 v6 v7 v8 v9 v10 v11 v12 v13 v14 v15 v16 v17) (u : Value) : R18 (w.setCell ⟨b, 1, none⟩ u) b v0 u v2 v3 v4 v5 v6 v7 v8 v9 v10 v11 v12 v13 v14 v15 v16 v17 := Lib.heap_setCell_same h _
theorem R18.put2 {w : World} {b : Nat} {v0 v1 v2 v3 v4 v5 v6 v7 v8 v9 v10 v11 v12 v13 v14 v15 v16 v17 : Value} (h : R18 w b v0 v1 v2 v3 v4 v5 v6 v7 v8 v9 v10 v11 v12 v13 v14 v15 v16 v17) (u : Value) : R18 (w.setCell ⟨b, 2, none⟩ u) b v0 v1 u v3 v4 v5 v6 v7 v8 v9 v10 v11 v12 v13 v14 v15 v16 v17 := Lib.heap_setCell_same h _
theorem R18.put3 {w : World} {b : Nat} {v0 v1 v2 v3 v4 v5 v6 v7 v8 v9 v10 v11 v12 v13 v14 v15 v16 v17 : Value} (h : R18 w b v0 v1 v2 v3 v4 v5 v6 v7 v8 v9 v10 v11 v12 v13 v14 v15 v16 v17) (u : Value) : R18 (w.setCell ⟨b, 3, none⟩ u) b v0 v1 v2 u v4 v5 v6 v7 v8 v9 v10 v11 v12 v13 v14 v15 v16 v17 := Lib.heap_setCell_same h _
theorem R18.put4 {w : World} {b : Nat} {v0 v1 v2 v3 v4 v5 v6 v7 v8 v9 v10 v11 v12 v13 v14 v15 v16 v17 : Value} (h : R18 w b v0 v1 v2 v3 v4 v5 v6 v7 v8 v9 v10 v11 v12 v13 v14 v15 v16 v17) (u : Value) : R18 (w.setCell ⟨b, 4, none⟩ u) b v0 v1 v2 v3 u v5 v6 v7 v8 v9 v10 v11 v12 v13 v14 v15 v16 v17 := Lib.heap_setCell_same h _
theorem R18.put5 {w : World} {b : Nat} {v0 v1 v2 v3 v4 v5 v6 v7 v8 v9 v10 v11 v12 v13 v14 v15 v16 v17 : Value} (h : R18 w b v0 v1 v2 v3 v4 v5 v6 v7 v8 v9 v10 v11 v12 v13 v14 v15 v16 v17) (u : Value) : R18 (w.setCell ⟨b, 5, none⟩ u) b v0 v1 v2 v3 v4 u v6 v7 v8 v9 v10 v11 v12 v13 v14 v15 v16 v17 := Lib.heap_setCell_same h _
theorem R18.put6 {w : World} {b : Nat} {v0 v1 v2 v3 v4 v5 v6 v7 v8 v9 v10 v11 v12 v13 v14 v15 v16 v17 : Value} (h : R18 w b v0 v1 v2 v3 v4 v5 v6 v7 v8 v9 v10 v11 v12 v13 v14 v15 v16 v17) (u : Value) : R18 (w.setCell ⟨b, 6, none⟩ u) b v0 v1 v2 v3 v4 v5 u v7 v8 v9 v10 v11 v12 v13 v14 v15 v16 v17 := Lib.heap_setCell_same h _
theorem R18.put7 {w : World} {b : Nat} {v0 v1 v2 v3 v4 v5 v6 v7 v8 v9 v10 v11 v12 v13 v14 v15 v16 v17 : Value} (h : R18 w b v0 v1 v2 v3 v4 v5 v6 v7 v8 v9 v10 v11 v12 v13 v14 v15 v16 v17) (u : Value) : R18 (w.setCell ⟨b, 7, none⟩ u) b v0 v1 v2 v3 v4 v5 v6 u v8 v9 v10 v11 v12 v13 v14 v15 v16 v17 := Lib.heap_setCell_same h _
theorem R18.put8 {w : World} {b : Nat} {v0 v1 v2 v3 v4 v5 v6 v7 v8 v9 v10 v11 v12 v13 v14 v15 v16 v17 : Value} (h : R18 w b v0 v1 v2 v3 v4 v5 v6 v7 v8 v9 v10 v11 v12 v13 v14 v15 v16 v17) (u : Value) : R18 (w.setCell ⟨b, 8, none⟩ u) b v0 v1 v2 v3 v4 v5 v6 v7 u v9 v10 v11 v12 v13 v14 v15 v16 v17 := Lib.heap_setCell_same h _
theorem R18.put9 {w : World} {b : Nat} {v0 v1 v2 v3 v4 v5 v6 v7 v8 v9 v10 v11 v12 v13 v14 v15 v16 v17 : Value} (h : R18 w b v0 v1 v2 v3 v4 v5 v6 v7 v8 v9 v10 v11 v12 v13 v14 v15 v16 v17) (u : Value) : R18 (w.setCell ⟨b, 9, none⟩ u) b v0 v1 v2 v3 v4 v5 v6 v7 v8 u v10 v11 v12 v13 v14 v15 v16 v17 := Lib.heap_setCell_same h _
theorem R18.put10 {w : World} {b : Nat} {v0 v1 v2 v3 v4 v5 v6 v7 v8 v9 v10 v11 v12 v13 v14 v15 v16 v17 : Value} (h : R18 w b v0 v1 v2 v3 v4 v5 v6 v7 v8 v9 v10 v11 v12 v13 v14 v15 v16 v17) (u : Value) : R18 (w.setCell ⟨b, 10, none⟩ u) b v0 v1 v2 v3 v4 v5 v6 v7 v8 v9 u v11 v12 v13 v14 v15 v16 v17 := Lib.heap_setCell_same h _
theorem R18.put11 {w : World} {b : Nat} {v0 v1 v2 v3 v4 v5 v6 v7 v8 v9 v10 v11 v12 v13 v14 v15 v16 v17 : Value} (h : R18 w b v0 v1 v2 v3 v4 v5 v6 v7 v8 v9 v10 v11 v12 v13 v14 v15 v16 v17) (u : Value) : R18 (w.setCell ⟨b, 11, none⟩ u) b v0 v1 v2 v3 v4 v5 v6 v7 v8 v9 v10 u v12 v13 v14 v15 v16 v17 := Lib.heap_setCell_same h _
theorem R18.put12 {w : World} {b : Nat} {v0 v1 v2 v3 v4 v5 v6 v7 v8 v9 v10 v11 v12 v13 v14 v15 v16 v17 : Value} (h : R18 w b v0 v1 v2 v3 v4 v5 v6 v7 v8 v9 v10 v11 v12 v13 v14 v15 v16 v17) (u : Value) : R18 (w.setCell ⟨b, 12, none⟩ u) b v0 v1 v2 v3 v4 v5 v6 v7 v8 v9 v10 v11 u v13 v14 v15 v16 v17 := Lib.heap_setCell_same h _
theorem R18.put13 {w : World} {b : Nat} {v0 v1 v2 v3 v4 v5 v6 v7 v8 v9 v10 v11 v12 v13 v14 v15 v16 v17 : Value} (h : R18 w b v0 v1 v2 v3 v4 v5 v6 v7 v8 v9 v10 v11 v12 v13 v14 v15 v16 v17) (u : Value) : R18 (w.setCell ⟨b, 13, none⟩ u) b v0 v1 v2 v3 v4 v5 v6 v7 v8 v9 v10 v11 v12 u v14 v15 v16 v17 := Lib.heap_setCell_same h _
theorem R18.put14 {w : World} {b : Nat} {v0 v1 v2 v3 v4 v5 v6 v7 v8 v9 v10 v11 v12 v13 v14 v15 v16 v17 : Value} (h : R18 w b v0 v1 v2 v3 v4 v5 v6 v7 v8 v9 v10 v11 v12 v13 v14 v15 v16 v17) (u : Value) : R18 (w.setCell ⟨b, 14, none⟩ u) b v0 v1 v2 v3 v4 v5 v6 v7 v8 v9 v10 v11 v12 v13 u v15 v16 v17 := Lib.heap_setCell_same h _
theorem R18.put15 {w : World} {b : Nat} {v0 v1 v2 v3 v4 v5 v6 v7 v8 v9 v10 v11 v12 v13 v14 v15 v16 v17 : Value} (h : R18 w b v0 v1 v2 v3 v4 v5 v6 v7 v8 v9 v10 v11 v12 v13 v14 v15 v16 v17) (u : Value) : R18 (w.setCell ⟨b, 15, none⟩ u) b v0 v1 v2 v3 v4 v5 v6 v7 v8 v9 v10 v11 v12 v13 v14 u v16 v17 := Lib.heap_setCell_same h _
theorem R18.put16 {w : World} {b : Nat} {v0 v1 v2 v3 v4 v5 v6 v7 v8 v9 v10 v11 v12 v13 v14 v15 v16 v17 : Value} (h : R18 w b v0 v1 v2 v3 v4 v5 v6 v7 v8 v9 v10 v11 v12 v13 v14 v15 v16 v17) (u : Value) : R18 (w.setCell ⟨b, 16, none⟩ u) b v0 v1 v2 v3 v4 v5 v6 v7 v8 v9 v10 v11 v12 v13 v14 v15 u v17 := Lib.heap_setCell_same h _
theorem R18.put17 {w : World} {b : Nat} {v0 v1 v2 v3 v4 v5 v6 v7 v8 v9 v10 v11 v12 v13 v14 v15 v16 v17 : Value} (h : R18 w b v0 v1 v2 v3 v4 v5 v6 v7 v8 v9 v10 v11 v12 v13 v14 v15 v16 v17) (u : Value) : R18 (w.setCell ⟨b, 17, none⟩ u) b v0 v1 v2 v3 v4 v5 v6 v7 v8 v9 v10 v11 v12 v13 v14 v15 v16 u := Lib.heap_setCell_same h _
theorem R18.c0 {w : World} {b : Nat} {v0 v1 v2 v3 v4 v5 v6 v7 v8 v9 v10 v11 v12 v13 v14 v15 v16 v17 : Value} (h : R18 w b v0 v1 v2 v3 v4 v5 v6 v7 v8 v9 v10 v11 v12 v13 v14 v15 v16 v17) : w.cell? ⟨b, 0, none⟩ = some v0 := Lib.cell_of_heap h 0
theorem R18.c1 {w : World} {b : Nat} {v0 v1 v2 v3 v4 v5 v6 v7 v8 v9 v10 v11 v12 v13 v14 v15 v16 v17 : Value} (h : R18 w b v0 v1 v2 v3 v4 v5 v6 v7 v8 v9 v10 v11 v12 v13 v14 v15 v16 v17) : w.cell? ⟨b, 1, none⟩ = some v1 := Lib.cell_of_heap h 1
theorem R18.c2 {w : World} {b : Nat} {v0 v1 v2 v3 v4 v5 v6 v7 v8 v9 v10 v11 v12 v13 v14 v15 v16 v17 : Value} (h : R18 w b v0 v1 v2 v3 v4 v5 v6 v7 v8 v9 v10 v11 v12 v13 v14 v15 v16 v17) : w.cell? ⟨b, 2, none⟩ = some v2 := Lib.cell_of_heap h 2
theorem R18.c3 {w : World} {b : Nat} {v0 v1 v2 v3 v4 v5 v6 v7 v8 v9 v10 v11 v12 v13 v14 v15 v16 v17 : Value} (h : R18 w b v0 v1 v2 v3 v4 v5 v6 v7 v8 v9 v10 v11 v12 v13 v14 v15 v16 v17) : w.cell? ⟨b, 3, none⟩ = some v3 := Lib.cell_of_heap h 3
theorem R18.c4 {w : World} {b : Nat} {v0 v1 v2 v3 v4 v5 v6 v7 v8 v9 v10 v11 v12 v13 v14 v15 v16 v17 : Value} (h : R18 w b v0 v1 v2 v3 v4 v5 v6 v7 v8 v9 v10 v11 v12 v13 v14 v15 v16 v17) : w.cell? ⟨b, 4, none⟩ = some v4 := Lib.cell_of_heap h 4
theorem R18.c5 {w : World} {b : Nat} {v0 v1 v2 v3 v4 v5 v6 v7 v8 v9 v10 v11 v12 v13 v14 v15 v16 v17 : Value} (h : R18 w b v0 v1 v2 v3 v4 v5 v6 v7 v8 v9 v10 v11 v12 v13 v14 v15 v16 v17) : w.cell? ⟨b, 5, none⟩ = some v5 := Lib.cell_of_heap h 5
theorem R18.c6 {w : World} {b : Nat} {v0 v1 v2 v3 v4 v5 v6 v7 v8 v9 v10 v11 v12 v13 v14 v15 v16 v17 : Value} (h : R18 w b v0 v1 v2 v3 v4 v5 v6 v7 v8 v9 v10 v11 v12 v13 v14 v15 v16 v17) : w.cell? ⟨b, 6, none⟩ = some v6 := Lib.cell_of_heap h 6
theorem R18.c7 {w : World} {b : Nat} {v0 v1 v2 v3 v4 v5 v6 v7 v8 v9 v10 v11 v12 v13 v14 v15 v16 v17 : Value} (h : R18 w b v0 v1 v2 v3 v4 v5 v6 v7 v8 v9 v10 v11 v12 v13 v14 v15 v16 v17) : w.cell? ⟨b, 7, none⟩ = some v7 := Lib.cell_of_heap h 7
theorem R18.c8 {w : World} {b : Nat} {v0 v1 v2 v3 v4 v5 v6 v7 v8 v9 v10 v11 v12 v13 v14 v15 v16 v17 : Value} (h : R18 w b v0 v1 v2 v3 v4 v5 v6 v7 v8 v9 v10 v11 v12 v13 v14 v15 v16 v17) : w.cell? ⟨b, 8, none⟩ = some v8 := Lib.cell_of_heap h 8
theorem R18.c9 {w : World} {b : Nat} {v0 v1 v2 v3 v4 v5 v6 v7 v8 v9 v10 v11 v12 v13 v14 v15 v16 v17 : Value} (h : R18 w b v0 v1 v2 v3 v4 v5 v6 v7 v8 v9 v10 v11 v12 v13 v14 v15 v16 v17) : w.cell? ⟨b, 9, none⟩ = some v9 := Lib.cell_of_heap h 9
theorem R18.c10 {w : World} {b : Nat} {v0 v1 v2 v3 v4 v5 v6 v7 v8 v9 v10 v11 v12 v13 v14 v15 v16 v17 : Value} (h : R18 w b v0 v1 v2 v3 v4 v5 v6 v7 v8 v9 v10 v11 v12 v13 v14 v15 v16 v17) : w.cell? ⟨b, 10, none⟩ = some v10 := Lib.cell_of_heap h 10
theorem R18.c11 {w : World} {b : Nat} {v0 v1 v2 v3 v4 v5 v6 v7 v8 v9 v10 v11 v12 v13 v14 v15 v16 v17 : Value} (h : R18 w b v0 v1 v2 v3 v4 v5 v6 v7 v8 v9 v10 v11 v12 v13 v14 v15 v16 v17) : w.cell? ⟨b, 11, none⟩ = some v11 := Lib.cell_of_heap h 11
theorem R18.c12 {w : World} {b : Nat} {v0 v1 v2 v3 v4 v5 v6 v7 v8 v9 v10 v11 v12 v13 v14 v15 v16 v17 : Value} (h : R18 w b v0 v1 v2 v3 v4 v5 v6 v7 v8 v9 v10 v11 v12 v13 v14 v15 v16 v17) : w.cell? ⟨b, 12, none⟩ = some v12 := Lib.cell_of_heap h 12
theorem R18.c13 {w : World} {b : Nat} {v0 v1 v2 v3 v4 v5 v6 v7 v8 v9 v10 v11 v12 v13 v14 v15 v16 v17 : Value} (h : R18 w b v0 v1 v2 v3 v4 v5 v6 v7 v8 v9 v10 v11 v12 v13 v14 v15 v16 v17) : w.cell? ⟨b, 13, none⟩ = some v13 := Lib.cell_of_heap h 13
theorem R18.c14 {w : World} {b : Nat} {v0 v1 v2 v3 v4 v5 v6 v7 v8 v9 v10 v11 v12 v13 v14 v15 v16 v17 : Value} (h : R18 w b v0 v1 v2 v3 v4 v5 v6 v7 v8 v9 v10 v11 v12 v13 v14 v15 v16 v17) : w.cell? ⟨b, 14, none⟩ = some v14 := Lib.cell_of_heap h 14
theorem R18.c15 {w : World} {b : Nat} {v0 v1 v2 v3 v4 v5 v6 v7 v8 v9 v10 v11 v12 v13 v14 v15 v16 v17 : Value} (h : R18 w b v0 v1 v2 v3 v4 v5 v6 v7 v8 v9 v10 v11 v12 v13 v14 v15 v16 v17) : w.cell? ⟨b, 15, none⟩ = some v15 := Lib.cell_of_heap h 15
theorem R18.c16 {w : World} {b : Nat} {v0 v1 v2 v3 v4 v5 v6 v7 v8 v9 v10 v11 v12 v13 v14 v15 v16 v17 : Value} (h : R18 w b v0 v1 v2 v3 v4 v5 v6 v7 v8 v9 v10 v11 v12 v13 v14 v15 v16 v17) : w.cell? ⟨b, 16, none⟩ = some v16 := Lib.cell_of_heap h 16
theorem R18.c17 {w : World} {b : Nat} {v0 v1 v2 v3 v4 v5 v6 v7 v8 v9 v10 v11 v12 v13 v14 v15 v16 v17 : Value} (h : R18 w b v0 v1 v2 v3 v4 v5 v6 v7 v8 v9 v10 v11 v12 v13 v14 v15 v16 v17) : w.cell? ⟨b, 17, none⟩ = some v17 := Lib.cell_of_heap h 17
theorem R18.fr {w : World} {b : Nat} {v0 v1 v2 v3 v4 v5 v6 v7 v8 v9 v10 v11 v12 v13 v14 v15 v16 v17 : Value} (h : R18 w b v0 v1 v2 v3 v4 v5 v6 v7 v8 v9 v10 v11 v12 v13 v14 v15 v16 v17) (j : Nat) : w.frozen? ⟨b, j, none⟩ = false := Lib.frozen_of_heap h j
theorem R18.lt {w : World} {b : Nat} {v0 v1 v2 v3 v4 v5 v6 v7 v8 v9 v10 v11 v12 v13 v14 v15 v16 v17 : Value} (h : R18 w b v0 v1 v2 v3 v4 v5 v6 v7 v8 v9 v10 v11 v12 v13 v14 v15 v16 v17) : b < w.heap.size := (Array.getElem?_eq_some_iff.1 h).1
theorem R18.kept {w : World} {b : Nat} {v0 v1 v2 v3 v4 v5 v6 v7 v8 v9 v10 v11 v12 v13 v14 v15 v16 v17 : Value} (h : R18 w b v0 v1 v2 v3 v4 v5 v6 v7 v8 v9 v10 v11 v12 v13 v14 v15 v16 v17) {G : Nat → Prop} {w' : World} (hk : Kg G w w') (hG : G b) : R18 w' b v0 v1 v2 v3 v4 v5 v6 v7 v8 v9 v10 v11 v12 v13 v14 v15 v16 v17 := (hk.block b hG).trans h
theorem R18.alloc {w : World} {b : Nat} {v0 v1 v2 v3 v4 v5 v6 v7 v8 v9 v10 v11 v12 v13 v14 v15 v16 v17 : Value} (h : R18 w b v0 v1 v2 v3 v4 v5 v6 v7 v8 v9 v10 v11 v12 v13 v14 v15 v16 v17) (o : Obj) : R18 (w.alloc o) b v0 v1 v2 v3 v4 v5 v6 v7 v8 v9 v10 v11 v12 v13 v14 v15 v16 v17 := (Lib.alloc_old w o b h.lt).trans h
--81R
/-- the Reader in block b -/
abbrev RB (w : World) (b : Nat) (nx : Value) (sz : Nat) (hp op ep : Nat × Nat) (rw wd : Nat) (bp bv cv tv : Value) (fp : Nat × Nat) (ev : Value) (dn : Bool) : Prop :=
  R18 w b nx (.int .i64 (sz : Int)) (.int .i64 (hp.1 : Int)) (.int .i64 (hp.2 : Int)) (.int .i64 (op.1 : Int)) (.int .i64 (op.2 : Int)) (.int .i64 (ep.1 : Int)) (.int .i64 (ep.2 : Int)) (.int .i64 (rw : Int)) (.int .i64 (wd : Int)) bp bv cv tv (.int .i64 (fp.1 : Int)) (.int .i64 (fp.2 : Int)) ev (.bool dn)
/-- a place as a value -/
def plV (p : Nat × Nat) : Value := .agg #[.int .i64 (p.1 : Int), .int .i64 (p.2 : Int)]

set_option maxHeartbeats 1000000 in
theorem fail_raw (b : Nat) (nx : Value) (sz : Nat) (hp op ep : Nat × Nat) (rw wd : Nat) (bp bv cv tv : Value) (fp : Nat × Nat) (ev : Value) (dn : Bool) (t : TypeId) (x : Value) (p : Nat × Nat) (w : World) (h : RB w b nx sz hp op ep rw wd bp bv cv tv fp ev dn) :
    Calls Tryz.prog 119 #[.pointer (some ⟨b, 0, none⟩), .iface t x, plV p] w fun e w' => e = .returned (.tuple #[]) ∧ RB w' b nx sz hp op ep rw wd (.pointer none) (.slice none 0 0) (.slice none 0 0) tv p (.iface t x) dn ∧ Kg (But w b) w w' := by
  have hlt : b < w.heap.size := h.lt
  have hne : b ≠ w.heap.size := by omega
  have f14 := h.fr 14
  have f15 := h.fr 15
  have f16 := h.fr 16
  have f10 := h.fr 10
  have f11 := h.fr 11
  have f12 := h.fr 12
  have c14 := h.c14
  have c15 := h.c15
  have c16 := h.c16
  have c10 := h.c10
  have c11 := h.c11
  have c12 := h.c12
  have H := hid h
  clear h
  unfold plV
  go_enter Tryz.func119, Tryz.ntmps119
  go_wp2
  go_end0
  refine ⟨rfl, ?_, ?_⟩
  · exact ((((((H.out.put14 _).put15 _).put16 _).put10 _).put11 _).put12 _).alloc _
  · refine Kg.alloc ?_ (But.lt w b) _
    iterate 6 refine Kg.set ?_ (But.not w b) _
    exact Kg.refl (But w b) w
end Go.Proofs.YtmgfdnccmeahjaaGreatDoor
