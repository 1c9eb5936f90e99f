/-
  Sheets, told twice: the Reader's states byte by byte, and cells, rows and all of them from the left.
-/
import Derived.Test.YtpgpeafmlijfkaaGreatDoorProg
namespace Go.Proofs.YtpgpeafmlijfkaaGreatDoor
set_option maxRecDepth 100000
set_option linter.unusedVariables false
set_option linter.unusedSimpArgs false

def bt (L : List UInt8) (i : Nat) : UInt8 := L.getD i 0
def ch (L : List UInt8) (i : Nat) : Nat := (bt L i).toNat
/-- may a cell have this byte? -/
def mayB (c : Nat) : Bool := c == 9 || c == 10 || c == 13 || (decide (32 ≤ c) && c != 127)

/-! the Reader -/

structure Rs where
  md : Nat
  sz : Nat
  hp : Nat × Nat
  op : Nat × Nat
  ep : Nat × Nat
  rw : Nat
  wd : Nat
  cur : List UInt8
  cs : List (List UInt8)
  td : List (List (List UInt8))
  er : Nat
  fp : Nat × Nat

def adv (p : Nat × Nat) (c : Nat) : Nat × Nat := if c = 10 then (p.1 + 1, 0) else (p.1, p.2 + 1)

def Rs.fail (s : Rs) (code : Nat) (p : Nat × Nat) : Rs := { s with er := code, fp := p, cur := [], cs := [] }
def Rs.add (s : Rs) (c : UInt8) : Rs := if s.cur.length = 4096 then s.fail 5 s.hp else { s with cur := s.cur ++ [c] }
def Rs.endRow (s : Rs) (p : Nat × Nat) : Rs := if 0 < s.rw ∧ s.cs.length ≠ s.wd then s.fail 8 p else { s with rw := s.rw + 1, wd := s.cs.length, td := s.td ++ [s.cs], cur := [], cs := [], md := 1 }
def Rs.cel (s : Rs) : Rs := { s with cs := s.cs ++ [s.cur], cur := [] }
/-- behind a cell: none is the text's end -/
def Rs.endCell (s : Rs) (c : Option UInt8) : Rs :=
  match c with
  | none => s.cel.endRow s.hp
  | some c => if c.toNat = 13 then { s.cel with ep := s.hp, md := 6 } else if s.cs.length + 1 = 64 then s.cel.fail 6 s.hp else { s.cel with md := 2 }
def Rs.plain (s : Rs) (c : Option UInt8) : Rs :=
  match c with
  | none => s.endCell none
  | some c => if c.toNat = 44 ∨ c.toNat = 13 then s.endCell (some c) else if c.toNat = 10 then s.fail 3 s.hp else if c.toNat = 34 then s.fail 2 s.hp else if c.toNat = 9 ∨ mayB c.toNat = false then s.fail 4 s.hp else s.add c
def Rs.quoted (s : Rs) (c : Option UInt8) : Rs :=
  match c with
  | none => s.fail 1 s.op
  | some c => if c.toNat = 34 then { s with md := 5 } else if mayB c.toNat = false then s.fail 4 s.hp else s.add c
def Rs.behindQuote (s : Rs) (c : Option UInt8) : Rs :=
  match c with
  | none => s.endCell none
  | some c => if c.toNat = 34 then Rs.add { s with md := 4 } c else if c.toNat = 44 ∨ c.toNat = 13 then s.endCell (some c) else if c.toNat = 10 then s.fail 3 s.hp else s.fail 2 s.hp
def Rs.behindReturn (s : Rs) (c : Option UInt8) : Rs :=
  match c with
  | none => s.fail 3 s.ep
  | some c => if c.toNat = 10 then s.endRow s.ep else s.fail 3 s.ep
def Rs.beginCell (s : Rs) (c : Option UInt8) : Rs :=
  match c with
  | none => Rs.plain { s with md := 3 } none
  | some c => if c.toNat = 34 then { s with op := s.hp, md := 4 } else Rs.plain { s with md := 3 } (some c)
def Rs.beginRow (s : Rs) (c : Option UInt8) : Rs :=
  match c with
  | none => s
  | some c => if s.rw = 4096 then s.fail 7 s.hp else s.beginCell (some c)
def Rs.next (s : Rs) (c : Option UInt8) : Rs :=
  if s.md = 1 then s.beginRow c else if s.md = 2 then s.beginCell c else if s.md = 3 then s.plain c else if s.md = 4 then s.quoted c else if s.md = 5 then s.behindQuote c else s.behindReturn c
def Rs.gone (s : Rs) (c : UInt8) : Rs := { s with sz := s.sz + 1, hp := adv s.hp c.toNat }
def Rs.take (s : Rs) (c : UInt8) : Rs := if s.sz = 262144 then s.fail 20 s.hp else (s.next (some c)).gone c

/-- bytes are taken, up to the first fault -/
def runL (s : Rs) : List UInt8 → Rs
  | [] => s
  | c :: r => if s.er = 0 then runL (s.take c) r else s
/-- the bytes of L from place i on are taken, up to the first fault -/
def feed (L : List UInt8) (s : Rs) (i : Nat) : Rs := runL s (L.drop i)

/-! the document -/

/-- where a byte lies -/
def plc (L : List UInt8) : Nat → Nat × Nat
  | 0 => (1, 0)
  | n + 1 => adv (plc L n) (ch L n)

/-- a quoted cell, so many bytes being left -/
def qdN (L : List UInt8) (fr : Nat) : Nat → Nat → List UInt8 → List UInt8 × Nat × Nat × Nat
  | 0, _, _ => ([], 0, 1, fr)
  | 1, i, t => if ch L i = 34 then (t, i + 1, 0, 0) else if mayB (ch L i) = false then ([], 0, 4, i) else if t.length = 4096 then ([], 0, 5, i) else ([], 0, 1, fr)
  | n + 2, i, t =>
    if ch L i = 34 then
      if ch L (i + 1) ≠ 34 then (t, i + 1, 0, 0)
      else if t.length = 4096 then ([], 0, 5, i + 1) else qdN L fr n (i + 2) (t ++ [bt L (i + 1)])
    else if mayB (ch L i) = false then ([], 0, 4, i)
    else if t.length = 4096 then ([], 0, 5, i) else qdN L fr (n + 1) (i + 1) (t ++ [bt L i])
/-- a quoted cell: its text, the place behind it, the fault's code and place -/
def qd (L : List UInt8) (fr i : Nat) (t : List UInt8) : List UInt8 × Nat × Nat × Nat := qdN L fr (L.length - i) i t
theorem qd_eq (L : List UInt8) (fr i : Nat) (t : List UInt8) : qd L fr i t =
  (if i < L.length then
    if ch L i = 34 then
      if L.length ≤ i + 1 ∨ ch L (i + 1) ≠ 34 then (t, i + 1, 0, 0)
      else if t.length = 4096 then ([], 0, 5, i + 1) else qd L fr (i + 2) (t ++ [bt L (i + 1)])
    else if mayB (ch L i) = false then ([], 0, 4, i)
    else if t.length = 4096 then ([], 0, 5, i) else qd L fr (i + 1) (t ++ [bt L i])
  else ([], 0, 1, fr)) := by
  unfold qd
  rcases Nat.lt_or_ge i L.length with h | h
  · rw [if_pos h]
    rcases Nat.lt_or_ge (i + 1) L.length with h2 | h2
    · obtain ⟨n, hn⟩ : ∃ n, L.length - i = n + 2 := ⟨L.length - i - 2, by omega⟩
      have h3 : L.length - (i + 1) = n + 1 := by omega
      have h4 : L.length - (i + 2) = n := by omega
      rw [hn, h3, h4, qdN]
      have h5 : ¬ L.length ≤ i + 1 := by omega
      simp only [h5, false_or]
    · have hn : L.length - i = 1 := by omega
      have h3 : L.length - (i + 1) = 0 := by omega
      rw [hn, h3, qdN, qdN]
      simp only [h2, true_or, if_true]
  · rw [if_neg (by omega), show L.length - i = 0 by omega, qdN]

/-- a bare cell, so many bytes being left -/
def qlN (L : List UInt8) (fr : Nat) : Nat → Nat → Nat × Nat × Nat
  | 0, i => (i, 0, 0)
  | n + 1, i =>
    if ch L i ≠ 44 ∧ ch L i ≠ 13 then
      if ch L i = 10 then (0, 3, i) else if ch L i = 34 then (0, 2, i) else if ch L i = 9 ∨ mayB (ch L i) = false then (0, 4, i) else if i - fr = 4096 then (0, 5, i) else qlN L fr n (i + 1)
    else (i, 0, 0)
/-- a bare cell: the place behind it, the fault's code and place -/
def ql (L : List UInt8) (fr i : Nat) : Nat × Nat × Nat := qlN L fr (L.length - i) i
theorem ql_eq (L : List UInt8) (fr i : Nat) : ql L fr i =
  (if i < L.length ∧ ch L i ≠ 44 ∧ ch L i ≠ 13 then
    if ch L i = 10 then (0, 3, i) else if ch L i = 34 then (0, 2, i) else if ch L i = 9 ∨ mayB (ch L i) = false then (0, 4, i) else if i - fr = 4096 then (0, 5, i) else ql L fr (i + 1)
  else (i, 0, 0)) := by
  unfold ql
  rcases Nat.lt_or_ge i L.length with h | h
  · obtain ⟨n, hn⟩ : ∃ n, L.length - i = n + 1 := ⟨L.length - i - 1, by omega⟩
    have h3 : L.length - (i + 1) = n := by omega
    rw [hn, h3, qlN]
    simp only [h, true_and]
  · rw [if_neg (fun h' => by omega), show L.length - i = 0 by omega, qlN]

def sub (L : List UInt8) (a b : Nat) : List UInt8 := (L.take b).drop a

def cel (L : List UInt8) (fr : Nat) : List UInt8 × Nat × Nat × Nat :=
  if fr < L.length ∧ ch L fr = 34 then
    let q := qd L fr (fr + 1) []
    if q.2.2.1 ≠ 0 ∨ q.2.1 = L.length ∨ ch L q.2.1 = 44 ∨ ch L q.2.1 = 13 then q
    else if ch L q.2.1 = 10 then ([], 0, 3, q.2.1) else ([], 0, 2, q.2.1)
  else
    let q := ql L fr fr
    if q.2.1 = 0 then (sub L fr q.1, q.1, 0, 0) else ([], 0, q.2.1, q.2.2)

/-- a row from place i on, behind these cells -/
def rowD (L : List UInt8) : Nat → Nat → List (List UInt8) → List (List UInt8) × Nat × Nat × Nat
  | 0, _, _ => ([], 0, 0, 0)
  | n + 1, i, acc =>
    let q := cel L i
    if q.2.2.1 ≠ 0 then ([], 0, q.2.2.1, q.2.2.2)
    else if q.2.1 < L.length ∧ ch L q.2.1 = 44 then
      if acc.length + 1 = 64 then ([], 0, 6, q.2.1) else rowD L n (q.2.1 + 1) (acc ++ [q.1])
    else (acc ++ [q.1], q.2.1, 0, 0)

/-- all rows from place i on, behind these: the rows, how many an LF has ended, the fault's code and place -/
def rdD (L : List UInt8) : Nat → Nat → List (List (List UInt8)) → List (List (List UInt8)) × Nat × Nat × Nat
  | 0, _, _ => ([], 0, 0, 0)
  | n + 1, i, acc =>
    if i < L.length then
      if acc.length = 4096 then (acc, acc.length, 7, i)
      else
        let q := rowD L (L.length + 1) i []
        if q.2.2.1 ≠ 0 then (acc, acc.length, q.2.2.1, q.2.2.2)
        else if q.2.1 < L.length ∧ (q.2.1 + 1 = L.length ∨ ch L (q.2.1 + 1) ≠ 10) then (acc, acc.length, 3, q.2.1)
        else if 0 < acc.length ∧ q.1.length ≠ (acc.headD []).length then (acc, acc.length, 8, q.2.1)
        else if q.2.1 = L.length then (acc ++ [q.1], acc.length, 0, 0)
        else rdD L n (q.2.1 + 2) (acc ++ [q.1])
    else (acc, acc.length, 0, 0)

/-- does a fault of some bytes show, whatever may come behind them? -/
def shw (L : List UInt8) (c f : Nat) : Bool :=
  if c = 0 ∨ c = 1 then false else if c = 3 then decide (ch L f = 10 ∨ f + 1 < L.length) else if c = 8 then decide (f < L.length) else true

/-! the two are one -/

/-- the Reader at place i without a fault -/
def st (L : List UInt8) (md i : Nat) (o e : Nat × Nat) (rw wd : Nat) (cur : List UInt8) (cs : List (List UInt8)) (td : List (List (List UInt8))) : Rs :=
  { md := md, sz := i, hp := plc L i, op := o, ep := e, rw := rw, wd := wd, cur := cur, cs := cs, td := td, er := 0, fp := (0, 0) }

/-- a fault was told -/
def Bad (R : Rs) (c : Nat) (p : Nat × Nat) (T : List (List (List UInt8))) : Prop := R.er = c ∧ R.fp = p ∧ R.td = T

theorem runL_er (s : Rs) (l : List UInt8) (h : s.er ≠ 0) : runL s l = s := by
  cases l with
  | nil => rfl
  | cons c r => rw [runL, if_neg h]
theorem feed_er (L : List UInt8) (s : Rs) (i : Nat) (h : s.er ≠ 0) : feed L s i = s := runL_er s _ h
theorem feed_end (L : List UInt8) (s : Rs) (i : Nat) (h : L.length ≤ i) : feed L s i = s := by
  unfold feed
  rw [List.drop_eq_nil_of_le h]
  rfl
theorem feed_go (L : List UInt8) (s : Rs) (i : Nat) (h : i < L.length) (he : s.er = 0) : feed L s i = feed L (s.take (bt L i)) (i + 1) := by
  unfold feed
  have hb : bt L i = L[i] := by unfold bt; rw [List.getD_eq_getElem?_getD, List.getElem?_eq_getElem h]; rfl
  rw [List.drop_eq_getElem_cons h, runL, if_pos he, hb]
theorem feed_st (L : List UInt8) (md i : Nat) (o e : Nat × Nat) (rw wd : Nat) (cur : List UInt8) (cs : List (List UInt8)) (td : List (List (List UInt8))) (h : i < L.length) (hL : L.length ≤ 262144) :
    feed L (st L md i o e rw wd cur cs td) i = feed L (((st L md i o e rw wd cur cs td).next (some (bt L i))).gone (bt L i)) (i + 1) := by
  rw [feed_go L _ i h rfl, Rs.take, if_neg (show ¬ ((st L md i o e rw wd cur cs td).sz = 262144) by simp only [st]; omega)]
theorem feed_bad (L : List UInt8) (s : Rs) (i c : Nat) (p : Nat × Nat) (T : List (List (List UInt8))) (h : Bad s c p T) (hc : c ≠ 0) : Bad (feed L s i) c p T := by
  rw [feed_er L s i (by rw [h.1]; exact hc)]; exact h
theorem fail_bad (s : Rs) (b : UInt8) (c : Nat) (p : Nat × Nat) : Bad ((s.fail c p).gone b) c p s.td := ⟨rfl, rfl, rfl⟩
theorem plc_succ (L : List UInt8) (i : Nat) : plc L (i + 1) = adv (plc L i) (bt L i).toNat := rfl

/-- within a quoted cell -/
theorem qd_feed (L : List UInt8) (hL : L.length ≤ 262144) (fr : Nat) (o e : Nat × Nat) (rw wd : Nat) (cs : List (List UInt8)) (td : List (List (List UInt8))) :
    ∀ (n i : Nat) (t : List UInt8), L.length - i ≤ n → t.length ≤ 4096 → i ≤ L.length →
      ((qd L fr i t).2.2.1 = 0 ∧ i < (qd L fr i t).2.1 ∧ (qd L fr i t).2.1 ≤ L.length ∧ (qd L fr i t).1.length ≤ 4096 ∧ ((qd L fr i t).2.1 < L.length → ch L (qd L fr i t).2.1 ≠ 34) ∧ feed L (st L 4 i o e rw wd t cs td) i = feed L (st L 5 (qd L fr i t).2.1 o e rw wd (qd L fr i t).1 cs td) (qd L fr i t).2.1)
      ∨ (qd L fr i t = ([], 0, 1, fr) ∧ ∃ t', feed L (st L 4 i o e rw wd t cs td) i = st L 4 L.length o e rw wd t' cs td)
      ∨ (((qd L fr i t).2.2.1 = 4 ∨ (qd L fr i t).2.2.1 = 5) ∧ (qd L fr i t).2.2.2 < L.length ∧ Bad (feed L (st L 4 i o e rw wd t cs td) i) (qd L fr i t).2.2.1 (plc L (qd L fr i t).2.2.2) td) := by
  intro n
  induction n with
  | zero =>
    intro i t hn ht hi
    have he : i = L.length := by omega
    subst he
    refine .inr (.inl ⟨by rw [qd_eq]; simp, t, feed_end _ _ _ (Nat.le_refl _)⟩)
  | succ n ih =>
    intro i t hn ht hi
    by_cases h : i < L.length
    · by_cases hq : ch L i = 34
      · by_cases h2 : L.length ≤ i + 1 ∨ ch L (i + 1) ≠ 34
        · have hv : qd L fr i t = (t, i + 1, 0, 0) := by rw [qd_eq]; simp [h, hq, h2]
          rw [hv]
          refine .inl ⟨rfl, by simp, h, ht, fun h3 => ?_, ?_⟩
          · rcases h2 with h2 | h2
            · simp at h3; omega
            · exact h2
          · rw [feed_st L _ _ _ _ _ _ _ _ _ h hL]
            have hn : Rs.gone ((st L 4 i o e rw wd t cs td).next (some (bt L i))) (bt L i) = st L 5 (i + 1) o e rw wd t cs td := by
              have hq' : (bt L i).toNat = 34 := hq
              simp [st, Rs.next, Rs.quoted, Rs.gone, plc_succ, hq']
            rw [hn]
        · have h2' := not_or.1 h2
          have hlt : i + 1 < L.length := by omega
          have hq2 : ch L (i + 1) = 34 := Decidable.not_not.1 h2'.2
          have e1 : feed L (st L 4 i o e rw wd t cs td) i = feed L (st L 5 (i + 1) o e rw wd t cs td) (i + 1) := by
            rw [feed_st L _ _ _ _ _ _ _ _ _ h hL]
            have hq' : (bt L i).toNat = 34 := hq
            simp [st, Rs.next, Rs.quoted, Rs.gone, plc_succ, hq']
          have hq2' : (bt L (i + 1)).toNat = 34 := hq2
          by_cases h3 : t.length = 4096
          · have hv : qd L fr i t = ([], 0, 5, i + 1) := by rw [qd_eq]; simp [h, hq, h2, h3]
            rw [hv]
            refine .inr (.inr ⟨.inr rfl, hlt, ?_⟩)
            rw [e1, feed_st L _ _ _ _ _ _ _ _ _ hlt hL]
            refine feed_bad _ _ _ _ _ _ ?_ (by simp)
            simp [st, Rs.next, Rs.behindQuote, Rs.add, hq2', h3, Rs.gone, Rs.fail, Bad]
          · have hv : qd L fr i t = qd L fr (i + 2) (t ++ [bt L (i + 1)]) := by rw [qd_eq L fr i t]; simp [h, hq, h2, h3]
            have e2 : feed L (st L 4 i o e rw wd t cs td) i = feed L (st L 4 (i + 2) o e rw wd (t ++ [bt L (i + 1)]) cs td) (i + 2) := by
              rw [e1, feed_st L _ _ _ _ _ _ _ _ _ hlt hL]
              simp [st, Rs.next, Rs.behindQuote, Rs.add, hq2', h3, Rs.gone, plc_succ]
            rw [hv, e2]
            have := ih (i + 2) (t ++ [bt L (i + 1)]) (by omega) (by simp; omega) (by omega)
            rcases this with ⟨a, b, c⟩ | h' | h'
            · exact .inl ⟨a, by omega, c⟩
            · exact .inr (.inl h')
            · exact .inr (.inr h')
      · have hq' : ¬ (bt L i).toNat = 34 := hq
        by_cases hm : mayB (ch L i) = false
        · have hv : qd L fr i t = ([], 0, 4, i) := by rw [qd_eq]; simp [h, hq, hm]
          rw [hv]
          refine .inr (.inr ⟨.inl rfl, h, ?_⟩)
          rw [feed_st L _ _ _ _ _ _ _ _ _ h hL]
          refine feed_bad _ _ _ _ _ _ ?_ (by simp)
          have hm' : mayB (bt L i).toNat = false := hm
          simp [st, Rs.next, Rs.quoted, hq', hm', Rs.gone, Rs.fail, Bad]
        · have hm' : ¬ mayB (bt L i).toNat = false := hm
          by_cases h3 : t.length = 4096
          · have hv : qd L fr i t = ([], 0, 5, i) := by rw [qd_eq]; simp [h, hq, hm, h3]
            rw [hv]
            refine .inr (.inr ⟨.inr rfl, h, ?_⟩)
            rw [feed_st L _ _ _ _ _ _ _ _ _ h hL]
            refine feed_bad _ _ _ _ _ _ ?_ (by simp)
            simp [st, Rs.next, Rs.quoted, hq', hm', Rs.gone, Rs.fail, Bad, Rs.add, h3]
          · have hv : qd L fr i t = qd L fr (i + 1) (t ++ [bt L i]) := by rw [qd_eq L fr i t]; simp [h, hq, hm, h3]
            have e2 : feed L (st L 4 i o e rw wd t cs td) i = feed L (st L 4 (i + 1) o e rw wd (t ++ [bt L i]) cs td) (i + 1) := by
              rw [feed_st L _ _ _ _ _ _ _ _ _ h hL]
              simp [st, Rs.next, Rs.quoted, hq', hm', Rs.add, h3, Rs.gone, plc_succ]
            rw [hv, e2]
            have := ih (i + 1) (t ++ [bt L i]) (by omega) (by simp; omega) (by omega)
            rcases this with ⟨a, b, c⟩ | h' | h'
            · exact .inl ⟨a, by omega, c⟩
            · exact .inr (.inl h')
            · exact .inr (.inr h')
    · have he : i = L.length := by omega
      subst he
      refine .inr (.inl ⟨by rw [qd_eq]; simp, t, feed_end _ _ _ (Nat.le_refl _)⟩)

theorem sub_snoc (L : List UInt8) (a i : Nat) (h : i < L.length) (ha : a ≤ i) : sub L a (i + 1) = sub L a i ++ [bt L i] := by
  unfold sub bt
  rw [List.take_add_one, List.drop_append_of_le_length (by simp; omega), List.getD_eq_getElem?_getD, List.getElem?_eq_getElem h]
  rfl
theorem sub_len (L : List UInt8) (a i : Nat) (h : i ≤ L.length) : (sub L a i).length = i - a := by
  unfold sub; simp; omega
theorem sub_nil (L : List UInt8) (a : Nat) : sub L a a = [] := by
  unfold sub; apply List.drop_eq_nil_of_le; simp; omega

/-- within a bare cell -/
theorem ql_feed (L : List UInt8) (hL : L.length ≤ 262144) (fr : Nat) (o e : Nat × Nat) (rw wd : Nat) (cs : List (List UInt8)) (td : List (List (List UInt8))) :
    ∀ (n i : Nat), L.length - i ≤ n → fr ≤ i → i - fr ≤ 4096 → i ≤ L.length →
      ((ql L fr i).2.1 = 0 ∧ i ≤ (ql L fr i).1 ∧ (ql L fr i).1 ≤ L.length ∧ ((ql L fr i).1 < L.length → ch L (ql L fr i).1 = 44 ∨ ch L (ql L fr i).1 = 13) ∧ (ql L fr i).1 - fr ≤ 4096 ∧ feed L (st L 3 i o e rw wd (sub L fr i) cs td) i = feed L (st L 3 (ql L fr i).1 o e rw wd (sub L fr (ql L fr i).1) cs td) (ql L fr i).1)
      ∨ (((ql L fr i).2.1 = 2 ∨ (ql L fr i).2.1 = 4 ∨ (ql L fr i).2.1 = 5 ∨ ((ql L fr i).2.1 = 3 ∧ ch L (ql L fr i).2.2 = 10)) ∧ (ql L fr i).2.2 < L.length ∧ Bad (feed L (st L 3 i o e rw wd (sub L fr i) cs td) i) (ql L fr i).2.1 (plc L (ql L fr i).2.2) td) := by
  intro n
  induction n with
  | zero =>
    intro i hn hf hc hi
    have he : i = L.length := by omega
    subst he
    have hv : ql L fr L.length = (L.length, 0, 0) := by rw [ql_eq]; simp
    rw [hv]
    exact .inl ⟨rfl, Nat.le_refl _, Nat.le_refl _, fun h => absurd h (Nat.lt_irrefl _), hc, rfl⟩
  | succ n ih =>
    intro i hn hf hc hi
    by_cases h : i < L.length ∧ ch L i ≠ 44 ∧ ch L i ≠ 13
    · obtain ⟨h, h44, h13⟩ := h
      have h44' : ¬ (bt L i).toNat = 44 := h44
      have h13' : ¬ (bt L i).toNat = 13 := h13
      by_cases h10 : ch L i = 10
      · have hv : ql L fr i = (0, 3, i) := by rw [ql_eq]; simp [h, h10]
        rw [hv]
        refine .inr ⟨.inr (.inr (.inr ⟨rfl, h10⟩)), h, ?_⟩
        rw [feed_st L _ _ _ _ _ _ _ _ _ h hL]
        refine feed_bad _ _ _ _ _ _ ?_ (by simp)
        have h10' : (bt L i).toNat = 10 := h10
        simp [st, Rs.next, Rs.plain, h10', Rs.gone, Rs.fail, Bad]
      · have h10' : ¬ (bt L i).toNat = 10 := h10
        by_cases h34 : ch L i = 34
        · have hv : ql L fr i = (0, 2, i) := by rw [ql_eq]; simp [h, h34]
          rw [hv]
          refine .inr ⟨.inl rfl, h, ?_⟩
          rw [feed_st L _ _ _ _ _ _ _ _ _ h hL]
          refine feed_bad _ _ _ _ _ _ ?_ (by simp)
          have h34' : (bt L i).toNat = 34 := h34
          simp [st, Rs.next, Rs.plain, h34', Rs.gone, Rs.fail, Bad]
        · have h34' : ¬ (bt L i).toNat = 34 := h34
          by_cases h9 : ch L i = 9 ∨ mayB (ch L i) = false
          · have hv : ql L fr i = (0, 4, i) := by rw [ql_eq L fr i, if_pos ⟨h, h44, h13⟩, if_neg h10, if_neg h34, if_pos h9]
            rw [hv]
            refine .inr ⟨.inr (.inl rfl), h, ?_⟩
            rw [feed_st L _ _ _ _ _ _ _ _ _ h hL]
            refine feed_bad _ _ _ _ _ _ ?_ (by simp)
            have h9' : (bt L i).toNat = 9 ∨ mayB (bt L i).toNat = false := h9
            simp [st, Rs.next, Rs.plain, h44', h13', h10', h34', h9', Rs.gone, Rs.fail, Bad]
          · have h9' : ¬ ((bt L i).toNat = 9 ∨ mayB (bt L i).toNat = false) := h9
            by_cases h4 : i - fr = 4096
            · have hv : ql L fr i = (0, 5, i) := by rw [ql_eq L fr i, if_pos ⟨h, h44, h13⟩, if_neg h10, if_neg h34, if_neg h9, if_pos h4]
              rw [hv]
              refine .inr ⟨.inr (.inr (.inl rfl)), h, ?_⟩
              rw [feed_st L _ _ _ _ _ _ _ _ _ h hL]
              refine feed_bad _ _ _ _ _ _ ?_ (by simp)
              have hl : (sub L fr i).length = 4096 := by rw [sub_len _ _ _ hi]; exact h4
              simp [st, Rs.next, Rs.plain, h44', h13', h10', h34', h9', Rs.add, hl, Rs.gone, Rs.fail, Bad]
            · have hv : ql L fr i = ql L fr (i + 1) := by rw [ql_eq L fr i, if_pos ⟨h, h44, h13⟩, if_neg h10, if_neg h34, if_neg h9, if_neg h4]
              have hl : ¬ (sub L fr i).length = 4096 := by rw [sub_len _ _ _ hi]; exact h4
              have e2 : feed L (st L 3 i o e rw wd (sub L fr i) cs td) i = feed L (st L 3 (i + 1) o e rw wd (sub L fr (i + 1)) cs td) (i + 1) := by
                rw [feed_st L _ _ _ _ _ _ _ _ _ h hL, sub_snoc L fr i h hf]
                simp [st, Rs.next, Rs.plain, h44', h13', h10', h34', h9', Rs.add, hl, Rs.gone, plc_succ]
              rw [hv, e2]
              have := ih (i + 1) (by omega) (by omega) (by omega) (by omega)
              rcases this with ⟨a, b, c⟩ | h'
              · exact .inl ⟨a, by omega, c⟩
              · exact .inr h'
    · have hv : ql L fr i = (i, 0, 0) := by rw [ql_eq]; simp [h]
      rw [hv]
      refine .inl ⟨rfl, Nat.le_refl _, hi, fun h' => ?_, hc, rfl⟩
      have h2 : ¬ (ch L i ≠ 44 ∧ ch L i ≠ 13) := fun h3 => h ⟨h', h3⟩
      show ch L i = 44 ∨ ch L i = 13
      omega
end Go.Proofs.YtpgpeafmlijfkaaGreatDoor
