/-
  Ty1: Sheets: the numbers of texts: an int's, cents'; the program's way and the document's are one.
  Ty2: Sheets: what the program's readers of cells lean on: isWhole, CutPrefix, Cut, Atoi.
  Ty3: Sheets: CutPrefix of a minus, Cut at a point, Atoi, whatever the text.
  Ty4: Sheets: Cut at a point; the program's readers of ints, cents, texts, yes and no.
-/
import Derived.Test.YtmgfdnccmeahjaaGreatDoorProg
import Derived.Lib.AtoiAll
import Derived.Test.YtmgfdnccmeahjaaGreatDoorShelf
import Derived.Test.YtmgfdnccmeahjaaGreatDoorYF
import Derived.WalkKit
import Derived.Lib.SmallJoins
import Derived.Laws.Strings2
namespace Go.Proofs.YtmgfdnccmeahjaaGreatDoor
open Go.Lib
set_option maxRecDepth 100000
set_option linter.unusedVariables false
set_option linter.unusedSimpArgs false

/-- a digit; the number that digits spell behind acc -/
def dg (b : UInt8) : Bool := decide (48 ≤ b.toNat) && decide (b.toNat ≤ 57)
def dvf (acc : Nat) : List UInt8 → Nat
  | [] => acc
  | b :: r => dvf (acc * 10 + (b.toNat - 48)) r
/-- a whole number's digits -/
def wh (d : List UInt8) : Bool := d == [48] || (!d.isEmpty && d.head? != some 48 && d.all dg)
def ngt (T : List UInt8) : Bool := T.head? == some 45
def bdy (T : List UInt8) : List UInt8 := if ngt T then T.tail else T
/-- the number of a text, if it has one -/
def intR (T : List UInt8) : Option Int :=
  match atoiAll T with
  | .ok v => if wh (bdy T) && !(ngt T && v == 0) then some v else none
  | _ => none
/-- ahead of the first point, behind it -/
def ctA (T : List UInt8) : List UInt8 := T.takeWhile (· != 46)
def ctB (T : List UInt8) : List UInt8 := if T.contains 46 then (T.dropWhile (· != 46)).tail else [48, 48]
def centR (T : List UInt8) : Option Int :=
  match atoiAll (ctA (bdy T) ++ ctB (bdy T)) with
  | .ok v => if wh (ctA (bdy T)) && decide ((ctB (bdy T)).length = 2) && decide (v ≤ 1000000000000000) && !(ngt T && v == 0) then some (if ngt T then -v else v) else none
  | _ => none

theorem dvf_ge : ∀ (l : List UInt8) (acc : Nat), acc ≤ dvf acc l
  | [], acc => Nat.le_refl _
  | b :: r, acc => by
    have := dvf_ge r (acc * 10 + (b.toNat - 48))
    show acc ≤ dvf (acc * 10 + (b.toNat - 48)) r
    omega
theorem dg_iff (b : UInt8) : dg b = true ↔ 48 ≤ b.toNat ∧ b.toNat ≤ 57 := by simp [dg]
theorem pu_step (acc : Nat) (c : UInt8) (r : List UInt8) : parseUint10 acc (c :: r) = if 48 ≤ c.toNat ∧ c.toNat ≤ 57 then (if 18446744073709551616 ≤ acc * 10 + (c.toNat - 48) ∨ 1844674407370955162 ≤ acc then .range else parseUint10 (acc * 10 + (c.toNat - 48)) r) else parseUint10 0 [0] := by
  generalize hz : parseUint10 0 [0] = z
  have hz' : z = parseUint10 acc [0] := by rw [← hz]; rfl
  rw [hz']
  simp only [parseUint10]
  by_cases h1 : 48 ≤ c.toNat ∧ c.toNat ≤ 57
  · rw [if_pos h1, if_pos h1]
    by_cases h2 : 1844674407370955162 ≤ acc
    · rw [if_pos h2, if_pos (.inr h2)]
    · rw [if_neg h2]
      by_cases h3 : 18446744073709551616 ≤ acc * 10 + (c.toNat - 48)
      · rw [if_pos h3, if_pos (.inl h3)]
      · rw [if_neg h3, if_neg (by omega)]
  · rw [if_neg h1, if_neg h1, if_neg (by decide)]
theorem pu_nil (acc u : Nat) : parseUint10 acc [] = .ok u ↔ acc = u := by simp only [parseUint10, NumEnd.ok.injEq]
def B64 : Nat := 18446744073709551616
theorem pu_ok (l : List UInt8) : ∀ (acc u : Nat), acc < B64 → (parseUint10 acc l = .ok u ↔ l.all dg = true ∧ dvf acc l = u ∧ u < B64) := by
  induction l with
  | nil =>
    intro acc u ha
    rw [pu_nil]
    constructor
    · intro h; subst h; exact ⟨rfl, rfl, ha⟩
    · intro h; exact h.2.1
  | cons c r ih =>
    intro acc u ha
    have hge := dvf_ge r (acc * 10 + (c.toNat - 48))
    have hd : dvf acc (c :: r) = dvf (acc * 10 + (c.toNat - 48)) r := rfl
    have hB : B64 = 18446744073709551616 := rfl
    rw [hd, pu_step, List.all_cons, Bool.and_eq_true, dg_iff]
    by_cases h1 : 48 ≤ c.toNat ∧ c.toNat ≤ 57
    · rw [if_pos h1]
      by_cases h2 : 18446744073709551616 ≤ acc * 10 + (c.toNat - 48) ∨ 1844674407370955162 ≤ acc
      · rw [if_pos h2]
        constructor
        · intro h; cases h
        · rintro ⟨_, h3, h4⟩
          omega
      · rw [if_neg h2, ih _ u (by omega)]
        constructor
        · rintro ⟨a, b⟩; exact ⟨⟨h1, a⟩, b⟩
        · rintro ⟨⟨_, a⟩, b⟩; exact ⟨a, b⟩
    · rw [if_neg h1]
      constructor
      · intro h; simp [parseUint10] at h
      · rintro ⟨⟨h2, _⟩, _⟩; exact absurd h2 h1
theorem wh_digits {d : List UInt8} (h : wh d = true) : d ≠ [] ∧ d.all dg = true := by
  unfold wh at h
  rw [Bool.or_eq_true] at h
  rcases h with h | h
  · have : d = [48] := by simpa using h
    subst this
    exact ⟨by simp, by decide⟩
  · simp only [Bool.and_eq_true] at h
    refine ⟨?_, h.2⟩
    intro e
    subst e
    simp at h
/-- Atoi by what stands behind the sign -/
theorem at_plain {c : UInt8} {r : List UInt8} (h1 : c.toNat ≠ 43) (h2 : c.toNat ≠ 45) :
    (∀ u, parseUint10 0 (c :: r) = .ok u → atoiAll (c :: r) = if 9223372036854775808 ≤ u then .range else .ok (u : Int)) ∧ ((∀ u, parseUint10 0 (c :: r) ≠ .ok u) → ∀ v, atoiAll (c :: r) ≠ .ok v) := by
  have e : parseMag (if c.toNat = 43 ∨ c.toNat = 45 then r else c :: r) = parseUint10 0 (c :: r) := by
    rw [if_neg (by omega)]
    unfold parseMag
    rw [if_neg (by simp)]
  unfold atoiAll
  simp only [e]
  generalize parseUint10 0 (c :: r) = q
  refine ⟨fun u hu => ?_, fun hu v => ?_⟩
  · subst hu; simp [h2]
  · cases q with
    | ok u => exact absurd rfl (hu u)
    | _ => simp
theorem at_neg {d : List UInt8} (h0 : d ≠ []) :
    (∀ u, parseUint10 0 d = .ok u → atoiAll (45 :: d) = if 9223372036854775808 < u then .range else .ok (-(u : Int))) ∧ ((∀ u, parseUint10 0 d ≠ .ok u) → ∀ v, atoiAll (45 :: d) ≠ .ok v) := by
  have e45 : (45 : UInt8).toNat = 45 := by decide
  have e : parseMag (if (45 : UInt8).toNat = 43 ∨ (45 : UInt8).toNat = 45 then d else 45 :: d) = parseUint10 0 d := by
    rw [if_pos (.inr e45)]
    unfold parseMag
    rw [if_neg h0]
  unfold atoiAll
  simp only [e]
  generalize parseUint10 0 d = q
  refine ⟨fun u hu => ?_, fun hu v => ?_⟩
  · subst hu; simp
  · cases q with
    | ok u => exact absurd rfl (hu u)
    | _ => simp
/-- Atoi of digits -/
theorem at_digits {d : List UInt8} (h0 : d ≠ []) (h : d.all dg = true) (v : Int) : atoiAll d = .ok v ↔ v = (dvf 0 d : Int) ∧ dvf 0 d < 9223372036854775808 := by
  match d, h0 with
  | c :: r, _ =>
    have hc := (dg_iff c).1 (by simp at h; exact h.1)
    have hp := pu_ok (c :: r) 0
    obtain ⟨a1, a2⟩ := at_plain (r := r) (c := c) (by omega) (by omega)
    have hB : B64 = 18446744073709551616 := rfl
    by_cases hx : dvf 0 (c :: r) < B64
    · rw [a1 _ ((hp (dvf 0 (c :: r)) (by decide)).2 ⟨h, rfl, hx⟩)]
      by_cases h4 : 9223372036854775808 ≤ dvf 0 (c :: r)
      · rw [if_pos h4]
        constructor
        · intro h; cases h
        · rintro ⟨_, h⟩; omega
      · rw [if_neg h4, NumEnd.ok.injEq]
        constructor
        · intro h; exact ⟨by omega, by omega⟩
        · rintro ⟨h, _⟩; omega
    · have hno := a2 (fun u hu => by
        obtain ⟨_, h2, h3⟩ := (hp u (by decide)).1 hu
        omega) v
      constructor
      · intro h; exact absurd h hno
      · rintro ⟨_, h5⟩; omega
/-- Atoi of a minus and digits -/
theorem at_minus {d : List UInt8} (h0 : d ≠ []) (h : d.all dg = true) (v : Int) : atoiAll (45 :: d) = .ok v ↔ v = -(dvf 0 d : Int) ∧ dvf 0 d ≤ 9223372036854775808 := by
  have hp := pu_ok d 0
  obtain ⟨a1, a2⟩ := at_neg h0
  have hB : B64 = 18446744073709551616 := rfl
  by_cases hx : dvf 0 d < B64
  · rw [a1 _ ((hp (dvf 0 d) (by decide)).2 ⟨h, rfl, hx⟩)]
    by_cases h4 : 9223372036854775808 < dvf 0 d
    · rw [if_pos h4]
      constructor
      · intro h; cases h
      · rintro ⟨_, h⟩; omega
    · rw [if_neg h4, NumEnd.ok.injEq]
      constructor
      · intro h; exact ⟨by omega, by omega⟩
      · rintro ⟨h, _⟩; omega
  · have hno := a2 (fun u hu => by
      obtain ⟨_, h2, h3⟩ := (hp u (by decide)).1 hu
      omega) v
    constructor
    · intro h; exact absurd h hno
    · rintro ⟨_, h5⟩; omega
/-- what Atoi takes without a sign are digits -/
theorem at_only {c : UInt8} {r : List UInt8} {v : Int} (hc : dg c = true) (h : atoiAll (c :: r) = .ok v) : (c :: r).all dg = true := by
  have hc' := (dg_iff c).1 hc
  have hp2 := pu_ok (c :: r) 0
  obtain ⟨a1, a2⟩ := at_plain (r := r) (c := c) (by omega) (by omega)
  by_cases hu : ∃ u, parseUint10 0 (c :: r) = .ok u
  · obtain ⟨u, hu⟩ := hu
    exact ((hp2 u (by decide)).1 hu).1
  · exact absurd h (a2 (fun u e => hu ⟨u, e⟩) v)
/-- the document's way: the number of an unsigned text, at most a bound -/
def whR (d : List UInt8) (most : Nat) : Option Nat := if wh d && decide (dvf 0 d ≤ most) then some (dvf 0 d) else none
theorem intR_is (T : List UInt8) : intR T = match whR (bdy T) (if ngt T then 9223372036854775808 else 9223372036854775807) with
    | some n => if ngt T && n == 0 then none else some (if ngt T then -(n : Int) else (n : Int))
    | none => none := by
  unfold intR whR
  cases hw : wh (bdy T) with
  | false =>
    simp only [Bool.false_and, Bool.false_eq_true, if_false]
    cases atoiAll T <;> rfl
  | true =>
    obtain ⟨h0, hd⟩ := wh_digits hw
    simp only [Bool.true_and, decide_eq_true_eq]
    cases hn : ngt T with
    | false =>
      have eb : bdy T = T := by unfold bdy; rw [hn]; rfl
      rw [eb] at h0 hd ⊢
      have hA := at_digits h0 hd
      simp only [Bool.false_and, Bool.not_false, if_true, Bool.false_eq_true, if_false]
      by_cases hv : dvf 0 T ≤ 9223372036854775807
      · rw [(hA _).2 ⟨rfl, by omega⟩, if_pos hv]
      · rw [if_neg hv]
        generalize hq : atoiAll T = q at hA
        cases q with
        | ok u => have := ((hA u).1 rfl).2; omega
        | _ => rfl
    | true =>
      have ht : T = 45 :: bdy T := by
        match T, hn with
        | c :: r, hn =>
          have : c = 45 := by simpa [ngt] using hn
          subst this
          simp [bdy, ngt]
      have hA := at_minus h0 hd
      rw [← ht] at hA
      simp only [Bool.true_and, if_true]
      by_cases hv : dvf 0 (bdy T) ≤ 9223372036854775808
      · rw [(hA _).2 ⟨rfl, hv⟩, if_pos hv]
        by_cases hz : dvf 0 (bdy T) = 0
        · simp [hz]
        · have h1 : (dvf 0 (bdy T) == 0) = false := by simp [hz]
          have h2 : (-(dvf 0 (bdy T) : Int) == 0) = false := by simp; omega
          simp [h1, h2]
      · rw [if_neg hv]
        generalize hq : atoiAll T = q at hA
        cases q with
        | ok u => have := ((hA u).1 rfl).2; omega
        | _ => rfl
/-- the document's way with cents -/
def ptd (d : List UInt8) : Bool := decide (3 ≤ d.length) && d.getD (d.length - 3) 0 == 46
def hcs (d : List UInt8) : Nat := if ptd d then dvf 0 (d.drop (d.length - 2)) else 0
def hwh (d : List UInt8) : List UInt8 := if ptd d then d.take (d.length - 3) else d
def fin (ng : Bool) (m : Nat) : Option Int := if decide (1000000000000000 < m) || (ng && m == 0) then none else some (if ng then -(m : Int) else (m : Int))
def hunR (T : List UInt8) : Option Int :=
  if ptd (bdy T) && !(dg ((bdy T).getD ((bdy T).length - 2) 0) && dg ((bdy T).getD ((bdy T).length - 1) 0)) then none
  else match whR (hwh (bdy T)) 1000000000000000 with
    | none => none
    | some n => fin (ngt T) (n * 100 + hcs (bdy T))
theorem wh_pt {d : List UInt8} (h : (46 : UInt8) ∈ d) : wh d = false := by
  cases hw : wh d with
  | false => rfl
  | true =>
    have := List.all_eq_true.1 (wh_digits hw).2 _ h
    exact absurd this (by decide)
theorem dvf_app : ∀ (a b : List UInt8) (acc : Nat), dvf acc (a ++ b) = dvf (dvf acc a) b
  | [], b, acc => rfl
  | c :: a, b, acc => dvf_app a b _
theorem dvf_two (n : Nat) (x y : UInt8) (hx : dg x = true) (hy : dg y = true) : dvf n [x, y] = n * 100 + dvf 0 [x, y] ∧ dvf 0 [x, y] ≤ 99 := by
  have h1 := (dg_iff x).1 hx
  have h2 := (dg_iff y).1 hy
  show ((n * 10 + (x.toNat - 48)) * 10 + (y.toNat - 48)) = n * 100 + ((0 * 10 + (x.toNat - 48)) * 10 + (y.toNat - 48)) ∧ ((0 * 10 + (x.toNat - 48)) * 10 + (y.toNat - 48)) ≤ 99
  generalize x.toNat = p at *
  generalize y.toNat = q at *
  omega
theorem cut_pt : ∀ (d : List UInt8), (46 : UInt8) ∈ d → ∃ a b, d = a ++ 46 :: b ∧ (46 : UInt8) ∉ a ∧ ctA d = a ∧ (d.dropWhile (· != 46)).tail = b
  | [], h => by simp at h
  | c :: r, h => by
    by_cases hc : c = 46
    · subst hc
      exact ⟨[], r, rfl, by simp, by simp [ctA], by simp⟩
    · have hr : (46 : UInt8) ∈ r := by simpa [Ne.symm hc] using h
      obtain ⟨a, b, h1, h2, h3, h4⟩ := cut_pt r hr
      refine ⟨c :: a, b, by rw [h1]; rfl, by simp [h2, Ne.symm hc], ?_, ?_⟩
      · show (c :: r).takeWhile (· != 46) = _
        rw [List.takeWhile_cons, if_pos (by simp [hc])]
        rw [show r.takeWhile (· != 46) = a from h3]
      · rw [List.dropWhile_cons, if_pos (by simp [hc])]
        exact h4
theorem ctA_none : ∀ {d : List UInt8}, (46 : UInt8) ∉ d → ctA d = d
  | [], _ => rfl
  | c :: r, h => by
    have hc : c ≠ 46 := fun e => h (by rw [e]; simp)
    have hr : (46 : UInt8) ∉ r := fun e => h (by simp [e])
    show (c :: r).takeWhile (· != 46) = c :: r
    rw [List.takeWhile_cons, if_pos (by simp [hc]), show r.takeWhile (· != 46) = r from ctA_none hr]
/-- Atoi of a whole number's digits and two more bytes -/
theorem at_two {a : List UInt8} {x y : UInt8} (hw : wh a = true) (v : Int) : atoiAll (a ++ [x, y]) = .ok v ↔ (dg x = true ∧ dg y = true) ∧ v = ((dvf 0 a * 100 + dvf 0 [x, y] : Nat) : Int) ∧ dvf 0 a * 100 + dvf 0 [x, y] < 9223372036854775808 := by
  obtain ⟨h0, hd⟩ := wh_digits hw
  by_cases hxy : dg x = true ∧ dg y = true
  · have hall : (a ++ [x, y]).all dg = true := by simp [hxy.1, hxy.2]; simpa using hd
    rw [at_digits (by simp) hall, dvf_app, (dvf_two (dvf 0 a) x y hxy.1 hxy.2).1]
    simp [hxy.1, hxy.2]
  · constructor
    · intro h
      exfalso
      match a, h0, hd with
      | c :: r, _, hd =>
        have hc : dg c = true := by simp at hd; exact hd.1
        have := at_only (r := r ++ [x, y]) hc h
        rw [← List.cons_append, List.all_append] at this
        simp at this
        exact hxy ⟨this.2.1, this.2.2⟩
    · rintro ⟨h, _⟩; exact absurd h hxy
/-- both ends as one -/
theorem fin_is (ng : Bool) (a : List UInt8) (x y : UInt8) (b2 : decide (([x, y] : List UInt8).length = 2) = true) :
    (match atoiAll (a ++ [x, y]) with
      | .ok v => if wh a && decide (([x, y] : List UInt8).length = 2) && decide (v ≤ 1000000000000000) && !(ng && v == 0) then some (if ng then -v else v) else none
      | _ => none) = if !(dg x && dg y) then none else match whR a 1000000000000000 with
        | none => none
        | some n => fin ng (n * 100 + dvf 0 [x, y]) := by
  rw [b2]
  cases hw : wh a with
  | false =>
    have e : whR a 1000000000000000 = none := by unfold whR; rw [hw]; rfl
    rw [e]
    cases atoiAll (a ++ [x, y]) <;> simp
  | true =>
    have hA := at_two (x := x) (y := y) hw
    by_cases hxy : dg x = true ∧ dg y = true
    · have hd2 := (dvf_two 0 x y hxy.1 hxy.2).2
      rw [hxy.1, hxy.2]
      unfold whR
      rw [hw]
      simp only [Bool.true_and, Bool.and_self, Bool.not_true, Bool.false_eq_true, if_false, decide_eq_true_eq]
      generalize dvf 0 [x, y] = c at hA hd2 ⊢
      generalize dvf 0 a = n at hA ⊢
      generalize hq : atoiAll (a ++ [x, y]) = q at hA
      by_cases hv : n * 100 + c < 9223372036854775808
      · have h1 := (hA ((n * 100 + c : Nat) : Int)).2 ⟨hxy, rfl, hv⟩
        rw [h1]
        simp only []
        by_cases hm : n * 100 + c ≤ 1000000000000000
        · rw [if_pos (by omega : n ≤ 1000000000000000)]
          simp only [fin]
          rw [decide_eq_true (by omega : ((n * 100 + c : Nat) : Int) ≤ 1000000000000000), decide_eq_false (by omega : ¬ 1000000000000000 < n * 100 + c)]
          have hz : (((n * 100 + c : Nat) : Int) == 0) = (n * 100 + c == 0) := by
            by_cases z : n * 100 + c = 0
            · rw [z]; rfl
            · rw [beq_eq_false_iff_ne.2 z, beq_eq_false_iff_ne.2 (by omega)]
          rw [hz]
          cases ng <;> cases (n * 100 + c == 0) <;> simp
        · rw [decide_eq_false (by omega : ¬ ((n * 100 + c : Nat) : Int) ≤ 1000000000000000)]
          simp only [Bool.false_and, Bool.false_eq_true, if_false]
          by_cases hn : n ≤ 1000000000000000
          · rw [if_pos hn]
            simp only [fin]
            rw [decide_eq_true (by omega : 1000000000000000 < n * 100 + c)]
            simp
          · rw [if_neg hn]
      · have hno : ∀ v, q ≠ .ok v := fun v e => hv ((hA v).1 e).2.2
        have e1 : (match q with
            | .ok v => if decide (v ≤ 1000000000000000) && !(ng && v == 0) then some (if ng then -v else v) else none
            | _ => none) = none := by
          cases q with
          | ok v => exact absurd rfl (hno v)
          | _ => rfl
        rw [e1]
        by_cases hn : n ≤ 1000000000000000
        · rw [if_pos hn]
          simp only [fin]
          rw [decide_eq_true (by omega : 1000000000000000 < n * 100 + c)]
          simp
        · rw [if_neg hn]
    · have hno : ∀ v, atoiAll (a ++ [x, y]) ≠ .ok v := fun v e => hxy ((hA v).1 e).1
      have hf : (dg x && dg y) = false := by
        cases h1 : dg x <;> cases h2 : dg y <;> simp_all
      rw [hf]
      simp only [Bool.not_false, if_true]
theorem centR_is (T : List UInt8) : centR T = hunR T := by
  unfold centR hunR
  generalize bdy T = d
  generalize ngt T = ng
  by_cases hp : (46 : UInt8) ∈ d
  · obtain ⟨a, b, hd, ha, hA, hB⟩ := cut_pt d hp
    have hB2 : ctB d = b := by unfold ctB; rw [if_pos (by simpa using hp), hB]
    rw [hA, hB2]
    have hk : d.length = a.length + (b.length + 1) := by rw [hd]; simp
    by_cases h2 : b.length = 2
    · match b, h2 with
      | [x, y], _ =>
        have hk3 : d.length = a.length + 3 := hk
        have gA : ∀ i, d.getD (a.length + i) 0 = ([46, x, y] : List UInt8).getD i 0 := fun i => by
          rw [hd, List.getD_eq_getElem?_getD, List.getElem?_append_right (by omega), Nat.add_sub_cancel_left, List.getD_eq_getElem?_getD]
        have g3 : d.getD (d.length - 3) 0 = 46 := by rw [hk3, show a.length + 3 - 3 = a.length + 0 by omega, gA]; rfl
        have g2 : d.getD (d.length - 2) 0 = x := by rw [hk3, show a.length + 3 - 2 = a.length + 1 by omega, gA]; rfl
        have g1 : d.getD (d.length - 1) 0 = y := by rw [hk3, show a.length + 3 - 1 = a.length + 2 by omega, gA]; rfl
        have gt : d.take (d.length - 3) = a := by rw [hk3, Nat.add_sub_cancel, hd]; exact List.take_left' rfl
        have gd : d.drop (d.length - 2) = [x, y] := by
          rw [hk3, hd, show a ++ 46 :: [x, y] = (a ++ [46]) ++ [x, y] by simp]
          exact List.drop_left' (by simp)
        have hpt : ptd d = true := by unfold ptd; rw [g3, decide_eq_true (by omega)]; rfl
        unfold hwh hcs
        rw [hpt, g2, g1, gt, gd]
        simp only [if_true, Bool.true_and]
        exact fin_is ng a x y (by simp)
    · have e1 : decide (b.length = 2) = false := decide_eq_false h2
      rw [e1]
      simp only [Bool.and_false, Bool.false_and, Bool.false_eq_true, if_false]
      have e2 : (match atoiAll (a ++ b) with
          | .ok v => (none : Option Int)
          | _ => none) = none := by cases atoiAll (a ++ b) <;> rfl
      have hw : wh (hwh d) = false := by
        unfold hwh
        cases hpt : ptd d with
        | false => exact wh_pt hp
        | true =>
          simp only [if_true]
          apply wh_pt
          unfold ptd at hpt
          simp only [Bool.and_eq_true, decide_eq_true_eq] at hpt
          have h46 : d.getD (d.length - 3) 0 = 46 := by simpa using hpt.2
          have hlt : a.length < d.length - 3 := by
            rcases Nat.lt_or_ge a.length (d.length - 3) with h | h
            · exact h
            · exfalso
              by_cases he : d.length - 3 = a.length
              · omega
              · have hl : d.length - 3 < a.length := by omega
                rw [hd, List.getD_eq_getElem?_getD, List.getElem?_append_left (by rw [← hd]; exact hl), ← hd, List.getElem?_eq_getElem hl] at h46
                exact ha (by rw [← show a[d.length - 3] = 46 from h46]; exact List.getElem_mem hl)
          rw [List.mem_take_iff_getElem]
          refine ⟨a.length, by omega, ?_⟩
          have : d[a.length]? = some 46 := by rw [hd, List.getElem?_append_right (Nat.le_refl _), Nat.sub_self]; rfl
          exact (List.getElem?_eq_some_iff.1 this).2
      have e3 : whR (hwh d) 1000000000000000 = none := by unfold whR; rw [hw]; rfl
      rw [e3]
      simp only []
      split <;> split <;> rfl
  · have hB : ctB d = [48, 48] := by unfold ctB; rw [if_neg (by simpa using hp)]
    have hpt : ptd d = false := by
      cases h : ptd d with
      | false => rfl
      | true =>
        exfalso
        unfold ptd at h
        simp only [Bool.and_eq_true, decide_eq_true_eq] at h
        have h46 : d.getD (d.length - 3) 0 = 46 := by simpa using h.2
        have hl : d.length - 3 < d.length := by omega
        rw [List.getD_eq_getElem?_getD, List.getElem?_eq_getElem hl] at h46
        exact hp (by rw [← show d[d.length - 3] = 46 from h46]; exact List.getElem_mem hl)
    rw [ctA_none hp, hB]
    unfold hwh hcs
    rw [hpt]
    simp only [Bool.false_and, Bool.false_eq_true, if_false]
    have := fin_is ng d 48 48 (by simp)
    rw [this]
    have e48 : dg 48 = true := by decide
    rw [e48]
    rfl
end Go.Proofs.YtmgfdnccmeahjaaGreatDoor

namespace Go.Proofs.YtmgfdnccmeahjaaGreatDoor
open Go.RowKit
set_option maxRecDepth 100000
set_option linter.unusedVariables false
set_option linter.unusedSimpArgs false

theorem szL (s : ByteArray) : s.data.toList.length = s.size := Array.length_toList
theorem atL (s : ByteArray) (i : Nat) (h : i < s.size) : s.data.toList[i]'(by rw [szL]; exact h) = s[i] := by rw [Array.getElem_toList]; rfl
theorem wh_no {d : List UInt8} {i : Nat} (hi : i < d.length) (h : dg d[i] = false) : wh d = false := by
  cases hw : wh d with
  | false => rfl
  | true =>
    have := List.all_eq_true.1 (wh_digits hw).2 _ (List.getElem_mem hi)
    rw [h] at this
    cases this
theorem wh_yes {d : List UInt8} (h : ∀ i (hi : i < d.length), dg d[i] = true) : wh d = (d == [48] || (!d.isEmpty && d.head? != some 48)) := by
  have : d.all dg = true := by
    rw [List.all_eq_true]
    intro x hx
    obtain ⟨i, hi, rfl⟩ := List.mem_iff_getElem.1 hx
    exact h i hi
  unfold wh
  rw [this, Bool.and_true]
set_option maxHeartbeats 1000000 in
theorem isWhole_any (s : ByteArray) (w : World) (hs : s.size ≤ 9223372036854775807) :
    Calls Tryz.prog 166 #[.string s] w fun e w' => e = .returned (.bool (wh s.data.toList)) ∧ w' = w := by
  obtain ⟨V, hV⟩ : ∃ V, wh s.data.toList = V := ⟨_, rfl⟩
  rw [hV]
  have HV := hid hV
  clear hV
  go_enter Tryz.func166, Tryz.ntmps166
  go_wp2_with fail
  go_loop [6] (fun i => ∃ k : Nat, k ≤ s.size ∧ i = .int .i64 (k : Int) ∧ Hid (∀ j (hj : j < s.data.toList.length), j < k → dg s.data.toList[j] = true)) (fun i => s.size - (intOf i).toNat)
  case atStart => exact ⟨0, Nat.zero_le _, rfl, hid fun j _ h => absurd h (Nat.not_lt_zero _)⟩
  case round =>
    obtain ⟨k, hk, rfl, HA⟩ := hrel
    by_cases hlt : k < s.size
    · have hI : (k : Int) < (s.size : Int) := by omega
      have hat := atL s k hlt
      by_cases h1 : s[k].toNat < 48
      · have h1I : (s[k].toNat : Int) < 48 := by omega
        have hv : V = false := by rw [← HV.out]; exact wh_no (i := k) (by rw [szL]; exact hlt) (by rw [hat]; simp [dg]; omega)
        subst hv
        clear hat
        go_wp2
        go_ret
        exact ⟨rfl, rfl⟩
      · by_cases h2 : 57 < s[k].toNat
        · have h1I : ¬ (s[k].toNat : Int) < 48 := by omega
          have h2I : (57 : Int) < (s[k].toNat : Int) := by omega
          have hv : V = false := by rw [← HV.out]; exact wh_no (i := k) (by rw [szL]; exact hlt) (by rw [hat]; simp [dg]; omega)
          subst hv
          clear hat
          go_wp2
          go_ret
          exact ⟨rfl, rfl⟩
        · have h1I : ¬ (s[k].toNat : Int) < 48 := by omega
          have h2I : ¬ (57 : Int) < (s[k].toNat : Int) := by omega
          have HB := hid (show ∀ j (hj : j < s.data.toList.length), j < k + 1 → dg s.data.toList[j] = true from fun j hj hlt2 => by
            by_cases e : j = k
            · subst e
              rw [hat]
              simp [dg]; omega
            · exact HA.out j hj (by omega))
          clear hat
          go_wp2
          go_round
          case rel => exact ⟨k + 1, by omega, by go_num, HB⟩
          case measure => simp [intOf]; omega
    · have hI : ¬ (k : Int) < (s.size : Int) := by omega
      have hv : V = (s.data.toList == [48] || (!s.data.toList.isEmpty && s.data.toList.head? != some 48)) := by
        rw [← HV.out]
        exact wh_yes fun i hi => HA.out i hi (by rw [szL] at hi; omega)
      have eL : s.toList = s.data.toList := ByteArray.toList_eq s
      have hl := szL s
      match hcr : s.data.toList with
      | [] =>
        rw [hcr] at eL hv
        have e1 : (s.toList == [48]) = false := by rw [eL]; rfl
        have e2 : s.toList.isEmpty = true := by rw [eL]; rfl
        have hv' : V = false := hv
        subst hv'
        clear eL hl hcr hv
        go_wp2
        go_ret
        exact ⟨rfl, rfl⟩
      | c :: r =>
        have h0 : 0 < s.size := by rw [← hl, hcr]; simp
        have h0I : (0 : Int) < (s.size : Int) := by omega
        have hc : s[0] = c := by
          have h1 := atL s 0 h0
          have h2 : s.data.toList[0]'(by rw [szL]; exact h0) = (c :: r)[0]'(by simp) := by simp only [hcr]
          rw [← h1, h2]
          rfl
        rw [hcr] at eL hv
        have e2 : s.toList.isEmpty = false := by rw [eL]; rfl
        obtain ⟨b, hb⟩ : ∃ b, (s.toList == [48]) = b := ⟨_, rfl⟩
        rw [← eL] at hv
        rw [hb] at hv
        rw [eL] at hv
        have HVv := hid hv
        clear hv
        cases b with
        | true =>
          have hv' : V = true := by rw [HVv.out]; rfl
          subst hv'
          clear eL hl hcr hc
          go_wp2
          go_ret
          exact ⟨rfl, rfl⟩
        | false =>
          by_cases h48 : s[0].toNat = 48
          · have e3 : ((s[0].toNat : Int) != 48) = false := by rw [h48]; rfl
            have hv' : V = false := by
              rw [HVv.out]
              have : c = 48 := by rw [← hc]; exact UInt8.toNat_inj.1 (by rw [h48]; rfl)
              rw [this]; rfl
            subst hv'
            clear eL hl hcr hc h48
            go_wp2
            go_ret
            first | exact ⟨rfl, rfl⟩ | exact ⟨by rw [e3], rfl⟩
          · have e3 : ((s[0].toNat : Int) != 48) = true := by simp; omega
            have hv' : V = true := by
              rw [HVv.out]
              have : c ≠ 48 := by rw [← hc]; intro e; rw [e] at h48; exact h48 rfl
              simp [this]
            subst hv'
            clear eL hl hcr hc h48
            go_wp2
            go_ret
            first | exact ⟨rfl, rfl⟩ | exact ⟨by rw [e3], rfl⟩
end Go.Proofs.YtmgfdnccmeahjaaGreatDoor

namespace Go.Proofs.YtmgfdnccmeahjaaGreatDoor
open Go.RowKit
set_option maxRecDepth 100000
set_option linter.unusedVariables false
set_option linter.unusedSimpArgs false

/-- a variable holds some error or none -/
def HasEv (g : Nat) (w : World) : Prop := ∃ ev, w.cell? ⟨g, 0, none⟩ = some ev ∧ (ev = .nilIface ∨ ∃ te pe, ev = .iface te pe)
theorem HasEv.below {g : Nat} {w w' : World} (h : HasEv g w) (hb : Below w.heap.size w w') : HasEv g w' := by
  obtain ⟨ev, h1, h2⟩ := h
  exact ⟨ev, (hb.cell (p := ⟨g, 0, none⟩) (World.block_lt_of_cell? _ _ h1)).trans h1, h2⟩
theorem atoi_any (s : ByteArray) (w : World) (hs : s.size ≤ 281474976710656) (h1 : HasEv 25 w) (h2 : HasEv 26 w) :
    Calls Tryz.prog 165 #[.string s] w fun e w' => ((∃ v, Lib.atoiAll s.data.toList = .ok v ∧ e = .returned (.tuple #[.int .i64 v, .nilIface])) ∨ ((∀ v, Lib.atoiAll s.data.toList ≠ .ok v) ∧ ∃ x t p, e = .returned (.tuple #[.int .i64 x, .iface t p]))) ∧ Below w.heap.size w w' := by
  generalize hq : Lib.atoiAll s.data.toList = q
  cases q with
  | ok v =>
    refine (Tryz.strconv_Atoi_ok s (by omega) v hq w).mono ?_
    rintro e w' ⟨rfl, hw⟩
    refine ⟨.inl ⟨v, rfl, rfl⟩, ?_⟩
    rcases hw with rfl | ⟨t, rfl⟩
    · exact Below.refl _ _
    · exact Go.Joins.below_bytesWorld _ _ _ _ (Nat.le_refl _)
  | range =>
    obtain ⟨ev, h3, h4⟩ := h2
    refine (Tryz.strconv_Atoi_range s hs hq ev w h3 h4).mono ?_
    rintro e w' ⟨N, rfl, _, _, hb⟩
    exact ⟨.inr ⟨by simp, _, _, _, rfl⟩, hb⟩
  | _ =>
    obtain ⟨ev, h3, h4⟩ := h1
    refine (Tryz.strconv_Atoi_syntax s hs hq ev w h3 h4).mono ?_
    rintro e w' ⟨N, rfl, _, _, hb⟩
    exact ⟨.inr ⟨by simp, _, _, _, rfl⟩, hb⟩
theorem hp_minus (T : List UInt8) : Lib.hasPrefix T [45] = ngt T := by
  match T with
  | [] => rfl
  | c :: r =>
    show ((45 : UInt8) == c && ([] : List UInt8).isPrefixOf r) = (some c == some 45)
    by_cases h : c = 45
    · subst h; simp
    · have h1 : ((45 : UInt8) == c) = false := by simpa using fun e => h e.symm
      have h2 : (some c == some (45 : UInt8)) = false := by simpa using h
      rw [h1, h2]; rfl
set_option maxHeartbeats 400000 in
theorem liteCutP_any (s : ByteArray) (w : World) (hs : s.size ≤ 281474976710656) :
    Calls Tryz.prog 191 #[.string s, .string ⟨#[45]⟩] w fun e w' => (∃ t : ByteArray, e = .returned (.tuple #[.string t, .bool (ngt s.data.toList)]) ∧ t.data.toList = bdy s.data.toList) ∧ w' = w := by
  have HP := hid (Tryz.stringslite_HasPrefix s ⟨#[45]⟩ w)
  rw [show (⟨#[45]⟩ : ByteArray).data.toList = [45] from rfl, hp_minus] at HP
  obtain ⟨ng, hng⟩ : ∃ ng, ngt s.data.toList = ng := ⟨_, rfl⟩
  rw [hng] at HP ⊢
  have HN := hid hng
  clear hng
  go_enter Tryz.func191, Tryz.ntmps191
  go_wp2_with fail
  refine Calls.mono HP.out ?_
  rintro e w1 ⟨rfl, hw⟩
  replace hw := hw.symm
  subst hw
  cases ng with
  | false =>
    go_wp2
    go_ret2
    exact ⟨⟨s, rfl, by unfold bdy; rw [HN.out]; rfl⟩, rfl⟩
  | true =>
    have h1 : 1 ≤ s.size := by
      rw [← szL]
      have hn := HN.out
      cases hc : s.data.toList with
      | nil => rw [hc] at hn; cases hn
      | cons c r => simp
    have h1I : (1 : Int) ≤ (s.size : Int) := by omega
    go_wp2
    go_ret2
    refine ⟨⟨_, rfl, ?_⟩, rfl⟩
    unfold bdy
    rw [HN.out, Lib.extract_data, if_pos rfl, ← szL s, List.take_of_length_le (by simp)]
    cases s.data.toList <;> rfl
set_option maxHeartbeats 400000 in
theorem cutP_any (s : ByteArray) (w : World) (hs : s.size ≤ 281474976710656) :
    Calls Tryz.prog 164 #[.string s, .string ⟨#[45]⟩] w fun e w' => (∃ t : ByteArray, e = .returned (.tuple #[.string t, .bool (ngt s.data.toList)]) ∧ t.data.toList = bdy s.data.toList) ∧ w' = w := by
  have HP := hid (liteCutP_any s w hs)
  go_enter Tryz.func164, Tryz.ntmps164
  go_wp2_with fail
  refine Calls.mono HP.out ?_
  rintro e w1 ⟨⟨t, rfl, ht⟩, hw⟩
  replace hw := hw.symm
  subst hw
  have HT := hid ht
  clear ht
  go_wp2
  go_ret2
  exact ⟨⟨t, rfl, HT.out⟩, rfl⟩
end Go.Proofs.YtmgfdnccmeahjaaGreatDoor

namespace Go.Proofs.YtmgfdnccmeahjaaGreatDoor
open Go.RowKit
set_option maxRecDepth 100000
set_option linter.unusedVariables false
set_option linter.unusedSimpArgs false

set_option maxHeartbeats 400000 in
theorem liteIndex1_any (s : ByteArray) (w : World) :
    Calls Tryz.prog 216 #[.string s, .string ⟨#[46]⟩] w fun e w' => e = .returned (.int .i64 (Lib.indexByte s.data.toList 46)) ∧ w' = w := by
  have HI := hid (Tryz.stringslite_IndexByte s 46 w)
  rw [show ((46 : Int).toNat.toUInt8) = 46 from rfl] at HI
  obtain ⟨b, hb⟩ : ∃ b, (([46] : List UInt8) == s.toList) = b := ⟨_, rfl⟩
  have HB := hid hb
  cases b with
  | true =>
    have hz : Lib.indexByte s.data.toList 46 = 0 := by
      rw [ByteArray.toList_eq] at hb
      have : s.data.toList = [46] := (by simpa using hb : [46] = s.data.toList).symm
      rw [this]; rfl
    rw [hz]
    clear HB
    go_enter Tryz.func216, Tryz.ntmps216
    go_wp2
    go_ret
    exact ⟨rfl, rfl⟩
  | false =>
    clear HB
    go_enter Tryz.func216, Tryz.ntmps216
    go_wp2_with fail
    refine Calls.mono HI.out ?_
    rintro e w1 ⟨rfl, hw⟩
    replace hw := hw.symm
    subst hw
    go_wp2
    go_ret
    exact ⟨rfl, rfl⟩
theorem ib_cases : ∀ (T : List UInt8), ((46 : UInt8) ∉ T ∧ Lib.indexByte T 46 = -1) ∨ ((46 : UInt8) ∈ T ∧ ∃ k : Nat, Lib.indexByte T 46 = (k : Int) ∧ k < T.length ∧ ctA T = T.take k ∧ (T.dropWhile (· != 46)).tail = T.drop (k + 1))
  | [] => .inl ⟨by simp, rfl⟩
  | c :: r => by
    by_cases hc : c = 46
    · subst hc
      refine .inr ⟨by simp, 0, by simp [Lib.indexByte], by simp, by simp [ctA], by simp⟩
    · have hcb : (c == (46 : UInt8)) = false := by simpa using hc
      have e1 : Lib.indexByte (c :: r) 46 = if Lib.indexByte r 46 == -1 then -1 else Lib.indexByte r 46 + 1 := by simp [Lib.indexByte, hcb]
      rcases ib_cases r with ⟨h1, h2⟩ | ⟨h1, k, h2, h3, h4, h5⟩
      · exact .inl ⟨by simp [h1, Ne.symm hc], by rw [e1, h2]; rfl⟩
      · refine .inr ⟨by simp [h1], k + 1, ?_, by simp; omega, ?_, ?_⟩
        · rw [e1, h2, if_neg (by simp)]; omega
        · show (c :: r).takeWhile (· != 46) = _
          rw [List.takeWhile_cons, if_pos (by simp [hc]), List.take_succ_cons, show r.takeWhile (· != 46) = r.take k from h4]
        · rw [List.dropWhile_cons, if_pos (by simp [hc]), h5]; rfl
set_option maxHeartbeats 400000 in
theorem liteCut_any (s : ByteArray) (w : World) (hs : s.size ≤ 281474976710656) :
    Calls Tryz.prog 194 #[.string s, .string ⟨#[46]⟩] w fun e w' => (∃ a b : ByteArray, e = .returned (.tuple #[.string a, .string b, .bool (s.data.toList.contains 46)]) ∧ a.data.toList = ctA s.data.toList ∧ (s.data.toList.contains 46 = true → b.data.toList = ctB s.data.toList)) ∧ Below w.heap.size w w' := by
  have HI := hid (liteIndex1_any s w)
  have hl := szL s
  rcases ib_cases s.data.toList with ⟨h1, h2⟩ | ⟨h1, k, h2, h3, h4, h5⟩
  · have hcn : s.data.toList.contains 46 = false := by simpa using h1
    rw [h2] at HI
    rw [hcn]
    have HA := hid (ctA_none h1)
    clear h1 h2 hl
    go_enter Tryz.func194, Tryz.ntmps194
    go_wp2_with fail
    refine Calls.mono HI.out ?_
    rintro e w1 ⟨rfl, hw⟩
    replace hw := hw.symm
    subst hw
    go_wp2
    go_ret3
    exact ⟨⟨s, ⟨#[]⟩, rfl, HA.out.symm, fun h => by cases h⟩, Below.refl _ _⟩
  · have hcn : s.data.toList.contains 46 = true := by simpa using h1
    rw [h2] at HI
    have HA := hid h4
    have HB := hid (show ctB s.data.toList = s.data.toList.drop (k + 1) by unfold ctB; rw [if_pos (by simpa using h1), h5])
    rw [hcn]
    have hk : k < s.size := by omega
    have HL := hid hl
    clear h1 h2 h3 h4 h5 hl
    have hkI : (k : Int) < (s.size : Int) := by omega
    go_enter Tryz.func194, Tryz.ntmps194
    go_wp2_with fail
    refine Calls.mono HI.out ?_
    rintro e w1 ⟨rfl, hw⟩
    replace hw := hw.symm
    subst hw
    have hk1 : (k : Int) + 1 ≤ (s.size : Int) := by omega
    go_wp2_with fail
    go_region
    all_goals
      go_wp2
      go_ret3
      refine ⟨⟨_, _, rfl, ?_, fun _ => ?_⟩, (Below.refl _ _).drew⟩
      · rw [HA.out, Lib.extract_data]; simp
      · rw [HB.out, Lib.extract_data, ← HL.out, List.take_of_length_le (by simp)]
end Go.Proofs.YtmgfdnccmeahjaaGreatDoor
