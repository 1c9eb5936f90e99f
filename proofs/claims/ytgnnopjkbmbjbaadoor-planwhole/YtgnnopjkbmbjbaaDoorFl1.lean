/-
  Floats, pure: what a word is; finite ones, NaNs, ones that are not below 0; sums, products, differences that are valid.
-/
import Derived.Test.YtgnnopjkbmbjbaaDoorKb0
import Derived.WalkLawsBesides
namespace Go.Proofs.YtgnnopjkbmbjbaaDoor
open Go.RowKit
set_option maxRecDepth 100000
set_option linter.unusedSimpArgs false

abbrev dbl : Ieee.Format := Ieee.double
def rdF (b : Nat) : Ieee.Datum := dbl.read b
/-- a number that is finite -/
def finB (b : Nat) : Bool := match rdF b with | .number .. => true | _ => false
/-- no number -/
def nanB (b : Nat) : Bool := (rdF b).isNaN
theorem rdF_cases (b : Nat) : (∃ s m e, rdF b = .number s m e ∧ m < 9007199254740992 ∧ -1074 ≤ e ∧ e ≤ 971) ∨ (∃ s, rdF b = .infinity s) ∨ ∃ s t, rdF b = .nan s t := by
  unfold rdF Ieee.Format.read
  simp only
  have hb : dbl.binade = 4503599627370496 := by decide +kernel
  have hi : dbl.infRung = 2047 * 4503599627370496 := by decide +kernel
  have hl : dbl.leastPlace = -1074 := by decide +kernel
  have hs : dbl.signWeight = 9223372036854775808 := by decide +kernel
  rw [hb, hi, hl, hs]
  generalize hr : b % 9223372036854775808 = r
  split
  · rename_i h; exact .inl ⟨_, _, _, rfl, by omega, by omega, by omega⟩
  · split
    · rename_i h1 h2
      refine .inl ⟨_, _, _, rfl, by omega, ?_, ?_⟩
      · omega
      · have : r / 4503599627370496 ≤ 2046 := by omega
        omega
    · split
      · exact .inr (.inl ⟨_, rfl⟩)
      · exact .inr (.inr ⟨_, _, rfl⟩)
theorem order_self {b : Nat} (h : nanB b = false) : dbl.order b b = some .eq := by
  unfold nanB at h
  show (rdF b).order (rdF b) = some .eq
  rcases rdF_cases b with ⟨s, m, e, h1, _⟩ | ⟨s, h1⟩ | ⟨s, t, h1⟩
  · rw [h1]; simp [Ieee.Datum.order]
  · rw [h1]; simp [Ieee.Datum.order]
  · rw [h1] at h; simp [Ieee.Datum.isNaN] at h
theorem order_nan {b : Nat} (h : nanB b = true) (c : Nat) : dbl.order b c = none := by
  unfold nanB at h
  show (rdF b).order (rdF c) = none
  rcases rdF_cases b with ⟨s, m, e, h1, _⟩ | ⟨s, h1⟩ | ⟨s, t, h1⟩
  · rw [h1] at h; simp [Ieee.Datum.isNaN] at h
  · rw [h1] at h; simp [Ieee.Datum.isNaN] at h
  · rw [h1]; simp [Ieee.Datum.order]
/-- whatever bits a NaN is given -/
theorem nan_cut (x y t : Nat) : nanB ((Question.nanBits .f64 x y).cut t) = true := by
  show nanB ((t % 2) * 2 ^ 63 + 0x7ff0000000000000 + 1 + (t / 2) % (2 ^ 52 - 1)) = true
  unfold nanB rdF Ieee.Format.read
  simp only
  have hb : dbl.binade = 4503599627370496 := by decide +kernel
  have hi : dbl.infRung = 9218868437227405312 := by decide +kernel
  have hs : dbl.signWeight = 9223372036854775808 := by decide +kernel
  rw [hb, hi, hs]
  have e : ((t % 2) * 2 ^ 63 + 0x7ff0000000000000 + 1 + (t / 2) % (2 ^ 52 - 1)) % 9223372036854775808 = 9218868437227405312 + 1 + (t / 2) % (2 ^ 52 - 1) := by omega
  rw [e]
  rw [if_neg (by omega), if_neg (by omega), if_neg (by omega)]
  rfl
theorem sub_self {b : Nat} (h : finB b = true) : dbl.sub b b = some 0 := by
  unfold finB at h
  show ((rdF b).sum (rdF b).opposite).map dbl.write = some 0
  rcases rdF_cases b with ⟨s, m, e, h1, _⟩ | ⟨s, h1⟩ | ⟨s, t, h1⟩
  · rw [h1]
    have : Ieee.signed s m (e - min e e).toNat + Ieee.signed (!s) m (e - min e e).toNat = 0 := by
      cases s <;> simp [Ieee.signed] <;> omega
    simp only [Ieee.Datum.opposite, Ieee.Datum.sum, this]
    cases s <;> simp [Ieee.Format.write, Ieee.Format.nearest, Ieee.Format.word]
  · rw [h1] at h; cases h
  · rw [h1] at h; cases h
theorem sub_self_no {b : Nat} (h : finB b = false) : dbl.sub b b = none := by
  unfold finB at h
  show ((rdF b).sum (rdF b).opposite).map dbl.write = none
  rcases rdF_cases b with ⟨s, m, e, h1, _⟩ | ⟨s, h1⟩ | ⟨s, t, h1⟩
  · rw [h1] at h; cases h
  · rw [h1]; cases s <;> simp [Ieee.Datum.opposite, Ieee.Datum.sum]
  · rw [h1]; simp [Ieee.Datum.opposite, Ieee.Datum.sum]
/-- a word whose rung is at most infinity's is no NaN; its sign -/
theorem word_read (s : Bool) (r : Nat) (h : r ≤ 9218868437227405312) : nanB (dbl.word s r) = false ∧ (rdF (dbl.word s r)).neg = s := by
  have hb : dbl.binade = 4503599627370496 := by decide +kernel
  have hi : dbl.infRung = 9218868437227405312 := by decide +kernel
  have hs : dbl.signWeight = 9223372036854775808 := by decide +kernel
  have e1 : dbl.word s r % 9223372036854775808 = r := by unfold Ieee.Format.word; rw [hs]; cases s <;> simp <;> omega
  have e2 : (dbl.word s r / 9223372036854775808 % 2 == 1) = s := by unfold Ieee.Format.word; rw [hs]; cases s <;> simp <;> omega
  unfold nanB rdF Ieee.Format.read
  simp only [hb, hi, hs, e1, e2]
  split
  · exact ⟨rfl, rfl⟩
  · split
    · exact ⟨rfl, rfl⟩
    · split
      · exact ⟨rfl, rfl⟩
      · omega
theorem write_read {d : Ieee.Datum} (h : d.isNaN = false) : nanB (dbl.write d) = false ∧ (rdF (dbl.write d)).neg = d.neg := by
  have hi : dbl.infRung = 9218868437227405312 := by decide +kernel
  cases d with
  | number s m e =>
    show nanB (dbl.nearest s m e) = false ∧ (rdF (dbl.nearest s m e)).neg = s
    unfold Ieee.Format.nearest
    split
    · exact word_read s 0 (by omega)
    · exact word_read s _ (by rw [hi]; omega)
  | infinity s => exact word_read s _ (by rw [hi]; omega)
  | nan s t => simp [Ieee.Datum.isNaN] at h
/-- no NaN, and not below 0 -/
def posB (b : Nat) : Prop := nanB b = false ∧ (rdF b).neg = false
theorem sq_pos {b : Nat} (h : finB b = true) : ∃ r, dbl.mul b b = some r ∧ posB r := by
  unfold finB at h
  rcases rdF_cases b with ⟨s, m, e, h1, _⟩ | ⟨s, h1⟩ | ⟨s, t, h1⟩
  · refine ⟨dbl.write (.number false (m * m) (e + e)), ?_, write_read rfl⟩
    show ((rdF b).product (rdF b)).map dbl.write = _
    rw [h1]
    simp [Ieee.Datum.product]
  · rw [h1] at h; cases h
  · rw [h1] at h; cases h
theorem add_pos {a b : Nat} (ha : posB a) (hb : posB b) : ∃ r, dbl.add a b = some r ∧ posB r := by
  obtain ⟨a1, a2⟩ := ha
  obtain ⟨b1, b2⟩ := hb
  unfold nanB at a1 b1
  show ∃ r, ((rdF a).sum (rdF b)).map dbl.write = some r ∧ posB r
  rcases rdF_cases a with ⟨s, m, e, h1, _⟩ | ⟨s, h1⟩ | ⟨s, t, h1⟩ <;> rcases rdF_cases b with ⟨s', m', e', h1', _⟩ | ⟨s', h1'⟩ | ⟨s', t', h1'⟩ <;> rw [h1] at a1 a2 <;> rw [h1'] at b1 b2 <;> rw [h1, h1'] <;> simp only [Ieee.Datum.neg, Ieee.Datum.isNaN] at a1 a2 b1 b2 <;> (try simp at a1) <;> (try simp at b1) <;> subst a2 <;> subst b2
  · refine ⟨_, rfl, ?_⟩
    have t0 : 0 ≤ Ieee.signed false m (e - min e e').toNat + Ieee.signed false m' (e' - min e e').toNat := by simp only [Ieee.signed]; exact Int.add_nonneg (Int.natCast_nonneg _) (Int.natCast_nonneg _)
    refine ⟨(write_read rfl).1, (write_read rfl).2.trans ?_⟩
    show (if _ then _ else _) = false
    split
    · rfl
    · exact decide_eq_false (by omega)
  · refine ⟨_, rfl, write_read rfl⟩
  · refine ⟨_, rfl, write_read rfl⟩
  · refine ⟨_, rfl, write_read rfl⟩
end Go.Proofs.YtgnnopjkbmbjbaaDoor
