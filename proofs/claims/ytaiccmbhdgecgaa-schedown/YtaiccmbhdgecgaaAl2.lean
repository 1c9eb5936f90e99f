/-
  All: the document's Next and CanAll.
-/
import Derived.Test.YtaiccmbhdgecgaaAl1
namespace Go.Proofs.Ytaiccmbhdgecgaa
open Go.RowKit
set_option maxRecDepth 100000
set_option linter.unusedVariables false
set_option linter.unusedSimpArgs false

def apN (a : Array Value) : Sem Value := Builtin.append_ #[22, 22] 22 a
theorem apN_op (a : Array Value) : Builtin.append_ #[22, 22] 22 a = apN a := rfl
attribute [local go_sem ↓] apN_op
theorem RI.src {w : World} {v : Value} {R : List Int} (h : RI w v R) : (v = .slice none 0 0 ∧ R = []) ∨ ∃ ad cp, v = .slice (some ad) R.length cp ∧ ∀ j u, (R.flatMap eN)[j]? = some u → w.cell? (ad.add j) = some u := by
  obtain ⟨ao, c, rfl, hc, hn, hr⟩ := h
  cases ao with
  | none =>
    have : c = 0 := hn rfl
    subst this
    have : R = [] := List.eq_nil_of_length_eq_zero (by omega)
    subst this
    exact .inl ⟨rfl, rfl⟩
  | some ad =>
    refine .inr ⟨ad, c, rfl, fun j u hj => ?_⟩
    rw [fl_ic] at hj
    have hjl : j < R.length := by have := (List.getElem?_eq_some_iff.1 hj).1; rwa [ic_len] at this
    obtain ⟨g, off, e, hcell⟩ := hr j hjl
    injection e with e
    subst e
    rw [ic_at R j hjl] at hj
    injection hj with hj
    subst hj
    rw [Addr.add_lit]
    exact hcell
/-- what Next answers to the n-th list -/
def NxA (b d n : Nat) (w : World) (e : Ending) (w' : World) : Prop := ∃ v ok, e = .returned (.tuple #[v, .bool ok]) ∧ ((n + 1 < b ^ d ∧ ok = true ∧ OwI w' w.heap.size v (dig b (n + 1) d)) ∨ (n + 1 = b ^ d ∧ ok = false ∧ v = .slice none 0 0)) ∧ Below w.heap.size w w'
theorem nx_more {b c i k n d : Nat} (hb : 1 ≤ b) (hd : d = i + 1 + k) (hn : n + 1 = (c + 1) * b ^ k) (hlt : n < b ^ d) (hr : c % b + 1 < b) : n + 1 < b ^ d ∧ dig b (n + 1) d = dig b (c / b) i ++ (((c % b : Nat) : Int) + 1) :: List.replicate k 0 := by
  subst hd
  refine ⟨?_, ?_⟩
  · rcases Nat.lt_or_ge (n + 1) (b ^ (i + 1 + k)) with h | h
    · exact h
    · exfalso
      have e : (c + 1) * b ^ k = b ^ (i + 1) * b ^ k := by rw [← hn, ← Nat.pow_add]; omega
      have e2 : c + 1 = b ^ (i + 1) := Nat.eq_of_mul_eq_mul_right (Nat.pow_pos (by omega)) e
      have e3 : (c + 1) % b = 0 := by rw [e2, Nat.pow_succ, Nat.mul_mod_left]
      have e4 : (c + 1) % b = c % b + 1 := by
        rw [Nat.add_mod, Nat.mod_eq_of_lt (a := c % b + 1 % b)]
        · rw [Nat.mod_eq_of_lt (a := 1) (by omega)]
        · rw [Nat.mod_eq_of_lt (a := 1) (by omega)]; exact hr
      omega
  · rw [hn, dig_zeros b hb (i + 1) k (c + 1), dig_up b c i hb hr, List.append_assoc]
    rfl
theorem nx_carry {b c k n : Nat} (hb : 1 ≤ b) (hn : n + 1 = (c + 1) * b ^ k) (hr : ¬ c % b + 1 < b) : n + 1 = (c / b + 1) * b ^ (k + 1) := by
  have h1 : c % b < b := Nat.mod_lt _ (by omega)
  have e : c + 1 = (c / b + 1) * b := by
    have := Nat.div_add_mod c b
    rw [Nat.add_mul, Nat.one_mul, Nat.mul_comm]
    omega
  rw [hn, e, Nat.mul_assoc, Nat.pow_succ, Nat.mul_comm b]
/-- All goes over something -/
def okA (h d : Int) : Bool := decide (1 ≤ h ∧ h ≤ 16 ∧ 0 ≤ d ∧ d ≤ 24 ∧ h.toNat ^ d.toNat ≤ 1048576)
theorem okA_nat (h d : Nat) (h1 : 1 ≤ h ∧ h ≤ 16) (h2 : d ≤ 24) : okA (h : Int) (d : Int) = decide (h ^ d ≤ 1048576) := by
  unfold okA
  simp only [Int.toNat_natCast]
  congr 1
  simp only [eq_iff_iff]
  constructor
  · exact fun x => x.2.2.2.2
  · exact fun x => ⟨by omega, by omega, by omega, by omega, x⟩
theorem pow_up {h i d : Nat} (h1 : 1 ≤ h) (hi : i ≤ d) : h ^ i ≤ h ^ d := Nat.pow_le_pow_right h1 hi
end Go.Proofs.Ytaiccmbhdgecgaa
