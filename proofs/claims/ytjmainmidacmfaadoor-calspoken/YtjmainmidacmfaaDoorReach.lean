/-
  How far a text stands as a shape begins: reach, and the document's agrees.
-/
import Derived.Test.YtjmainmidacmfaaDoorCfn
namespace Go.Proofs.YtjmainmidacmfaaDoor
open Go.RowKit
set_option maxRecDepth 100000

/-- is it a digit? -/
def isDB (c : UInt8) : Bool := decide (48 ≤ c.toNat) && decide (c.toNat ≤ 57)
/-- may the byte stand where the shape has s? -/
def fitB (c s : UInt8) : Bool := if s = 100 then isDB c else c == s
/-- how many bytes fit -/
def rl : List UInt8 → List UInt8 → Nat
  | c :: t, s :: u => if fitB c s then rl t u + 1 else 0
  | _, _ => 0

theorem rl_at (t s : List UInt8) (k : Nat) (h1 : k ≤ t.length) (h2 : k ≤ s.length) (h : ∀ j (_ : j < k) (a : j < t.length) (b : j < s.length), fitB t[j] s[j] = true)
    (hn : k = t.length ∨ k = s.length ∨ ∃ (a : k < t.length) (b : k < s.length), fitB t[k] s[k] = false) : rl t s = k := by
  induction k generalizing t s with
  | zero =>
    rcases hn with hn | hn | ⟨a, b, hn⟩
    · match t, hn with
      | [], _ => unfold rl; rfl
    · match s, hn with
      | [], _ => cases t <;> rfl
    · match t, s, a, b, hn with
      | c :: t, x :: s, _, _, hn =>
        have hn' : fitB c x = false := hn
        unfold rl
        rw [hn']
        rfl
  | succ k ih =>
    match t, s, h1, h2, h, hn with
    | c :: t, x :: s, h1, h2, h, hn =>
      have h0 : fitB c x = true := h 0 (by omega) (by simp) (by simp)
      unfold rl
      rw [h0, if_pos rfl, ih t s (by simpa using h1) (by simpa using h2) (fun j hj a b => by
        have := h (j + 1) (by omega) (by simpa using a) (by simpa using b)
        simpa using this) ?_]
      rcases hn with hn | hn | ⟨a, b, hn⟩
      · exact .inl (by simpa using hn)
      · exact .inr (.inl (by simpa using hn))
      · exact .inr (.inr ⟨by simpa using a, by simpa using b, by simpa using hn⟩)

theorem isDigit_any (c : UInt8) (w : World) :
    Calls Tryd.prog 53 #[.int .u8 (c.toNat : Int)] w fun e w' => e = .returned (.bool (isDB c)) ∧ w' = w := by
  unfold isDB
  by_cases h1 : 48 ≤ c.toNat <;> by_cases h2 : c.toNat ≤ 57
  all_goals
    have h3 : (c.toNat : Int) ≤ 57 ↔ c.toNat ≤ 57 := by omega
    go_enter Tryd.func53, Tryd.ntmps53
    go_wp2
    all_goals go_ret
    all_goals exact ⟨ret_bool (by simp [h1, h2]), rfl⟩

theorem byte_at (s : ByteArray) (k : Nat) (h : k < s.size) : s.data.toList[k]'(by rw [Array.length_toList]; exact h) = s[k] := by
  rw [Array.getElem_toList]; rfl

end Go.Proofs.YtjmainmidacmfaaDoor
