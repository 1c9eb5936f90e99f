/-
  Digits and the numbers that they spell; shapes; parts: lists alone.
-/
import Derived.Test.YtjmainmidacmfaaDoorReach
import Derived.Lib.Atoi
namespace Go.Proofs.YtjmainmidacmfaaDoor

/-- the number that digits spell -/
def nmA : Nat → List UInt8 → Nat
  | a, [] => a
  | a, c :: r => nmA (a * 10 + (c.toNat - 48)) r
def nm (l : List UInt8) : Nat := nmA 0 l

theorem isDB_in {c : UInt8} (h : isDB c = true) : 48 ≤ c.toNat ∧ c.toNat ≤ 57 := by
  unfold isDB at h
  simpa using h

theorem dec_digits : ∀ (l : List UInt8) (a : Nat), (∀ c ∈ l, isDB c = true) → Lib.decFrom a l = some (nmA a l)
  | [], a, _ => rfl
  | c :: r, a, h => by
    have hc := isDB_in (h c (by simp))
    unfold Lib.decFrom nmA
    have hd : Lib.digitVal c = some (c.toNat - 48) := by unfold Lib.digitVal; rw [if_pos hc]
    rw [hd]
    exact dec_digits r _ (fun x hx => h x (by simp [hx]))

theorem atoi_digits (l : List UInt8) (hl : l ≠ []) (h : ∀ c ∈ l, isDB c = true) : Lib.atoi l = some (nm l : Int) := by
  match l, hl with
  | c :: r, _ =>
    have hc := isDB_in (h c (by simp))
    have h1 : (c == 45) = false := by rw [beq_eq_false_iff_ne]; intro e; subst e; revert hc; decide
    have h2 : (c == 43) = false := by rw [beq_eq_false_iff_ne]; intro e; subst e; revert hc; decide
    have hd := dec_digits (c :: r) 0 h
    simp only [Lib.atoi, h1, h2, Bool.false_eq_true, if_false, Lib.decNat, List.isEmpty_cons, hd, Option.map_some]
    rfl

theorem nmA_lt : ∀ (l : List UInt8) (a : Nat), (∀ c ∈ l, isDB c = true) → nmA a l < (a + 1) * 10 ^ l.length
  | [], a, _ => by show a < (a + 1) * 1; omega
  | c :: r, a, h => by
    have hc := isDB_in (h c (by simp))
    have ih := nmA_lt r (a * 10 + (c.toNat - 48)) (fun x hx => h x (by simp [hx]))
    unfold nmA
    refine Nat.lt_of_lt_of_le ih ?_
    rw [List.length_cons, Nat.pow_succ, Nat.mul_comm (10 ^ r.length) 10, ← Nat.mul_assoc]
    exact Nat.mul_le_mul_right _ (by omega)
theorem nm_lt (l : List UInt8) (h : ∀ c ∈ l, isDB c = true) : nm l < 10 ^ l.length := by
  have := nmA_lt l 0 h
  simpa [nm] using this

theorem nmA_snoc : ∀ (l : List UInt8) (a : Nat) (c : UInt8), nmA a (l ++ [c]) = nmA a l * 10 + (c.toNat - 48)
  | [], _, _ => rfl
  | x :: r, a, c => by unfold nmA; rw [← nmA_snoc r]; rfl

/-- a piece of a text -/
def sub (t : List UInt8) (a k : Nat) : List UInt8 := (t.drop a).take k
theorem sub_len (t : List UInt8) (a k : Nat) (h : a + k ≤ t.length) : (sub t a k).length = k := by
  unfold sub; rw [List.length_take, List.length_drop]; omega
theorem sub_succ (t : List UInt8) (a k : Nat) (h : a + k < t.length) : sub t a (k + 1) = sub t a k ++ [t[a + k]] := by
  unfold sub
  rw [List.take_add_one, List.getElem?_drop, List.getElem?_eq_getElem h]
  rfl
theorem sub_mem (t : List UInt8) (a k : Nat) (c : UInt8) (h : c ∈ sub t a k) : ∃ j, ∃ (hj : j < t.length), a ≤ j ∧ j < a + k ∧ t[j] = c := by
  unfold sub at h
  obtain ⟨i, hi, he⟩ := List.getElem_of_mem h
  rw [List.length_take, List.length_drop] at hi
  refine ⟨a + i, by omega, by omega, by omega, ?_⟩
  rw [← he, List.getElem_take, List.getElem_drop]

/-- all bytes fit -/
theorem rl_all : ∀ (t s : List UInt8), t.length = s.length → rl t s = t.length → ∀ j (a : j < t.length) (b : j < s.length), fitB t[j] s[j] = true
  | [], s, _, _, j, a, _ => by simp at a
  | c :: t, [], hl, _, _, _, _ => by simp at hl
  | c :: t, x :: s, hl, hr, j, a, b => by
    unfold rl at hr
    by_cases hf : fitB c x = true
    · rw [if_pos hf] at hr
      match j with
      | 0 => exact hf
      | j + 1 => exact rl_all t s (by simpa using hl) (by simpa using hr) j (by simpa using a) (by simpa using b)
    · rw [if_neg hf] at hr; simp at hr
theorem rl_le : ∀ (t s : List UInt8), rl t s ≤ t.length ∧ rl t s ≤ s.length
  | [], s => by unfold rl; simp
  | c :: t, [] => by unfold rl; simp
  | c :: t, x :: s => by
    unfold rl
    have := rl_le t s
    by_cases hf : fitB c x = true
    · rw [if_pos hf]; simp; omega
    · rw [if_neg hf]; simp

/-- which shape a text has; or how far it goes -/
def fitL (t : List UInt8) : List (List UInt8) → Nat → Nat → Int × Nat
  | [], _, p => (-1, p)
  | s :: r, i, p => if rl t s = t.length ∧ rl t s = s.length then ((i : Int), 0) else fitL t r (i + 1) (max p (rl t s))

theorem fitL_le (t : List UInt8) : ∀ (r : List (List UInt8)) (i p : Nat), p ≤ t.length → (fitL t r i p).2 ≤ t.length
  | [], _, _, h => h
  | s :: r, i, p, h => by
    unfold fitL
    split
    · simp
    · exact fitL_le t r _ _ (by have := rl_le t s; omega)

theorem fitL_hit (t : List UInt8) : ∀ (r : List (List UInt8)) (i p : Nat), ((fitL t r i p).1 = -1) ∨ ∃ k, ∃ (hk : k < r.length), (fitL t r i p) = (((i + k : Nat) : Int), 0) ∧ rl t r[k] = t.length ∧ rl t r[k] = r[k].length
  | [], _, _ => .inl rfl
  | s :: r, i, p => by
    unfold fitL
    split
    · rename_i h
      exact .inr ⟨0, by simp, by simp, h.1, h.2⟩
    · rcases fitL_hit t r (i + 1) (max p (rl t s)) with h | ⟨k, hk, h, h1, h2⟩
      · exact .inl h
      · exact .inr ⟨k + 1, by simpa using hk, by rw [h]; simp; omega, by simpa using h1, by simpa using h2⟩

/-- the next digit's place from a place on; the length, if there is none -/
def skA : List UInt8 → Nat
  | [] => 0
  | c :: r => if isDB c then 0 else skA r + 1
def sk (t : List UInt8) (a : Nat) : Nat := a + skA (t.drop a)
theorem sk_end (t : List UInt8) (a : Nat) (h : t.length ≤ a) : sk t a = a := by unfold sk; rw [List.drop_eq_nil_of_le h]; rfl
theorem sk_hit (t : List UInt8) (a : Nat) (h : a < t.length) (hd : isDB t[a] = true) : sk t a = a := by
  unfold sk; rw [List.drop_eq_getElem_cons h]; show a + (if isDB t[a] then 0 else skA (t.drop (a + 1)) + 1) = a; rw [if_pos hd]; rfl
theorem sk_miss (t : List UInt8) (a : Nat) (h : a < t.length) (hd : isDB t[a] = false) : sk t a = sk t (a + 1) := by
  unfold sk; rw [List.drop_eq_getElem_cons h]; show a + (if isDB t[a] then 0 else skA (t.drop (a + 1)) + 1) = _; rw [if_neg (by simp [hd])]; omega

/-- the parts of a text asked in turn: where the first one stands that may not be, or -1; and how many were asked -/
def rf (t : List UInt8) : Nat → List (Nat × (Nat → Bool)) → Int × Nat
  | _, [] => (-1, 0)
  | a, (d, f) :: r => if sk t a = t.length then (-1, 0) else if f (nm (sub t (sk t a) d)) then ((rf t (sk t a + d) r).1, (rf t (sk t a + d) r).2 + 1) else (((sk t a : Nat) : Int), 1)
/-- each part has its digits -/
def OkP (t : List UInt8) : Nat → List Nat → Prop
  | _, [] => True
  | a, d :: r => sk t a = t.length ∨ (sk t a + d ≤ t.length ∧ 1 ≤ d ∧ d ≤ 9 ∧ (∀ c ∈ sub t (sk t a) d, isDB c = true) ∧ OkP t (sk t a + d) r)

theorem skA_le : ∀ l : List UInt8, skA l ≤ l.length
  | [] => Nat.le_refl _
  | c :: r => by
    show (if isDB c then 0 else skA r + 1) ≤ r.length + 1
    have := skA_le r
    split <;> omega
theorem sk_le (t : List UInt8) (a : Nat) (h : a ≤ t.length) : a ≤ sk t a ∧ sk t a ≤ t.length := by
  unfold sk
  have := skA_le (t.drop a)
  rw [List.length_drop] at this
  omega
end Go.Proofs.YtjmainmidacmfaaDoor
