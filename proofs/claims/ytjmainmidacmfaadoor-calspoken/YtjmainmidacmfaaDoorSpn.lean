/-
  A span's text read: lists alone.
-/
import Derived.Test.YtjmainmidacmfaaDoorDgs
import Derived.Lib.Bytealg
namespace Go.Proofs.YtjmainmidacmfaaDoor

/-- how many digits stand ahead, counting no more than k -/
def dga : List UInt8 → Nat → Nat
  | c :: r, k + 1 => if isDB c then dga r k + 1 else 0
  | _, _ => 0
theorem dga_le : ∀ (l : List UInt8) (k : Nat), dga l k ≤ k ∧ dga l k ≤ l.length
  | [], k => by unfold dga; simp
  | c :: r, 0 => by unfold dga; simp
  | c :: r, k + 1 => by
    have := dga_le r k
    show (if isDB c then dga r k + 1 else 0) ≤ k + 1 ∧ (if isDB c then dga r k + 1 else 0) ≤ r.length + 1
    split <;> omega
theorem dga_at : ∀ (l : List UInt8) (m n : Nat), n ≤ m → n ≤ l.length → (∀ j (_ : j < n) (h : j < l.length), isDB l[j] = true) → (n = m ∨ n = l.length ∨ ∃ h : n < l.length, isDB l[n] = false) → dga l m = n
  | [], m, n, _, h2, _, _ => by have : n = 0 := by simpa using h2
                                subst this; unfold dga; rfl
  | c :: r, 0, n, h1, _, _, _ => by have : n = 0 := by omega
                                    subst this; unfold dga; rfl
  | c :: r, m + 1, 0, _, _, _, h4 => by
    rcases h4 with h | h | ⟨h, hd⟩
    · omega
    · simp at h
    · show (if isDB c then dga r m + 1 else 0) = 0
      have hc : isDB c = false := hd
      rw [hc]; rfl
  | c :: r, m + 1, n + 1, h1, h2, h3, h4 => by
    show (if isDB c then dga r m + 1 else 0) = n + 1
    have hc : isDB c = true := h3 0 (by omega) (by simp)
    rw [hc, if_pos rfl, dga_at r m n (by omega) (by simpa using h2) (fun j hj h => by have := h3 (j + 1) (by omega) (by simpa using h); simpa using this) ?_]
    rcases h4 with h | h | ⟨h, hd⟩
    · exact .inl (by omega)
    · exact .inr (.inl (by simpa using h))
    · exact .inr (.inr ⟨by simpa using h, by simpa using hd⟩)
theorem dga_dig : ∀ (l : List UInt8) (k : Nat), ∀ c ∈ l.take (dga l k), isDB c = true
  | [], k, c, h => by simp at h
  | x :: r, 0, c, h => by
    have e : dga (x :: r) 0 = 0 := by unfold dga; rfl
    rw [e] at h; simp at h
  | x :: r, k + 1, c, h => by
    have e : dga (x :: r) (k + 1) = (if isDB x then dga r k + 1 else 0) := rfl
    rw [e] at h
    by_cases hx : isDB x = true
    · rw [if_pos hx, List.take_succ_cons] at h
      rcases List.mem_cons.1 h with rfl | h
      · exact hx
      · exact dga_dig r k c h
    · rw [if_neg hx] at h; simp at h

/-- the letters behind a span's numbers, and the place of each one's number in a span -/
def mrk : List UInt8 := [87, 89, 77, 68, 72, 77, 83]
def fld (j : Nat) : Nat := [2, 0, 1, 3, 4, 5, 6].getD j 0
def zs7 : List Int := [0, 0, 0, 0, 0, 0, 0]
def bt (t : List UInt8) (a : Nat) : UInt8 := t.getD a 0
/-- the place of a letter among those that may stand -/
def slt (nx en : Nat) (c : UInt8) : Int := Lib.indexByte ((mrk.drop nx).take (en - nx)) c

def spF (t : List UInt8) : Nat → Nat → Nat → Nat → List Int → List Int × Nat
  | 0, a, _, _, s => (s, a)
  | f + 1, a, nx, en, s =>
    if a < t.length then
      if bt t a = 84 ∧ en = 4 then spF t f (a + 1) 4 7 s
      else if nx = en then (s, a)
      else if dga (t.drop a) 9 = 0 ∨ a + dga (t.drop a) 9 = t.length then (s, a + dga (t.drop a) 9)
      else if slt nx en (bt t (a + dga (t.drop a) 9)) < 0 then (s, a + dga (t.drop a) 9)
      else spF t f (a + dga (t.drop a) 9 + 1) (if bt t (a + dga (t.drop a) 9) = 87 then 7 else nx + (slt nx en (bt t (a + dga (t.drop a) 9))).toNat + 1) (if bt t (a + dga (t.drop a) 9) = 87 then 7 else en)
        (s.set (fld (nx + (slt nx en (bt t (a + dga (t.drop a) 9))).toNat)) (nm (sub t a (dga (t.drop a) 9)) : Int))
    else (s, a)

section
variable {t : List UInt8} {f a nx en : Nat} {s : List Int}
theorem spF_end (h : ¬ a < t.length) : spF t f a nx en s = (s, a) := by
  cases f
  · rfl
  · show (if a < t.length then _ else _) = _; rw [if_neg h]
theorem spF_T (h : a < t.length) (h1 : bt t a = 84 ∧ en = 4) : spF t (f + 1) a nx en s = spF t f (a + 1) 4 7 s := by
  show (if a < t.length then (if bt t a = 84 ∧ en = 4 then _ else _) else _) = _; rw [if_pos h, if_pos h1]
theorem spF_full (h : a < t.length) (h1 : ¬ (bt t a = 84 ∧ en = 4)) (h2 : nx = en) : spF t (f + 1) a nx en s = (s, a) := by
  show (if a < t.length then (if bt t a = 84 ∧ en = 4 then _ else if nx = en then _ else _) else _) = _; rw [if_pos h, if_neg h1, if_pos h2]
theorem spF_num (h : a < t.length) (h1 : ¬ (bt t a = 84 ∧ en = 4)) (h2 : nx ≠ en) (h3 : dga (t.drop a) 9 = 0 ∨ a + dga (t.drop a) 9 = t.length) : spF t (f + 1) a nx en s = (s, a + dga (t.drop a) 9) := by
  show (if a < t.length then (if bt t a = 84 ∧ en = 4 then _ else if nx = en then _ else if _ then _ else _) else _) = _; rw [if_pos h, if_neg h1, if_neg h2, if_pos h3]
theorem spF_bad (h : a < t.length) (h1 : ¬ (bt t a = 84 ∧ en = 4)) (h2 : nx ≠ en) (h3 : ¬ (dga (t.drop a) 9 = 0 ∨ a + dga (t.drop a) 9 = t.length)) (h4 : slt nx en (bt t (a + dga (t.drop a) 9)) < 0) : spF t (f + 1) a nx en s = (s, a + dga (t.drop a) 9) := by
  show (if a < t.length then (if bt t a = 84 ∧ en = 4 then _ else if nx = en then _ else if _ then _ else if _ then _ else _) else _) = _; rw [if_pos h, if_neg h1, if_neg h2, if_neg h3, if_pos h4]
theorem spF_go (h : a < t.length) (h1 : ¬ (bt t a = 84 ∧ en = 4)) (h2 : nx ≠ en) (h3 : ¬ (dga (t.drop a) 9 = 0 ∨ a + dga (t.drop a) 9 = t.length)) (h4 : ¬ slt nx en (bt t (a + dga (t.drop a) 9)) < 0) :
    spF t (f + 1) a nx en s = spF t f (a + dga (t.drop a) 9 + 1) (if bt t (a + dga (t.drop a) 9) = 87 then 7 else nx + (slt nx en (bt t (a + dga (t.drop a) 9))).toNat + 1) (if bt t (a + dga (t.drop a) 9) = 87 then 7 else en)
        (s.set (fld (nx + (slt nx en (bt t (a + dga (t.drop a) 9))).toNat)) (nm (sub t a (dga (t.drop a) 9)) : Int)) := by
  show (if a < t.length then (if bt t a = 84 ∧ en = 4 then _ else if nx = en then _ else if _ then _ else if _ then _ else _) else _) = _; rw [if_pos h, if_neg h1, if_neg h2, if_neg h3, if_neg h4]
end

/-- the whole text -/
def spR (t : List UInt8) : List Int × Nat := if bt t 0 = 80 ∧ 0 < t.length then spF t 64 1 0 4 zs7 else (zs7, 0)
/-- is it a span's text? -/
def spOk (t : List UInt8) : Bool := decide ((spR t).2 = t.length ∧ 0 < t.length) && decide (bt t (t.length - 1) ∈ mrk)

theorem slt_lt (nx en : Nat) (c : UInt8) : slt nx en c < (en - nx : Nat) := by
  unfold slt
  have h : ∀ l : List UInt8, Lib.indexByte l c < l.length ∨ l = [] := by
    intro l
    induction l with
    | nil => exact .inr rfl
    | cons b l ih =>
      refine .inl ?_
      show (if b == c then (0 : Int) else if Lib.indexByte l c == -1 then -1 else Lib.indexByte l c + 1) < _
      have hl : ((b :: l).length : Int) = (l.length : Int) + 1 := by simp
      rw [hl]
      split
      · omega
      · split
        · omega
        · rcases ih with h | h
          · omega
          · subst h; simp [Lib.indexByte] at *
  rcases h ((mrk.drop nx).take (en - nx)) with h | h
  · have : ((mrk.drop nx).take (en - nx)).length ≤ en - nx := by rw [List.length_take]; omega
    omega
  · rw [h]; simp [Lib.indexByte]; omega
end Go.Proofs.YtjmainmidacmfaaDoor
