/-
  Counts of days by a rule of the week, and with some days changed: the plain mathematics.
-/
import Derived.Test.YtipgmiblphfboaaDoorSh9
namespace Go.Proofs.YtipgmiblphfboaaDoor
set_option maxRecDepth 100000

/-- how many of the k days from a on -/
def cI (f : Int → Bool) (a : Int) : Nat → Int
  | 0 => 0
  | k + 1 => cI f a k + (if f (a + k) then 1 else 0)
theorem cI_add (f : Int → Bool) (a : Int) (k j : Nat) : cI f a (k + j) = cI f a k + cI f (a + k) j := by
  induction j with
  | zero => simp [cI]
  | succ j ih =>
    rw [← Nat.add_assoc, cI, ih, cI, show a + ((k + j : Nat) : Int) = a + k + j by omega]
    omega
theorem cI_congr {f g : Int → Bool} {a : Int} {k : Nat} (h : ∀ i : Nat, i < k → f (a + i) = g (a + i)) : cI f a k = cI g a k := by
  induction k with
  | zero => rfl
  | succ k ih => rw [cI, cI, ih (fun i hi => h i (by omega)), h k (by omega)]
/-- a rule of the week counts alike from every day on -/
theorem cI_week (wk : Nat → Bool) (a : Int) : cI (fun i => wk (wd i).toNat) a 7 = cI (fun i => wk (wd i).toNat) 2 7 := by
  have h : ∀ x : Int, (wd x).toNat = ((x + 5) % 7).toNat := fun x => rfl
  have e : (wd a).toNat = 0 ∨ (wd a).toNat = 1 ∨ (wd a).toNat = 2 ∨ (wd a).toNat = 3 ∨ (wd a).toNat = 4 ∨ (wd a).toNat = 5 ∨ (wd a).toNat = 6 := by have := wd_lt a; omega
  simp only [cI]
  have g : ∀ (x : Int) (j : Nat), (wd x).toNat = j → ∀ i : Nat, (wd (x + i)).toNat = (j + i) % 7 := by
    intro x j hj i
    unfold wd at *
    omega
  have g2 := g 2 0 (by decide)
  rcases e with e | e | e | e | e | e | e
  all_goals
    have g1 := g a _ e
    simp only [g1, g2]
    try simp
    try omega
theorem cI_weeks (wk : Nat → Bool) (a : Int) (k : Nat) : cI (fun i => wk (wd i).toNat) a (7 * k) = k * cI (fun i => wk (wd i).toNat) 2 7 := by
  induction k with
  | zero => simp [cI]
  | succ k ih =>
    rw [show 7 * (k + 1) = 7 * k + 7 by omega, cI_add, ih, cI_week wk (a + ((7 * k : Nat) : Int)), Int.natCast_add k 1, Int.add_mul]
    omega
/-- one day changed -/
theorem cI_upd (f : Int → Bool) (a s : Int) (v : Bool) (k : Nat) : cI (fun i => if i = s then v else f i) a k = cI f a k + (if a ≤ s ∧ s < a + k then (if v then 1 else 0) - (if f s then 1 else 0) else 0) := by
  induction k with
  | zero => simp [cI]; omega
  | succ k ih =>
    rw [cI, ih, cI]
    by_cases e : a + (k : Int) = s
    · have l2 : a ≤ s ∧ s < a + ((k + 1 : Nat) : Int) := by omega
      simp only [if_pos l2, e, if_true]
      omega
    · simp only [if_neg e]
      by_cases h : a ≤ s ∧ s < a + (k : Int)
      · have l2 : a ≤ s ∧ s < a + ((k + 1 : Nat) : Int) := by omega
        simp only [if_pos h, if_pos l2]
        omega
      · have l2 : ¬ (a ≤ s ∧ s < a + ((k + 1 : Nat) : Int)) := by omega
        simp only [if_neg h, if_neg l2]
        omega
/-- a list of days changed to v -/
def chg (f : Int → Bool) (v : Bool) (S : List Int) (i : Int) : Bool := if i ∈ S then v else f i
def cL (f : Int → Bool) (v : Bool) (a : Int) (k : Nat) : List Int → Int
  | [] => 0
  | s :: S => (if a ≤ s ∧ s < a + k then (if v then 1 else 0) - (if f s then 1 else 0) else 0) + cL f v a k S
theorem cL_snoc (f : Int → Bool) (v : Bool) (a : Int) (k : Nat) (S : List Int) (s : Int) : cL f v a k (S ++ [s]) = cL f v a k S + (if a ≤ s ∧ s < a + k then (if v then 1 else 0) - (if f s then 1 else 0) else 0) := by
  induction S with
  | nil => simp [cL]
  | cons x t ih => simp only [List.cons_append, cL, ih]; omega
theorem cI_chg (f : Int → Bool) (v : Bool) (a : Int) (k : Nat) : ∀ S : List Int, Up S → cI (chg f v S) a k = cI f a k + cL f v a k S
  | [], _ => by simp [cL]; exact cI_congr (fun i _ => by simp [chg])
  | s :: S, h => by
    have h' := List.pairwise_cons.1 h
    have hs : s ∉ S := fun hm => by have := h'.1 s hm; omega
    have e : cI (chg f v (s :: S)) a k = cI (fun i => if i = s then v else chg f v S i) a k := cI_congr (fun i _ => by
      unfold chg
      by_cases e1 : a + (i : Int) = s
      · simp [e1]
      · simp [e1])
    rw [e, cI_upd, cI_chg f v a k S h'.2, cL]
    have hc : chg f v S s = f s := by unfold chg; rw [if_neg hs]
    rw [hc]
    omega
end Go.Proofs.YtipgmiblphfboaaDoor
