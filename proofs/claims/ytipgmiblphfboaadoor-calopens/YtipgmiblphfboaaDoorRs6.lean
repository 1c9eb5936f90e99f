/-
  Counts of open days: the document's sum.
-/
import Derived.Test.YtipgmiblphfboaaDoorRs5
import Derived.Test.YtipgmiblphfboaaDoorRs4
import Derived.Test.YtipgmiblphfboaaDoorShc
namespace Go.Proofs.YtipgmiblphfboaaDoor
set_option maxRecDepth 100000

theorem cI_filter (f : Int → Bool) (a : Int) (k : Nat) : ((((List.range k).filter fun i : Nat => f (a + i)).length : Nat) : Int) = cI f a k := by
  induction k with
  | zero => rfl
  | succ k ih =>
    rw [List.range_succ, List.filter_append, List.length_append, Int.natCast_add, ih, cI]
    cases h : f (a + (k : Int)) <;> simp [h]
theorem cL_congr {f g : Int → Bool} {v : Bool} {a : Int} {k : Nat} : ∀ {S : List Int}, (∀ s ∈ S, f s = g s) → cL f v a k S = cL g v a k S
  | [], _ => rfl
  | s :: S, h => by rw [cL, cL, h s (by simp), cL_congr (S := S) (fun x hx => h x (by simp [hx]))]
theorem cntO_sum {wk : Nat → Bool} {D E : List (Int × Int × Int)} {A : List (Int × Bool)} (hA : rlA D E = some A) (a b : Int) :
    (cntO wk A a b : Int) = cI (fun i => wk (wd i).toNat) a (b - a).toNat + cL (fun i => wk (wd i).toNat) false a (b - a).toNat (D.map nbT) + cL (fun i => wk (wd i).toNat) true a (b - a).toNat (E.map nbT) := by
  obtain ⟨⟨r1, r2⟩, h3⟩ := rlA_some hA
  have u1 := r1.2.up
  have u2 := r2.2.up
  have hb : ∀ s ∈ E.map nbT, s ∉ D.map nbT := by
    intro s hs hd
    have m := mrg_up _ _ _ h3 u1 u2
    have m1 : (s, true) ∈ A := (mrg_mem _ _ _ h3 _).2 (Or.inr ⟨rfl, hs⟩)
    have m2 : (s, false) ∈ A := (mrg_mem _ _ _ h3 _).2 (Or.inl ⟨rfl, hd⟩)
    obtain ⟨i, hi, ei⟩ := List.getElem_of_mem m1
    obtain ⟨j, hj, ej⟩ := List.getElem_of_mem m2
    have hp := List.pairwise_iff_getElem.1 m
    rcases Nat.lt_trichotomy i j with l | l | l
    · have := hp i j hi hj l
      rw [ei, ej] at this
      exact absurd this (Int.lt_irrefl _)
    · subst l
      rw [ei] at ej
      cases ej
    · have := hp j i hj hi l
      rw [ei, ej] at this
      exact absurd this (Int.lt_irrefl _)
  have e : (fun n => isOp wk A n) = chg (chg (fun i => wk (wd i).toNat) false (D.map nbT)) true (E.map nbT) := by
    funext n
    unfold isOp chg
    have e1 : (n, true) ∈ A ↔ n ∈ E.map nbT := by rw [mrg_mem _ _ _ h3]; simp
    have e2 : (n, false) ∈ A ↔ n ∈ D.map nbT := by rw [mrg_mem _ _ _ h3]; simp
    simp only [e1, e2]
  unfold cntO
  rw [cI_filter (fun n => isOp wk A n), e, cI_chg _ _ _ _ _ u2, cI_chg _ _ _ _ _ u1]
  congr 1
  exact cL_congr (fun s hs => by unfold chg; rw [if_neg (hb s hs)])
/-- by weeks -/
theorem cI_split (wk : Nat → Bool) (a : Int) (k : Nat) : cI (fun i => wk (wd i).toNat) a k = ((k / 7 : Nat) : Int) * cI (fun i => wk (wd i).toNat) 2 7 + cI (fun i => wk (wd i).toNat) (a + 7 * ((k / 7 : Nat) : Int)) (k % 7) := by
  have e : k = 7 * (k / 7) + k % 7 := by omega
  rw [show cI (fun i => wk (wd i).toNat) a k = cI (fun i => wk (wd i).toNat) a (7 * (k / 7) + k % 7) by rw [← e], cI_add, cI_weeks]
  congr 2
end Go.Proofs.YtipgmiblphfboaaDoor
