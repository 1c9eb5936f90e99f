/-
  Few: the mixes with few switches, as it searches them (pure).
-/
import Derived.Test.YtaiccmbhdgecgaaRk5
namespace Go.Proofs.Ytaiccmbhdgecgaa
set_option maxRecDepth 100000

/-- what is spared behind a pick of h -/
def spr (N : List Nat) (last sp : Int) (h : Nat) : Int := if asd (iN N) last h then sp - 1 else sp
/-- may h be picked -/
def may (N : List Nat) (last sp : Int) (h : Nat) : Bool := !decide (N.getD h 0 = 0) && !decide (spr N last sp h < 0)
/-- the mixes of what is left, behind a pick of last, with at most sp switches; s: how many steps are left -/
def FL : Nat → List Nat → Int → Int → List (List Nat)
  | 0, _, _, _ => [[]]
  | s + 1, N, last, sp => (List.range N.length).flatMap fun h => if may N last sp h then (FL s (less N h) (h : Int) (spr N last sp h)).map (h :: ·) else []
/-- those that begin with one of the first handlers -/
def FP (s : Nat) (N : List Nat) (last sp : Int) (h : Nat) : List (List Nat) := (List.range h).flatMap fun h => if may N last sp h then (FL s (less N h) (h : Int) (spr N last sp h)).map (h :: ·) else []
theorem FP_zero (s : Nat) (N : List Nat) (last sp : Int) : FP s N last sp 0 = [] := rfl
theorem FP_up (s : Nat) (N : List Nat) (last sp : Int) (h : Nat) : FP s N last sp (h + 1) = FP s N last sp h ++ (if may N last sp h then (FL s (less N h) (h : Int) (spr N last sp h)).map (h :: ·) else []) := by
  unfold FP
  rw [List.range_succ, List.flatMap_append]
  simp
theorem FP_all (s : Nat) (N : List Nat) (last sp : Int) : FP s N last sp N.length = FL (s + 1) N last sp := rfl
theorem FP_skip (s : Nat) (N : List Nat) (last sp : Int) (h : Nat) (hm : may N last sp h = false) : FP s N last sp (h + 1) = FP s N last sp h := by
  rw [FP_up, hm]
  simp
theorem FP_go (s : Nat) (N : List Nat) (last sp : Int) (h : Nat) (hm : may N last sp h = true) : FP s N last sp (h + 1) = FP s N last sp h ++ (FL s (less N h) (h : Int) (spr N last sp h)).map (h :: ·) := by
  rw [FP_up, hm]
  simp
/-- the first ones are a beginning of them all -/
theorem FP_pre (s : Nat) (N : List Nat) (last sp : Int) : ∀ {i j : Nat}, i ≤ j → ∃ T, FP s N last sp j = FP s N last sp i ++ T := by
  intro i j h
  induction h with
  | refl => exact ⟨[], by simp⟩
  | step _ ih =>
    obtain ⟨T, hT⟩ := ih
    exact ⟨_, by rw [FP_up, hT, List.append_assoc]⟩
/-- a list stands in another from a place on, each behind P -/
def Stnd (G : List (List Nat)) (k : Nat) (P : List Nat) (F : List (List Nat)) : Prop := ∀ i x, F[i]? = some x → G[k + i]? = some (P ++ x)
end Go.Proofs.Ytaiccmbhdgecgaa
