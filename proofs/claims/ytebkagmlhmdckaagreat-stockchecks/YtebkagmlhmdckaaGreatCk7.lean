/-
  stock: lines sorted by their codes: what compares them, and the shelf's contract of slices.SortFunc. (Srt is mksort.sh's text, Shelf mkshelf.sh's.)
-/
import Derived.Test.YtebkagmlhmdckaaGreatCk1
import Derived.Test.YtebkagmlhmdckaaGreatShelf
import Derived.Test.YtebkagmlhmdckaaGreatSrt
namespace Go.Proofs.YtebkagmlhmdckaaGreat
open Go.Shelf Go.RowKit Go.Lib Go.Sort
set_option maxRecDepth 100000

theorem cmp_lt : ∀ a b : List UInt8, decide (Lib.compareBytes a b < 0) = decide (a < b)
  | [], [] => by simp [Lib.compareBytes]
  | [], _ :: _ => by simp [Lib.compareBytes]
  | _ :: _, [] => by simp [Lib.compareBytes]
  | a :: s, b :: t => by
    unfold Lib.compareBytes
    have ih := cmp_lt s t
    by_cases h1 : a < b
    · rw [if_pos h1]
      have : a :: s < b :: t := List.cons_lt_cons_iff.2 (.inl h1)
      simp [this]
    · rw [if_neg h1]
      by_cases h2 : b < a
      · rw [if_pos h2]
        have : ¬ a :: s < b :: t := fun h => by
          rcases List.cons_lt_cons_iff.1 h with h | ⟨h, _⟩
          · exact h1 h
          · subst h; exact h1 h2
        simp [this]
      · rw [if_neg h2, ih]
        have e : a = b := UInt8.le_antisymm (UInt8.not_lt.1 h2) (UInt8.not_lt.1 h1)
        subst e
        have : (a :: s < a :: t) ↔ s < t := by
          rw [List.cons_lt_cons_iff]
          exact ⟨fun h => h.elim (fun h => absurd h h1) (·.2), fun h => .inr ⟨rfl, h⟩⟩
        simp [this]
/-- two lines compared by their codes -/
def cfL (x y : Ln) : Int := Lib.compareBytes (ky x) (ky y)
theorem ltL (x y : Ln) : ltOf cfL x y = decide (ky x < ky y) := cmp_lt _ _
theorem swoL : SWO (ltOf cfL) where
  irrefl x := by rw [ltL]; simp
  trans x y z h1 h2 := by
    rw [ltL] at *
    simp only [decide_eq_true_eq] at *
    exact lt_tr h1 h2
  ntrans x y z h1 h2 := by
    rw [ltL] at *
    simp only [decide_eq_false_iff_not] at *
    intro h
    by_cases e : ky y = ky z
    · rw [← e] at h
      exact h1 h
    · have h3 := lt_or h2 e
      exact h1 (lt_tr h h3)
/-- a line's two cells -/
def encL (x : Ln) : List Value := [.string x.1, .int .i64 x.2]
set_option maxHeartbeats 1000000 in
theorem cmpL_any (x y : Ln) (W : World) : Calls Tryz.prog 43 #[.agg #[.string x.1, .int .i64 x.2], .agg #[.string y.1, .int .i64 y.2]] W fun e w' => e = .returned (.int .i64 (cfL x y)) ∧ ∃ q os', w' = grow (W.drewN q) os' := by
  have hcon := fun W' => Tryz.strings_Compare x.1 y.1 W'
  unfold cfL ky
  generalize Lib.compareBytes x.1.data.toList y.1.data.toList = r at hcon ⊢
  go_enter Tryz.func43, Tryz.ntmps43
  go_wp2_with (go_at_call 44; refine (hcon _).mono ?_; rintro e w' ⟨rfl, rfl⟩)
  go_ret
  exact ⟨rfl, 0, _, by rw [alloc_eq_grow, alloc_eq_grow, grow_grow]; rfl⟩
/-- slices.SortFunc of lines, as the shelf says it -/
theorem sortL_any (blk off cap : Nat) (d : Array Ln) (w : World) (hH : HoldsK encL 2 w blk off d) (hblk : blk < w.heap.size) (hsz : d.size < 4611686018427387904) :
    Calls Tryz.prog 42 #[.slice (some ⟨blk, off, none⟩) d.size cap, .func (.func 43) #[] #[]] w fun e w' => e = .returned (.tuple #[]) ∧ ∃ d' n os, PermIn 0 d.size d d' ∧ SortedIn (ltOf cfL) 0 d.size d' ∧ w' = sortWorldK encL 2 w blk off n d' os := by
  have eg : ∀ args w, (callFunc 43 args).run Tryz.prog w = .ok (.enter 43 args) w := enters_of Tryz.func43 (by kernel_rfl) rfl
  exact AnyQ.slices_SortFunc Tryz.sortLn 2 Tryz.isAgg45 Tryz.sizeOf45 encL (fun _ => rfl) (fun x v hv => by simp [encL] at hv; rcases hv with rfl | rfl <;> rfl) cfL swoL 43 #[] blk off cap d w eg (fun _ _ _ _ x y => cmpL_any x y _) hH hblk hsz
end Go.Proofs.YtebkagmlhmdckaaGreat
