/-
  The document's own fits.
-/
import Derived.Test.YtpplkoilpblpkaaDoorRefB
import Derived.Test.YtpplkoilpblpkaaDoorRefKind
import Derived.Test.YtpplkoilpblpkaaDoorIsDay
namespace Go.Proofs.YtpplkoilpblpkaaDoor
open Go.RowKit
set_option maxRecDepth 100000

/-- what fits says of a Value, by a kind's own fields -/
def fR (d c dy : Bool) (lo hi : Nat) (x : List UInt8) : Int :=
  if x.length < lo then 3 else if hi < x.length then 26 else if byF (if d then dF else chF) x ≠ 0 then byF (if d then dF else chF) x else if c = true ∧ sm x % 10 ≠ 0 then 22 else if dy = true ∧ ¬ DayOk (yy x) (mm x) (dd x) then 28 else 0

theorem fE_code (a b : Nat) (x : List UInt8) : fltE a b dF (cF x).1 x = fR true true false a b x := by
  unfold fltE fR cF
  by_cases h : sm x % 10 = 0 <;> simp [h]
theorem fE_day (a b : Nat) (x : List UInt8) : fltE a b dF (if DayOk (yy x) (mm x) (dd x) then 0 else 28) x = fR true false true a b x := by
  unfold fltE fR
  by_cases h : DayOk (yy x) (mm x) (dd x)
  · rw [if_pos h]
    simp [show DayB (yy x) (mm x) (dd x) = true from h]
  · rw [if_neg h]
    simp [show DayB (yy x) (mm x) (dd x) = false by simpa using h]
theorem fE_dig (a b : Nat) (x : List UInt8) : fltE a b dF 0 x = fR true false false a b x := by
  unfold fltE fR
  simp
theorem fE_chr (a b : Nat) (x : List UInt8) : fltE a b chF 0 x = fR false false false a b x := by
  unfold fltE fR
  simp

theorem rk_of (q : Int) (h0 : 0 ≤ q) (h1 : q ≤ 12) : ∃ (d c dy am : Bool) (lo hi : Nat), rkOf q = rk (plK q) d lo hi c dy am ∧ (∀ x, fltK q x = fR d c dy lo hi x) ∧ hi ≤ 90 ∧ (dy = true → lo = 6 ∧ hi = 6) := by
  have hk : q = 0 ∨ q = 1 ∨ q = 2 ∨ q = 3 ∨ q = 4 ∨ q = 5 ∨ q = 6 ∨ q = 7 ∨ q = 8 ∨ q = 9 ∨ q = 10 ∨ q = 11 ∨ q = 12 := by omega
  rcases hk with rfl | rfl | rfl | rfl | rfl | rfl | rfl | rfl | rfl | rfl | rfl | rfl | rfl
  · exact ⟨true, true, false, false, 18, 18, rfl, fun x => fE_code 18 18 x, by omega, fun h => by cases h⟩
  · exact ⟨true, true, false, false, 14, 14, rfl, fun x => fE_code 14 14 x, by omega, fun h => by cases h⟩
  · exact ⟨true, true, false, false, 13, 13, rfl, fun x => fE_code 13 13 x, by omega, fun h => by cases h⟩
  · exact ⟨true, false, true, false, 6, 6, rfl, fun x => fE_day 6 6 x, by omega, fun _ => ⟨rfl, rfl⟩⟩
  · exact ⟨true, false, false, false, 2, 2, rfl, fun x => fE_dig 2 2 x, by omega, fun h => by cases h⟩
  · exact ⟨true, false, false, false, 1, 8, rfl, fun x => fE_dig 1 8 x, by omega, fun h => by cases h⟩
  · exact ⟨true, false, false, true, 6, 6, rfl, fun x => fE_dig 6 6 x, by omega, fun h => by cases h⟩
  · exact ⟨true, false, false, true, 1, 15, rfl, fun x => fE_dig 1 15 x, by omega, fun h => by cases h⟩
  · exact ⟨true, false, false, false, 6, 6, rfl, fun x => fE_dig 6 6 x, by omega, fun h => by cases h⟩
  · exact ⟨false, false, false, false, 1, 20, rfl, fun x => fE_chr 1 20 x, by omega, fun h => by cases h⟩
  · exact ⟨false, false, false, false, 1, 25, rfl, fun x => fE_chr 1 25 x, by omega, fun h => by cases h⟩
  · exact ⟨false, false, false, false, 1, 30, rfl, fun x => fE_chr 1 30 x, by omega, fun h => by cases h⟩
  · exact ⟨false, false, false, false, 1, 90, rfl, fun x => fE_chr 1 90 x, by omega, fun h => by cases h⟩

theorem dig_chB {c : UInt8} (h : isDB c = true) : chB c = true := by unfold chB; rw [h]; simp

end Go.Proofs.YtpplkoilpblpkaaDoor
