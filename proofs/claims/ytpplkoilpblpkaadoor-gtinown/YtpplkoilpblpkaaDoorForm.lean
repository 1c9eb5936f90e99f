/-
  What a Value of a kind must be: formOf.
-/
import Derived.Test.YtpplkoilpblpkaaDoorKindOf
import Derived.Laws.EntriesVeiled
import Derived.WalkLawsBesides
import Derived.Handy
namespace Go.Proofs.YtpplkoilpblpkaaDoor
open Go.RowKit
set_option maxRecDepth 100000

/-- a form: least, most, plain, the two functions -/
def frm (least most : Nat) (plain : Bool) (f g : Nat) : Value := .agg #[.int .i64 (least : Int), .int .i64 (most : Int), .bool plain, .func (.func f) #[] #[], .func (.func g) #[] #[]]

def frmOf (k : Int) : Value :=
  if k = 0 then frm 18 18 true 47 44
  else if k = 1 then frm 14 14 true 47 44
  else if k = 2 then frm 13 13 true 47 44
  else if k = 3 then frm 6 6 true 47 45
  else if k = 4 then frm 2 2 true 47 46
  else if k = 5 then frm 1 8 false 47 46
  else if k = 6 then frm 6 6 true 47 46
  else if k = 7 then frm 1 15 false 47 46
  else if k = 8 then frm 6 6 false 47 46
  else if k = 9 then frm 1 20 false 58 46
  else if k = 10 then frm 1 25 false 58 46
  else if k = 11 then frm 1 30 false 58 46
  else frm 1 90 false 58 46

set_option maxHeartbeats 2000000 in
theorem formOf_0 (w : World) :
    Calls Tryd.prog 30 #[.int .i64 0] w fun e w' => e = .returned (frmOf 0) ∧ Below w.heap.size w w' := by
  go_enter Tryd.func30, Tryd.ntmps30
  go_wp2
  go_returns
  exact ⟨rfl, by go_grown⟩

set_option maxHeartbeats 2000000 in
theorem formOf_1 (w : World) :
    Calls Tryd.prog 30 #[.int .i64 1] w fun e w' => e = .returned (frmOf 1) ∧ Below w.heap.size w w' := by
  go_enter Tryd.func30, Tryd.ntmps30
  go_wp2
  go_returns
  exact ⟨rfl, by go_grown⟩

set_option maxHeartbeats 2000000 in
theorem formOf_2 (w : World) :
    Calls Tryd.prog 30 #[.int .i64 2] w fun e w' => e = .returned (frmOf 2) ∧ Below w.heap.size w w' := by
  go_enter Tryd.func30, Tryd.ntmps30
  go_wp2
  go_returns
  exact ⟨rfl, by go_grown⟩

set_option maxHeartbeats 2000000 in
theorem formOf_3 (w : World) :
    Calls Tryd.prog 30 #[.int .i64 3] w fun e w' => e = .returned (frmOf 3) ∧ Below w.heap.size w w' := by
  go_enter Tryd.func30, Tryd.ntmps30
  go_wp2
  go_returns
  exact ⟨rfl, by go_grown⟩

set_option maxHeartbeats 2000000 in
theorem formOf_4 (w : World) :
    Calls Tryd.prog 30 #[.int .i64 4] w fun e w' => e = .returned (frmOf 4) ∧ Below w.heap.size w w' := by
  go_enter Tryd.func30, Tryd.ntmps30
  go_wp2
  go_returns
  exact ⟨rfl, by go_grown⟩

set_option maxHeartbeats 2000000 in
theorem formOf_5 (w : World) :
    Calls Tryd.prog 30 #[.int .i64 5] w fun e w' => e = .returned (frmOf 5) ∧ Below w.heap.size w w' := by
  go_enter Tryd.func30, Tryd.ntmps30
  go_wp2
  go_returns
  exact ⟨rfl, by go_grown⟩

set_option maxHeartbeats 2000000 in
theorem formOf_6 (w : World) :
    Calls Tryd.prog 30 #[.int .i64 6] w fun e w' => e = .returned (frmOf 6) ∧ Below w.heap.size w w' := by
  go_enter Tryd.func30, Tryd.ntmps30
  go_wp2
  go_returns
  exact ⟨rfl, by go_grown⟩

set_option maxHeartbeats 2000000 in
theorem formOf_7 (w : World) :
    Calls Tryd.prog 30 #[.int .i64 7] w fun e w' => e = .returned (frmOf 7) ∧ Below w.heap.size w w' := by
  go_enter Tryd.func30, Tryd.ntmps30
  go_wp2
  go_returns
  exact ⟨rfl, by go_grown⟩

set_option maxHeartbeats 2000000 in
theorem formOf_8 (w : World) :
    Calls Tryd.prog 30 #[.int .i64 8] w fun e w' => e = .returned (frmOf 8) ∧ Below w.heap.size w w' := by
  go_enter Tryd.func30, Tryd.ntmps30
  go_wp2
  go_returns
  exact ⟨rfl, by go_grown⟩

set_option maxHeartbeats 2000000 in
theorem formOf_9 (w : World) :
    Calls Tryd.prog 30 #[.int .i64 9] w fun e w' => e = .returned (frmOf 9) ∧ Below w.heap.size w w' := by
  go_enter Tryd.func30, Tryd.ntmps30
  go_wp2
  go_returns
  exact ⟨rfl, by go_grown⟩

set_option maxHeartbeats 2000000 in
theorem formOf_10 (w : World) :
    Calls Tryd.prog 30 #[.int .i64 10] w fun e w' => e = .returned (frmOf 10) ∧ Below w.heap.size w w' := by
  go_enter Tryd.func30, Tryd.ntmps30
  go_wp2
  go_returns
  exact ⟨rfl, by go_grown⟩

set_option maxHeartbeats 2000000 in
theorem formOf_11 (w : World) :
    Calls Tryd.prog 30 #[.int .i64 11] w fun e w' => e = .returned (frmOf 11) ∧ Below w.heap.size w w' := by
  go_enter Tryd.func30, Tryd.ntmps30
  go_wp2
  go_returns
  exact ⟨rfl, by go_grown⟩

set_option maxHeartbeats 2000000 in
theorem formOf_12 (w : World) :
    Calls Tryd.prog 30 #[.int .i64 12] w fun e w' => e = .returned (frmOf 12) ∧ Below w.heap.size w w' := by
  go_enter Tryd.func30, Tryd.ntmps30
  go_wp2
  go_returns
  exact ⟨rfl, by go_grown⟩

theorem formOf_any (k : Int) (w : World) (h0 : 0 ≤ k) (h1 : k ≤ 12) :
    Calls Tryd.prog 30 #[.int .i64 k] w fun e w' => e = .returned (frmOf k) ∧ Below w.heap.size w w' := by
  have hk : k = 0 ∨ k = 1 ∨ k = 2 ∨ k = 3 ∨ k = 4 ∨ k = 5 ∨ k = 6 ∨ k = 7 ∨ k = 8 ∨ k = 9 ∨ k = 10 ∨ k = 11 ∨ k = 12 := by omega
  rcases hk with rfl | rfl | rfl | rfl | rfl | rfl | rfl | rfl | rfl | rfl | rfl | rfl | rfl
  · exact formOf_0 w
  · exact formOf_1 w
  · exact formOf_2 w
  · exact formOf_3 w
  · exact formOf_4 w
  · exact formOf_5 w
  · exact formOf_6 w
  · exact formOf_7 w
  · exact formOf_8 w
  · exact formOf_9 w
  · exact formOf_10 w
  · exact formOf_11 w
  · exact formOf_12 w
end Go.Proofs.YtpplkoilpblpkaaDoor
