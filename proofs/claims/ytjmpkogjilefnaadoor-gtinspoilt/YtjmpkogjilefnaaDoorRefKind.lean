/-
  An Ai's kind, the document's own: larderref02.kindOf.
-/
import Derived.Test.YtjmpkogjilefnaaDoorForm
namespace Go.Proofs.YtjmpkogjilefnaaDoor
open Go.RowKit
set_option maxRecDepth 100000

/-- a Kind of the document's own -/
def rk (plain digits : Bool) (least most : Nat) (code day amount : Bool) : Value := .agg #[.bool plain, .bool digits, .int .i64 (least : Int), .int .i64 (most : Int), .bool code, .bool day, .bool amount]
def rkOf (k : Int) : Value :=
  if k = 0 then rk true true 18 18 true false false
  else if k = 1 then rk true true 14 14 true false false
  else if k = 2 then rk true true 13 13 true false false
  else if k = 3 then rk true true 6 6 false true false
  else if k = 4 then rk true true 2 2 false false false
  else if k = 5 then rk false true 1 8 false false false
  else if k = 6 then rk true true 6 6 false false true
  else if k = 7 then rk false true 1 15 false false true
  else if k = 8 then rk false true 6 6 false false false
  else if k = 9 then rk false false 1 20 false false false
  else if k = 10 then rk false false 1 25 false false false
  else if k = 11 then rk false false 1 30 false false false
  else if k = 12 then rk false false 1 90 false false false
  else rk false false 0 0 false false false
def rkV (l : List UInt8) : Value := .tuple #[rkOf ((kfind l).getD 13), .bool (kfind l).isSome]

set_option maxHeartbeats 2000000 in
theorem refKind_0 (w : World) : Calls Tryd.prog 28 #[.string ⟨#[48, 48]⟩] w fun e w' => e = .returned (.tuple #[rkOf 0, .bool true]) ∧ Below w.heap.size w w' := by
  go_enter Tryd.func28, Tryd.ntmps28
  go_wp2
  go_returns
  exact ⟨rfl, by go_grown⟩

set_option maxHeartbeats 2000000 in
theorem refKind_1 (w : World) : Calls Tryd.prog 28 #[.string ⟨#[48, 49]⟩] w fun e w' => e = .returned (.tuple #[rkOf 1, .bool true]) ∧ Below w.heap.size w w' := by
  go_enter Tryd.func28, Tryd.ntmps28
  go_wp2
  go_returns
  exact ⟨rfl, by go_grown⟩

set_option maxHeartbeats 2000000 in
theorem refKind_2 (w : World) : Calls Tryd.prog 28 #[.string ⟨#[48, 50]⟩] w fun e w' => e = .returned (.tuple #[rkOf 1, .bool true]) ∧ Below w.heap.size w w' := by
  go_enter Tryd.func28, Tryd.ntmps28
  go_wp2
  go_returns
  exact ⟨rfl, by go_grown⟩

set_option maxHeartbeats 2000000 in
theorem refKind_3 (w : World) : Calls Tryd.prog 28 #[.string ⟨#[49, 48]⟩] w fun e w' => e = .returned (.tuple #[rkOf 9, .bool true]) ∧ Below w.heap.size w w' := by
  go_enter Tryd.func28, Tryd.ntmps28
  go_wp2
  go_returns
  exact ⟨rfl, by go_grown⟩

set_option maxHeartbeats 2000000 in
theorem refKind_4 (w : World) : Calls Tryd.prog 28 #[.string ⟨#[50, 49]⟩] w fun e w' => e = .returned (.tuple #[rkOf 9, .bool true]) ∧ Below w.heap.size w w' := by
  go_enter Tryd.func28, Tryd.ntmps28
  go_wp2
  go_returns
  exact ⟨rfl, by go_grown⟩

set_option maxHeartbeats 2000000 in
theorem refKind_5 (w : World) : Calls Tryd.prog 28 #[.string ⟨#[49, 49]⟩] w fun e w' => e = .returned (.tuple #[rkOf 3, .bool true]) ∧ Below w.heap.size w w' := by
  go_enter Tryd.func28, Tryd.ntmps28
  go_wp2
  go_returns
  exact ⟨rfl, by go_grown⟩

set_option maxHeartbeats 2000000 in
theorem refKind_6 (w : World) : Calls Tryd.prog 28 #[.string ⟨#[49, 51]⟩] w fun e w' => e = .returned (.tuple #[rkOf 3, .bool true]) ∧ Below w.heap.size w w' := by
  go_enter Tryd.func28, Tryd.ntmps28
  go_wp2
  go_returns
  exact ⟨rfl, by go_grown⟩

set_option maxHeartbeats 2000000 in
theorem refKind_7 (w : World) : Calls Tryd.prog 28 #[.string ⟨#[49, 53]⟩] w fun e w' => e = .returned (.tuple #[rkOf 3, .bool true]) ∧ Below w.heap.size w w' := by
  go_enter Tryd.func28, Tryd.ntmps28
  go_wp2
  go_returns
  exact ⟨rfl, by go_grown⟩

set_option maxHeartbeats 2000000 in
theorem refKind_8 (w : World) : Calls Tryd.prog 28 #[.string ⟨#[49, 55]⟩] w fun e w' => e = .returned (.tuple #[rkOf 3, .bool true]) ∧ Below w.heap.size w w' := by
  go_enter Tryd.func28, Tryd.ntmps28
  go_wp2
  go_returns
  exact ⟨rfl, by go_grown⟩

set_option maxHeartbeats 2000000 in
theorem refKind_9 (w : World) : Calls Tryd.prog 28 #[.string ⟨#[50, 48]⟩] w fun e w' => e = .returned (.tuple #[rkOf 4, .bool true]) ∧ Below w.heap.size w w' := by
  go_enter Tryd.func28, Tryd.ntmps28
  go_wp2
  go_returns
  exact ⟨rfl, by go_grown⟩

set_option maxHeartbeats 2000000 in
theorem refKind_10 (w : World) : Calls Tryd.prog 28 #[.string ⟨#[51, 48]⟩] w fun e w' => e = .returned (.tuple #[rkOf 5, .bool true]) ∧ Below w.heap.size w w' := by
  go_enter Tryd.func28, Tryd.ntmps28
  go_wp2
  go_returns
  exact ⟨rfl, by go_grown⟩

set_option maxHeartbeats 2000000 in
theorem refKind_11 (w : World) : Calls Tryd.prog 28 #[.string ⟨#[51, 55]⟩] w fun e w' => e = .returned (.tuple #[rkOf 5, .bool true]) ∧ Below w.heap.size w w' := by
  go_enter Tryd.func28, Tryd.ntmps28
  go_wp2
  go_returns
  exact ⟨rfl, by go_grown⟩

set_option maxHeartbeats 2000000 in
theorem refKind_12 (w : World) : Calls Tryd.prog 28 #[.string ⟨#[51, 49, 48, 48]⟩] w fun e w' => e = .returned (.tuple #[rkOf 6, .bool true]) ∧ Below w.heap.size w w' := by
  go_enter Tryd.func28, Tryd.ntmps28
  go_wp2
  go_returns
  exact ⟨rfl, by go_grown⟩

set_option maxHeartbeats 2000000 in
theorem refKind_13 (w : World) : Calls Tryd.prog 28 #[.string ⟨#[51, 49, 48, 49]⟩] w fun e w' => e = .returned (.tuple #[rkOf 6, .bool true]) ∧ Below w.heap.size w w' := by
  go_enter Tryd.func28, Tryd.ntmps28
  go_wp2
  go_returns
  exact ⟨rfl, by go_grown⟩

set_option maxHeartbeats 2000000 in
theorem refKind_14 (w : World) : Calls Tryd.prog 28 #[.string ⟨#[51, 49, 48, 50]⟩] w fun e w' => e = .returned (.tuple #[rkOf 6, .bool true]) ∧ Below w.heap.size w w' := by
  go_enter Tryd.func28, Tryd.ntmps28
  go_wp2
  go_returns
  exact ⟨rfl, by go_grown⟩

set_option maxHeartbeats 2000000 in
theorem refKind_15 (w : World) : Calls Tryd.prog 28 #[.string ⟨#[51, 49, 48, 51]⟩] w fun e w' => e = .returned (.tuple #[rkOf 6, .bool true]) ∧ Below w.heap.size w w' := by
  go_enter Tryd.func28, Tryd.ntmps28
  go_wp2
  go_returns
  exact ⟨rfl, by go_grown⟩

set_option maxHeartbeats 2000000 in
theorem refKind_16 (w : World) : Calls Tryd.prog 28 #[.string ⟨#[51, 49, 48, 52]⟩] w fun e w' => e = .returned (.tuple #[rkOf 6, .bool true]) ∧ Below w.heap.size w w' := by
  go_enter Tryd.func28, Tryd.ntmps28
  go_wp2
  go_returns
  exact ⟨rfl, by go_grown⟩

set_option maxHeartbeats 2000000 in
theorem refKind_17 (w : World) : Calls Tryd.prog 28 #[.string ⟨#[51, 49, 48, 53]⟩] w fun e w' => e = .returned (.tuple #[rkOf 6, .bool true]) ∧ Below w.heap.size w w' := by
  go_enter Tryd.func28, Tryd.ntmps28
  go_wp2
  go_returns
  exact ⟨rfl, by go_grown⟩

set_option maxHeartbeats 2000000 in
theorem refKind_18 (w : World) : Calls Tryd.prog 28 #[.string ⟨#[51, 57, 50, 48]⟩] w fun e w' => e = .returned (.tuple #[rkOf 7, .bool true]) ∧ Below w.heap.size w w' := by
  go_enter Tryd.func28, Tryd.ntmps28
  go_wp2
  go_returns
  exact ⟨rfl, by go_grown⟩

set_option maxHeartbeats 2000000 in
theorem refKind_19 (w : World) : Calls Tryd.prog 28 #[.string ⟨#[51, 57, 50, 49]⟩] w fun e w' => e = .returned (.tuple #[rkOf 7, .bool true]) ∧ Below w.heap.size w w' := by
  go_enter Tryd.func28, Tryd.ntmps28
  go_wp2
  go_returns
  exact ⟨rfl, by go_grown⟩

set_option maxHeartbeats 2000000 in
theorem refKind_20 (w : World) : Calls Tryd.prog 28 #[.string ⟨#[51, 57, 50, 50]⟩] w fun e w' => e = .returned (.tuple #[rkOf 7, .bool true]) ∧ Below w.heap.size w w' := by
  go_enter Tryd.func28, Tryd.ntmps28
  go_wp2
  go_returns
  exact ⟨rfl, by go_grown⟩

set_option maxHeartbeats 2000000 in
theorem refKind_21 (w : World) : Calls Tryd.prog 28 #[.string ⟨#[51, 57, 50, 51]⟩] w fun e w' => e = .returned (.tuple #[rkOf 7, .bool true]) ∧ Below w.heap.size w w' := by
  go_enter Tryd.func28, Tryd.ntmps28
  go_wp2
  go_returns
  exact ⟨rfl, by go_grown⟩

set_option maxHeartbeats 2000000 in
theorem refKind_22 (w : World) : Calls Tryd.prog 28 #[.string ⟨#[52, 48, 48]⟩] w fun e w' => e = .returned (.tuple #[rkOf 11, .bool true]) ∧ Below w.heap.size w w' := by
  go_enter Tryd.func28, Tryd.ntmps28
  go_wp2
  go_returns
  exact ⟨rfl, by go_grown⟩

set_option maxHeartbeats 2000000 in
theorem refKind_23 (w : World) : Calls Tryd.prog 28 #[.string ⟨#[52, 49, 48]⟩] w fun e w' => e = .returned (.tuple #[rkOf 2, .bool true]) ∧ Below w.heap.size w w' := by
  go_enter Tryd.func28, Tryd.ntmps28
  go_wp2
  go_returns
  exact ⟨rfl, by go_grown⟩

set_option maxHeartbeats 2000000 in
theorem refKind_24 (w : World) : Calls Tryd.prog 28 #[.string ⟨#[52, 49, 49]⟩] w fun e w' => e = .returned (.tuple #[rkOf 2, .bool true]) ∧ Below w.heap.size w w' := by
  go_enter Tryd.func28, Tryd.ntmps28
  go_wp2
  go_returns
  exact ⟨rfl, by go_grown⟩

set_option maxHeartbeats 2000000 in
theorem refKind_25 (w : World) : Calls Tryd.prog 28 #[.string ⟨#[52, 49, 52]⟩] w fun e w' => e = .returned (.tuple #[rkOf 2, .bool true]) ∧ Below w.heap.size w w' := by
  go_enter Tryd.func28, Tryd.ntmps28
  go_wp2
  go_returns
  exact ⟨rfl, by go_grown⟩

set_option maxHeartbeats 2000000 in
theorem refKind_26 (w : World) : Calls Tryd.prog 28 #[.string ⟨#[52, 50, 48]⟩] w fun e w' => e = .returned (.tuple #[rkOf 9, .bool true]) ∧ Below w.heap.size w w' := by
  go_enter Tryd.func28, Tryd.ntmps28
  go_wp2
  go_returns
  exact ⟨rfl, by go_grown⟩

set_option maxHeartbeats 2000000 in
theorem refKind_27 (w : World) : Calls Tryd.prog 28 #[.string ⟨#[56, 48, 48, 53]⟩] w fun e w' => e = .returned (.tuple #[rkOf 8, .bool true]) ∧ Below w.heap.size w w' := by
  go_enter Tryd.func28, Tryd.ntmps28
  go_wp2
  go_returns
  exact ⟨rfl, by go_grown⟩

set_option maxHeartbeats 2000000 in
theorem refKind_28 (w : World) : Calls Tryd.prog 28 #[.string ⟨#[56, 48, 50, 48]⟩] w fun e w' => e = .returned (.tuple #[rkOf 10, .bool true]) ∧ Below w.heap.size w w' := by
  go_enter Tryd.func28, Tryd.ntmps28
  go_wp2
  go_returns
  exact ⟨rfl, by go_grown⟩

set_option maxHeartbeats 2000000 in
theorem refKind_29 (w : World) : Calls Tryd.prog 28 #[.string ⟨#[57, 48]⟩] w fun e w' => e = .returned (.tuple #[rkOf 11, .bool true]) ∧ Below w.heap.size w w' := by
  go_enter Tryd.func28, Tryd.ntmps28
  go_wp2
  go_returns
  exact ⟨rfl, by go_grown⟩

set_option maxHeartbeats 2000000 in
theorem refKind_30 (w : World) : Calls Tryd.prog 28 #[.string ⟨#[57, 49]⟩] w fun e w' => e = .returned (.tuple #[rkOf 12, .bool true]) ∧ Below w.heap.size w w' := by
  go_enter Tryd.func28, Tryd.ntmps28
  go_wp2
  go_returns
  exact ⟨rfl, by go_grown⟩

set_option maxHeartbeats 2000000 in
theorem refKind_31 (w : World) : Calls Tryd.prog 28 #[.string ⟨#[57, 50]⟩] w fun e w' => e = .returned (.tuple #[rkOf 12, .bool true]) ∧ Below w.heap.size w w' := by
  go_enter Tryd.func28, Tryd.ntmps28
  go_wp2
  go_returns
  exact ⟨rfl, by go_grown⟩

set_option maxHeartbeats 2000000 in
theorem refKind_32 (w : World) : Calls Tryd.prog 28 #[.string ⟨#[57, 51]⟩] w fun e w' => e = .returned (.tuple #[rkOf 12, .bool true]) ∧ Below w.heap.size w w' := by
  go_enter Tryd.func28, Tryd.ntmps28
  go_wp2
  go_returns
  exact ⟨rfl, by go_grown⟩

set_option maxHeartbeats 2000000 in
theorem refKind_33 (w : World) : Calls Tryd.prog 28 #[.string ⟨#[57, 52]⟩] w fun e w' => e = .returned (.tuple #[rkOf 12, .bool true]) ∧ Below w.heap.size w w' := by
  go_enter Tryd.func28, Tryd.ntmps28
  go_wp2
  go_returns
  exact ⟨rfl, by go_grown⟩

set_option maxHeartbeats 2000000 in
theorem refKind_34 (w : World) : Calls Tryd.prog 28 #[.string ⟨#[57, 53]⟩] w fun e w' => e = .returned (.tuple #[rkOf 12, .bool true]) ∧ Below w.heap.size w w' := by
  go_enter Tryd.func28, Tryd.ntmps28
  go_wp2
  go_returns
  exact ⟨rfl, by go_grown⟩

set_option maxHeartbeats 2000000 in
theorem refKind_35 (w : World) : Calls Tryd.prog 28 #[.string ⟨#[57, 54]⟩] w fun e w' => e = .returned (.tuple #[rkOf 12, .bool true]) ∧ Below w.heap.size w w' := by
  go_enter Tryd.func28, Tryd.ntmps28
  go_wp2
  go_returns
  exact ⟨rfl, by go_grown⟩

set_option maxHeartbeats 2000000 in
theorem refKind_36 (w : World) : Calls Tryd.prog 28 #[.string ⟨#[57, 55]⟩] w fun e w' => e = .returned (.tuple #[rkOf 12, .bool true]) ∧ Below w.heap.size w w' := by
  go_enter Tryd.func28, Tryd.ntmps28
  go_wp2
  go_returns
  exact ⟨rfl, by go_grown⟩

set_option maxHeartbeats 2000000 in
theorem refKind_37 (w : World) : Calls Tryd.prog 28 #[.string ⟨#[57, 56]⟩] w fun e w' => e = .returned (.tuple #[rkOf 12, .bool true]) ∧ Below w.heap.size w w' := by
  go_enter Tryd.func28, Tryd.ntmps28
  go_wp2
  go_returns
  exact ⟨rfl, by go_grown⟩

set_option maxHeartbeats 2000000 in
theorem refKind_38 (w : World) : Calls Tryd.prog 28 #[.string ⟨#[57, 57]⟩] w fun e w' => e = .returned (.tuple #[rkOf 12, .bool true]) ∧ Below w.heap.size w w' := by
  go_enter Tryd.func28, Tryd.ntmps28
  go_wp2
  go_returns
  exact ⟨rfl, by go_grown⟩

set_option maxHeartbeats 4000000 in
theorem refKind_none (s : ByteArray) (w : World) (h : kfind s.data.toList = none) : Calls Tryd.prog 28 #[.string s] w fun e w' => e = .returned (.tuple #[rkOf 13, .bool false]) ∧ Below w.heap.size w w' := by
  have hn : ∀ x ∈ knl, (s.toList == x.1) = false := by
    intro x hx
    unfold kfind at h
    rw [Option.map_eq_none_iff, List.find?_eq_none] at h
    have := h x hx
    rw [ByteArray.toList_eq, beq_eq_false_iff_ne]
    intro e
    rw [e] at this
    simp at this
  have n0 : (s.toList == [48, 48]) = false := hn ([48, 48], 0) (by decide)
  have n1 : (s.toList == [48, 49]) = false := hn ([48, 49], 1) (by decide)
  have n2 : (s.toList == [48, 50]) = false := hn ([48, 50], 1) (by decide)
  have n3 : (s.toList == [49, 48]) = false := hn ([49, 48], 9) (by decide)
  have n4 : (s.toList == [50, 49]) = false := hn ([50, 49], 9) (by decide)
  have n5 : (s.toList == [49, 49]) = false := hn ([49, 49], 3) (by decide)
  have n6 : (s.toList == [49, 51]) = false := hn ([49, 51], 3) (by decide)
  have n7 : (s.toList == [49, 53]) = false := hn ([49, 53], 3) (by decide)
  have n8 : (s.toList == [49, 55]) = false := hn ([49, 55], 3) (by decide)
  have n9 : (s.toList == [50, 48]) = false := hn ([50, 48], 4) (by decide)
  have n10 : (s.toList == [51, 48]) = false := hn ([51, 48], 5) (by decide)
  have n11 : (s.toList == [51, 55]) = false := hn ([51, 55], 5) (by decide)
  have n12 : (s.toList == [51, 49, 48, 48]) = false := hn ([51, 49, 48, 48], 6) (by decide)
  have n13 : (s.toList == [51, 49, 48, 49]) = false := hn ([51, 49, 48, 49], 6) (by decide)
  have n14 : (s.toList == [51, 49, 48, 50]) = false := hn ([51, 49, 48, 50], 6) (by decide)
  have n15 : (s.toList == [51, 49, 48, 51]) = false := hn ([51, 49, 48, 51], 6) (by decide)
  have n16 : (s.toList == [51, 49, 48, 52]) = false := hn ([51, 49, 48, 52], 6) (by decide)
  have n17 : (s.toList == [51, 49, 48, 53]) = false := hn ([51, 49, 48, 53], 6) (by decide)
  have n18 : (s.toList == [51, 57, 50, 48]) = false := hn ([51, 57, 50, 48], 7) (by decide)
  have n19 : (s.toList == [51, 57, 50, 49]) = false := hn ([51, 57, 50, 49], 7) (by decide)
  have n20 : (s.toList == [51, 57, 50, 50]) = false := hn ([51, 57, 50, 50], 7) (by decide)
  have n21 : (s.toList == [51, 57, 50, 51]) = false := hn ([51, 57, 50, 51], 7) (by decide)
  have n22 : (s.toList == [52, 48, 48]) = false := hn ([52, 48, 48], 11) (by decide)
  have n23 : (s.toList == [52, 49, 48]) = false := hn ([52, 49, 48], 2) (by decide)
  have n24 : (s.toList == [52, 49, 49]) = false := hn ([52, 49, 49], 2) (by decide)
  have n25 : (s.toList == [52, 49, 52]) = false := hn ([52, 49, 52], 2) (by decide)
  have n26 : (s.toList == [52, 50, 48]) = false := hn ([52, 50, 48], 9) (by decide)
  have n27 : (s.toList == [56, 48, 48, 53]) = false := hn ([56, 48, 48, 53], 8) (by decide)
  have n28 : (s.toList == [56, 48, 50, 48]) = false := hn ([56, 48, 50, 48], 10) (by decide)
  have n29 : (s.toList == [57, 48]) = false := hn ([57, 48], 11) (by decide)
  have n30 : (s.toList == [57, 49]) = false := hn ([57, 49], 12) (by decide)
  have n31 : (s.toList == [57, 50]) = false := hn ([57, 50], 12) (by decide)
  have n32 : (s.toList == [57, 51]) = false := hn ([57, 51], 12) (by decide)
  have n33 : (s.toList == [57, 52]) = false := hn ([57, 52], 12) (by decide)
  have n34 : (s.toList == [57, 53]) = false := hn ([57, 53], 12) (by decide)
  have n35 : (s.toList == [57, 54]) = false := hn ([57, 54], 12) (by decide)
  have n36 : (s.toList == [57, 55]) = false := hn ([57, 55], 12) (by decide)
  have n37 : (s.toList == [57, 56]) = false := hn ([57, 56], 12) (by decide)
  have n38 : (s.toList == [57, 57]) = false := hn ([57, 57], 12) (by decide)
  clear hn h
  go_enter Tryd.func28, Tryd.ntmps28
  go_wp2
  go_returns
  exact ⟨rfl, by go_grown⟩

theorem kfind_mem {l : List UInt8} {k : Int} (h : kfind l = some k) : (l, k) ∈ knl := by
  unfold kfind at h
  obtain ⟨x, hx, rfl⟩ := Option.map_eq_some_iff.1 h
  have h1 := List.mem_of_find?_eq_some hx
  have h2 := List.find?_some hx
  have h3 : x.1 = l := by simpa using h2
  rw [← h3]
  exact h1

theorem refKindOf_any (s : ByteArray) (w : World) : Calls Tryd.prog 28 #[.string s] w fun e w' => e = .returned (rkV s.data.toList) ∧ Below w.heap.size w w' := by
  unfold rkV
  cases h : kfind s.data.toList with
  | none => exact refKind_none s w h
  | some k =>
    have hm := kfind_mem h
    have hs : ∀ l, s.data.toList = l → s = ⟨l.toArray⟩ := fun l e => by cases s; subst e; simp
    unfold knl at hm
    simp only [List.mem_cons, Prod.mk.injEq, List.not_mem_nil, or_false] at hm
    rcases hm with ⟨e, rfl⟩ | ⟨e, rfl⟩ | ⟨e, rfl⟩ | ⟨e, rfl⟩ | ⟨e, rfl⟩ | ⟨e, rfl⟩ | ⟨e, rfl⟩ | ⟨e, rfl⟩ | ⟨e, rfl⟩ | ⟨e, rfl⟩ | ⟨e, rfl⟩ | ⟨e, rfl⟩ | ⟨e, rfl⟩ | ⟨e, rfl⟩ | ⟨e, rfl⟩ | ⟨e, rfl⟩ | ⟨e, rfl⟩ | ⟨e, rfl⟩ | ⟨e, rfl⟩ | ⟨e, rfl⟩ | ⟨e, rfl⟩ | ⟨e, rfl⟩ | ⟨e, rfl⟩ | ⟨e, rfl⟩ | ⟨e, rfl⟩ | ⟨e, rfl⟩ | ⟨e, rfl⟩ | ⟨e, rfl⟩ | ⟨e, rfl⟩ | ⟨e, rfl⟩ | ⟨e, rfl⟩ | ⟨e, rfl⟩ | ⟨e, rfl⟩ | ⟨e, rfl⟩ | ⟨e, rfl⟩ | ⟨e, rfl⟩ | ⟨e, rfl⟩ | ⟨e, rfl⟩ | ⟨e, rfl⟩
    · rw [hs _ e]; exact refKind_0 w
    · rw [hs _ e]; exact refKind_1 w
    · rw [hs _ e]; exact refKind_2 w
    · rw [hs _ e]; exact refKind_3 w
    · rw [hs _ e]; exact refKind_4 w
    · rw [hs _ e]; exact refKind_5 w
    · rw [hs _ e]; exact refKind_6 w
    · rw [hs _ e]; exact refKind_7 w
    · rw [hs _ e]; exact refKind_8 w
    · rw [hs _ e]; exact refKind_9 w
    · rw [hs _ e]; exact refKind_10 w
    · rw [hs _ e]; exact refKind_11 w
    · rw [hs _ e]; exact refKind_12 w
    · rw [hs _ e]; exact refKind_13 w
    · rw [hs _ e]; exact refKind_14 w
    · rw [hs _ e]; exact refKind_15 w
    · rw [hs _ e]; exact refKind_16 w
    · rw [hs _ e]; exact refKind_17 w
    · rw [hs _ e]; exact refKind_18 w
    · rw [hs _ e]; exact refKind_19 w
    · rw [hs _ e]; exact refKind_20 w
    · rw [hs _ e]; exact refKind_21 w
    · rw [hs _ e]; exact refKind_22 w
    · rw [hs _ e]; exact refKind_23 w
    · rw [hs _ e]; exact refKind_24 w
    · rw [hs _ e]; exact refKind_25 w
    · rw [hs _ e]; exact refKind_26 w
    · rw [hs _ e]; exact refKind_27 w
    · rw [hs _ e]; exact refKind_28 w
    · rw [hs _ e]; exact refKind_29 w
    · rw [hs _ e]; exact refKind_30 w
    · rw [hs _ e]; exact refKind_31 w
    · rw [hs _ e]; exact refKind_32 w
    · rw [hs _ e]; exact refKind_33 w
    · rw [hs _ e]; exact refKind_34 w
    · rw [hs _ e]; exact refKind_35 w
    · rw [hs _ e]; exact refKind_36 w
    · rw [hs _ e]; exact refKind_37 w
    · rw [hs _ e]; exact refKind_38 w
end Go.Proofs.YtjmpkogjilefnaaDoor
