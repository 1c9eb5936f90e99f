/-
  An Ai's kind, the document's own: larderref02.kindOf.
-/
import Derived.Test.YtpplkoilpblpkaaDoorForm
namespace Go.Proofs.YtpplkoilpblpkaaDoor
open Go.RowKit
set_option maxRecDepth 100000

/-- a Kind of the document's own -/
def rk (plain digits : Bool) (least most : Nat) (code day amount : Bool) : Value := .agg #[.bool plain, .bool digits, .int .i64 (least : Int), .int .i64 (most : Int), .bool code, .bool day, .bool amount]
def rkOf (k : Int) : Value :=
  if k = 0 then rk true true 18 18 true false false
  else if k = 1 then rk true true 14 14 true false false
  else if k = 2 then rk true true 13 13 true false false
  else if k = 3 then rk true true 6 6 false true false
  else if k = 4 then rk true true 2 2 false false false
  else if k = 5 then rk false true 1 8 false false false
  else if k = 6 then rk true true 6 6 false false true
  else if k = 7 then rk false true 1 15 false false true
  else if k = 8 then rk false true 6 6 false false false
  else if k = 9 then rk false false 1 20 false false false
  else if k = 10 then rk false false 1 25 false false false
  else if k = 11 then rk false false 1 30 false false false
  else if k = 12 then rk false false 1 90 false false false
  else rk false false 0 0 false false false
def rkV (l : List UInt8) : Value := .tuple #[rkOf ((kfind l).getD 13), .bool (kfind l).isSome]

theorem kfind_mem {l : List UInt8} {k : Int} (h : kfind l = some k) : (l, k) ∈ knl := by
  unfold kfind at h
  obtain ⟨x, hx, rfl⟩ := Option.map_eq_some_iff.1 h
  have h1 := List.mem_of_find?_eq_some hx
  have h2 := List.find?_some hx
  have h3 : x.1 = l := by simpa using h2
  rw [← h3]
  exact h1

end Go.Proofs.YtpplkoilpblpkaaDoor
