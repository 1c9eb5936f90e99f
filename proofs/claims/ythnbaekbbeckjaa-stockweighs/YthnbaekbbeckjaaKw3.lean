/-
  A remembered request's first reply: the program's and the document's; replies without levels that are the same.
-/
import Derived.Test.YthnbaekbbeckjaaKw1
import Derived.Handy
namespace Go.Proofs.Ythnbaekbbeckjaa
open Go.RowKit
set_option maxRecDepth 100000
set_option linter.unusedSimpArgs false

/-- the first reply's Now -/
def fN (d : Dn) : Int := if d.req.kind = 3 ∨ d.req.kind = 6 then wrap64 (d.at' + d.req.ttl) else if d.req.kind = 8 then d.at' else 0
/-- a reply without levels -/
def ryV (id : ByteArray) (e l n : Int) : Value := .agg #[.string id, .int .i64 e, .int .i64 l, .slice none 0 0, .int .i64 n]
theorem hasTtl_any (k : Int) (w : World) : Calls Try.prog 13 #[.int .i64 k] w fun e w' => e = .returned (.bool (decide (k = 3 ∨ k = 6))) ∧ w' = w := by
  rcases (show k = 3 ∨ k = 6 ∨ (k ≠ 3 ∧ k ≠ 6) by omega) with rfl | rfl | ⟨h1, h2⟩
  all_goals
    go_enter Try.func13, Try.ntmps13
    go_wp2
    go_ret
    exact ⟨by simp_all, rfl⟩
set_option maxHeartbeats 2000000 in
theorem first_any (d : Dn) (ao : Option Addr) (cap : Nat) (w : World) :
    Calls Try.prog 7 #[dnV d ao cap] w fun e w' => e = .returned (ryV d.req.id 0 0 (fN d)) ∧ Below w.heap.size w w' := by
  unfold dnV ryV
  obtain ⟨⟨id, kd, ls, ho, tt, nw⟩, at'⟩ := d
  unfold fN
  rcases (show kd = 3 ∨ kd = 6 ∨ kd = 8 ∨ (kd ≠ 3 ∧ kd ≠ 6 ∧ kd ≠ 8) by omega) with rfl | rfl | rfl | ⟨h1, h2, h3⟩
  all_goals
    go_enter Try.func7, Try.ntmps7
    go_wp2_with fail
    refine bodyPost_ret (by simp [results, Try.results7, go_sem]; try rfl) rfl ?_
    exact ⟨by simp_all, (((Below.refl _ _).alloc (Nat.le_refl _) _).alloc (by simp) _).alloc (by simp; omega) _⟩
set_option maxHeartbeats 2000000 in
theorem rfirst_any (d : Dn) (ao : Option Addr) (cap : Nat) (w : World) :
    Calls Try.prog 8 #[dnV d ao cap] w fun e w' => e = .returned (ryV d.req.id 0 0 (fN d)) ∧ Below w.heap.size w w' := by
  unfold dnV ryV
  obtain ⟨⟨id, kd, ls, ho, tt, nw⟩, at'⟩ := d
  unfold fN
  rcases (show kd = 3 ∨ kd = 6 ∨ kd = 8 ∨ (kd ≠ 3 ∧ kd ≠ 6 ∧ kd ≠ 8) by omega) with rfl | rfl | rfl | ⟨h1, h2, h3⟩
  all_goals
    go_enter Try.func8, Try.ntmps8
    go_wp2_with (go_at_call 13; refine (hasTtl_any _ _).mono ?_; rintro e w' ⟨rfl, rfl⟩)
    refine bodyPost_ret (by simp [results, Try.results8, go_sem]; try rfl) rfl ?_
    exact ⟨by simp_all, (((Below.refl _ _).alloc (Nat.le_refl _) _).alloc (by simp) _).alloc (by simp; omega) _⟩
set_option maxHeartbeats 2000000 in
theorem sameReply_any (id : ByteArray) (e l n : Int) (w : World) :
    Calls Try.prog 6 #[ryV id e l n, ryV id e l n] w fun e w' => e = .returned (.bool true) ∧ Below w.heap.size w w' := by
  unfold ryV
  go_enter Try.func6, Try.ntmps6
  go_wp2_with fail
  go_rounds 1
  go_ret
  exact ⟨rfl, ((Below.refl _ _).alloc (Nat.le_refl _) _).alloc (by simp) _⟩
end Go.Proofs.Ythnbaekbbeckjaa
