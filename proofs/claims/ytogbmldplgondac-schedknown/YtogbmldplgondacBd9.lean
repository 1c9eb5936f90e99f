/-
  A board: Finish, and Block of a handler that is not ready.
-/
import Derived.Test.YtogbmldplgondacBd5
namespace Go.Proofs.Ytogbmldplgondac
open Go.RowKit Go.Maps
set_option maxRecDepth 100000
attribute [local go_sem ↓] mkh_op

set_option maxHeartbeats 1000000 in
theorem finish_yes (i : Nat) (w : World) {base d hb mb N : Nat} {S : List Hd} {p : Int} {M : Int → Value} {L : Int → List Int} (H : BD w base d hb mb N S p M L) (hi : i < S.length) (hr : nRd S (i : Int) = 0) :
    Calls Try.prog 21 #[.pointer (some ⟨d, 0, none⟩), .int .i64 (i : Int)] w fun e w' => e = .returned (.int .i64 0) ∧ BD w' base d hb mb N (S.set i (0, 0, 0)) p M L ∧ Kb d hb mb M w w' := by
  have HR := hid (notReady_any (i : Int) w H)
  rw [hr] at HR
  obtain ⟨c0, _, _, _⟩ := H.cells
  obtain ⟨a1, a2, a3, a4⟩ := H.hand i hi
  have f1 := a4 (i * 3)
  have f2 := a4 (i * 3 + 1)
  have f3 := a4 (i * 3 + 2)
  have HP := hid (H.turn i hi (0, 0, 0))
  have hI : (i : Int) < (S.length : Int) := by omega
  generalize S[i].1 = x1 at a1
  generalize S[i].2.1 = x2 at a2
  generalize S[i].2.2 = x3 at a3
  clear H a4 hr
  go_enter Try.func21, Try.ntmps21
  go_wp2_with (go_at_call 55; refine HR.out.mono ?_; rintro e w3 ⟨rfl, rfl⟩)
  go_ret
  first
    | exact ⟨rfl, HP.out.1, HP.out.2⟩
    | exact ⟨rfl, HP.out.1.drew, HP.out.2.trans (Kb.drew _ _ _ _ _)⟩

set_option maxHeartbeats 1000000 in
theorem finish_no (h : Int) (w : World) {base d hb mb N : Nat} {S : List Hd} {p : Int} {M : Int → Value} {L : Int → List Int} (H : BD w base d hb mb N S p M L) (hr : nRd S h ≠ 0) :
    Calls Try.prog 21 #[.pointer (some ⟨d, 0, none⟩), .int .i64 h] w fun e w' => e = .returned (.int .i64 (nRd S h)) ∧ w' = w := by
  have HR := hid (notReady_any h w H)
  have hb0 : (nRd S h == 0) = false := by simp [hr]
  generalize nRd S h = y at *
  clear H hr
  go_enter Try.func21, Try.ntmps21
  go_wp2_with (go_at_call 55; refine HR.out.mono ?_; rintro e w3 ⟨rfl, rfl⟩)
  go_ret
  exact ⟨rfl, rfl⟩

set_option maxHeartbeats 1000000 in
theorem block_no (h on : Int) (w : World) {base d hb mb N : Nat} {S : List Hd} {p : Int} {M : Int → Value} {L : Int → List Int} (H : BD w base d hb mb N S p M L) (hr : nRd S h ≠ 0) :
    Calls Try.prog 20 #[.pointer (some ⟨d, 0, none⟩), .int .i64 h, .int .i64 on] w fun e w' => e = .returned (.int .i64 (nRd S h)) ∧ w' = w := by
  have HR := hid (notReady_any h w H)
  have hb0 : (nRd S h == 0) = false := by simp [hr]
  generalize nRd S h = y at *
  clear H hr
  go_enter Try.func20, Try.ntmps20
  go_wp2_with (go_at_call 55; refine HR.out.mono ?_; rintro e w3 ⟨rfl, rfl⟩)
  go_ret
  exact ⟨rfl, rfl⟩
end Go.Proofs.Ytogbmldplgondac
