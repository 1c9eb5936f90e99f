/-
  wheel: a name hung into an empty slot; sorting of one deadline; a slot without names falls.
-/
import Derived.Test.YtffmlnocednehaaWh2
import Derived.Handy
import Derived.WalkMore
namespace Go.Proofs.Ytffmlnocednehaa
open Go.RowKit
set_option maxRecDepth 100000

set_option maxHeartbeats 1000000 in
theorem hang_five (g t : Nat) (a b : Value) (w : World) (hne : t ≠ g) (hn : w.cell? ⟨g, 0, none⟩ = some (.int .i64 0)) (ha : w.cell? ⟨t, 1, none⟩ = some (.int .i64 5)) (hc : w.cell? ⟨g, 6, none⟩ = some (.pointer none)) (hf : w.frozen? ⟨g, 6, none⟩ = false) (h2 : w.cell? ⟨t, 2, none⟩ = some a) (f2 : w.frozen? ⟨t, 2, none⟩ = false) (h3 : w.cell? ⟨t, 3, none⟩ = some b) (f3 : w.frozen? ⟨t, 3, none⟩ = false) :
    Calls Try.prog 35 #[.pointer (some ⟨g, 0, none⟩), .pointer (some ⟨t, 0, none⟩)] w fun e w' => e = .returned (.tuple #[]) ∧ w' = ((w.drew.drew.setCell ⟨t, 2, none⟩ (.pointer none)).setCell ⟨t, 3, none⟩ (.pointer none)).setCell ⟨g, 6, none⟩ (.pointer (some ⟨t, 0, none⟩)) := by
  have KN : ∀ wx : World, wx.heap = w.heap → wx.cell? ⟨g, 0, none⟩ = some (.int .i64 0) ∧ wx.cell? ⟨t, 1, none⟩ = some (.int .i64 5) := fun wx hx => by
    unfold World.cell? at hn ha ⊢
    rw [hx]
    exact ⟨hn, ha⟩
  have HK := hid KN
  have s0 : w.drew.heap = w.heap := rfl
  have s1 : w.drew.drew.heap = w.heap := rfl
  have HP := hid (put_empty g 1 5 t a b w.drew.drew (by omega) hne hc hf h2 f2 h3 f3)
  have HL := hid (show (((w.drew.drew.setCell ⟨t, 2, none⟩ (.pointer none)).setCell ⟨t, 3, none⟩ (.pointer none)).setCell ⟨g, 1 + 5, none⟩ (.pointer (some ⟨t, 0, none⟩))).cell? ⟨t, 1, none⟩ = some (.int .i64 5) by simp [go_sem, ha])
  clear KN hc hf h2 f2 h3 f3
  go_enter Try.func35, Try.ntmps35
  go_upto_region 0 with fail
  go_cut [4] from 5 to 14 (fun v9 wx => v9 = .int .i64 0 ∧ wx = w.drew)
  case first =>
    go_region_held3 (fun wx => wx.cell? ⟨g, 0, none⟩ = some (.int .i64 0) ∧ wx.cell? ⟨t, 1, none⟩ = some (.int .i64 5)) (exact HK.out _ (by first | assumption | rfl)) (first
      | (go_at_call 37; refine (apart_50 _).mono ?_; rintro e w1 ⟨rfl, rfl⟩))
    all_goals (go_wp2_with fail; go_meet; exact ⟨rfl, rfl⟩)
  case rest =>
    obtain ⟨rfl, hwc⟩ := hcut
    subst hwc
    go_upto_region 1 with fail
    go_region_held3 (fun wx => wx.cell? ⟨t, 1, none⟩ = some (.int .i64 5)) (first | exact (HK.out _ (by first | assumption | rfl)).2 | exact HL.out) (first
      | (go_at_call 39; refine (digit_five _).mono ?_; rintro e w1 ⟨rfl, rfl⟩)
      | (go_at_call 46; refine (HP.out).mono ?_; rintro e w2 ⟨rfl, rfl⟩))
    all_goals
      go_wp2
      go_end0
      exact ⟨rfl, rfl⟩
theorem fall_none (g k : Nat) (w : World) (hk : k < 64) (hc : w.cell? ⟨g, 1 + k, none⟩ = some (.pointer none)) (hf : w.frozen? ⟨g, 1 + k, none⟩ = false) :
    Calls Try.prog 38 #[.pointer (some ⟨g, 0, none⟩), .int .i64 0, .int .i64 (k : Int)] w fun e w' => e = .returned (.slice none 0 0) ∧ w' = w.setCell ⟨g, 1 + k, none⟩ (.pointer none) := by
  have HE := hid (empty_any g 1 k none w hk hc hf)
  clear hc hf
  go_enter Try.func38, Try.ntmps38
  go_wp2_with fail
  try go_step3
  go_wp2_with fail
  try go_step3
  go_wp2_with fail
  refine Calls.mono HE.out ?_
  rintro e w1 ⟨rfl, rfl⟩
  go_wp2_with fail
  go_rounds 1
  go_wp2
  rw [Exit.noGoto_ret]
  subst_vars
  go_ret
  exact ⟨rfl, rfl⟩
theorem insert_few (v : Value) (n : Int) (f : Value) (w : World) (h0 : 0 ≤ n) (h1 : n ≤ 1) : Calls Try.prog 48 #[v, .int .i64 0, .int .i64 n, f] w fun e w' => e = .returned (.tuple #[]) ∧ w' = w := by
  have hI : ¬ (1 : Int) < n := by omega
  go_enter Try.func48, Try.ntmps48
  go_wp2_with fail
  go_rounds 1
  go_end0
  exact ⟨rfl, rfl⟩
end Go.Proofs.Ytffmlnocednehaa
