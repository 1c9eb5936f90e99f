/-
  FromWeek, of a week that may be.
-/
import Derived.Test.YtjpglgemnaknhaaGreatDoorCfwb
namespace Go.Proofs.YtjpglgemnaknhaaGreatDoor
open Go.RowKit
set_option maxRecDepth 100000

/-- nothing old has turned -/
def LaterB (w w' : World) : Prop := Below w.heap.size w w'

/-- Of's answer -/
def ofV (n : Int) : Value := if 0 ≤ n ∧ n ≤ 3652424 then .tuple #[dV (dY n) (dM n) (dD n), .int .i64 0] else .tuple #[dV 0 0 0, .int .i64 35]

theorem of_any (n : Int) (w : World) (hA : HasAh w) :
    Calls Tryz.prog 13 #[.int .i64 n] w fun e w' => e = .returned (ofV n) ∧ Below w.heap.size w w' := by
  unfold ofV
  by_cases h : 0 ≤ n ∧ n ≤ 3652424
  · rw [if_pos h]; exact of_good n h.1 h.2 w hA
  · rw [if_neg h]; exact of_bad n (by omega) w

theorem ofV_is (n : Int) : ∃ y m d e : Int, ofV n = .tuple #[dV y m d, .int .i64 e] := by
  unfold ofV
  by_cases h : 0 ≤ n ∧ n ≤ 3652424
  · rw [if_pos h]; exact ⟨_, _, _, _, rfl⟩
  · rw [if_neg h]; exact ⟨_, _, _, _, rfl⟩

set_option maxHeartbeats 1000000 in
theorem fromWeek_good (y k d : Int) (h : OkW y k d) (w : World) (hA : HasAh w) :
    Calls Tryz.prog 49 #[dV y k d] w fun e w' => e = .returned (ofV (wkD y k d)) ∧ Below w.heap.size w w' := by
  obtain ⟨h1, h2, h3, h4, h5, h6⟩ := h
  have HN := hid (fun w => yearWeeks_any y (by omega) (by omega) w)
  have HS := hid (fun w => weekStart_any y (by omega) (by omega) w)
  have hwn := wkN_is y
  have hwd : wkS y + 7 * (k - 1) + d - 1 = wkD y k d := rfl
  have hnear := wkS_near y
  have hyb := ys_bounds y (by omega) (by omega)
  have HO := hid (fun w hA => of_any (wkD y k d) w hA)
  have HA := hid hA
  obtain ⟨y1, m1, d1, e1, hof⟩ := ofV_is (wkD y k d)
  rw [hof] at HO ⊢
  have hb1 : -1000 ≤ wkS y ∧ wkS y ≤ 4000000 := by omega
  have hb2 : 1 ≤ k ∧ k ≤ 53 := by omega
  have b1 : decide (y < -1) = false := decide_eq_false (by omega)
  have b2 : decide (9999 < y) = false := decide_eq_false (by omega)
  have b3 : decide (k < 1) = false := decide_eq_false (by omega)
  have b4 : decide (wkN y < k) = false := decide_eq_false (by omega)
  have b5 : decide (d < 1) = false := decide_eq_false (by omega)
  have b6 : decide (7 < d) = false := decide_eq_false (by omega)
  clear hof hwn hnear hyb h1 h2 h4 hA
  generalize wkD y k d = n at *
  generalize wkS y = s at *
  generalize wkN y = c at *
  unfold dV at *
  go_enter Tryz.func49, Tryz.ntmps49
  go_wp2_with fail
  go_quiet (first
    | (go_at_call 47; exact Calls.quiet_of_same (HN.out _)))
  clear b1 b2 b3 b4 b5 b6 HN
  go_upto_region 3 with fail
  have hA1 : HasAh (World.drewN ((w.alloc (.cells #[.int .i64 y, .int .i64 k, .int .i64 d] 69)).alloc (.cells #[.int .i64 0, .int .i64 0, .int .i64 0] 28)) nq) := ((HA.out.alloc _).alloc _).drewN nq
  have hW1 : WBox (World.drewN ((w.alloc (.cells #[.int .i64 y, .int .i64 k, .int .i64 d] 69)).alloc (.cells #[.int .i64 0, .int .i64 0, .int .i64 0] 28)) nq) w.heap.size y k d := (WBox.new w y k d).later1 (below_drewN (Below.refl _ _) nq)
  have hD1 : Box (World.drewN ((w.alloc (.cells #[.int .i64 y, .int .i64 k, .int .i64 d] 69)).alloc (.cells #[.int .i64 0, .int .i64 0, .int .i64 0] 28)) nq) (w.heap.size + 1) 0 0 0 := by
    have h := (Box.new (w.alloc (.cells #[.int .i64 y, .int .i64 k, .int .i64 d] 69)) 0 0 0).later (below_drewN (Below.refl _ _) nq)
    simpa using h
  have hB1 : Below w.heap.size w (World.drewN ((w.alloc (.cells #[.int .i64 y, .int .i64 k, .int .i64 d] 69)).alloc (.cells #[.int .i64 0, .int .i64 0, .int .i64 0] 28)) nq) := below_drewN (((Below.refl _ _).alloc (Nat.le_refl _) _).alloc (by simp) _) nq
  generalize World.drewN ((w.alloc (.cells #[.int .i64 y, .int .i64 k, .int .i64 d] 69)).alloc (.cells #[.int .i64 0, .int .i64 0, .int .i64 0] 28)) nq = w1 at *
  have HA1 := hid (hA1.below ((Below.refl _ _).drew))
  have HD1 := hid hD1
  have cc : ∀ wx, LaterB w1 wx → wx.cell? ⟨w.heap.size, 0, none⟩ = some (.int .i64 y) ∧ wx.cell? ⟨w.heap.size, 1, none⟩ = some (.int .i64 k) ∧ wx.cell? ⟨w.heap.size, 2, none⟩ = some (.int .i64 d) := fun wx hx => by
    obtain ⟨c0, c1, c2, _⟩ := (hW1.later hx).facts
    exact ⟨c0, c1, c2⟩
  have CC := hid cc
  have s0 : LaterB w1 w1.drew := (Below.refl _ _).drew
  have r1 : IntKind.i64.wrap (k - 1) = k - 1 := by rw [IntKind.wrap_i64]; omega
  have r2 : IntKind.i64.wrap (7 * (k - 1)) = 7 * (k - 1) := by rw [IntKind.wrap_i64]; omega
  have r3 : IntKind.i64.wrap (s + 7 * (k - 1)) = s + 7 * (k - 1) := by rw [IntKind.wrap_i64]; omega
  have r4 : IntKind.i64.wrap (s + 7 * (k - 1) + d) = s + 7 * (k - 1) + d := by rw [IntKind.wrap_i64]; omega
  have r5 : IntKind.i64.wrap (s + 7 * (k - 1) + d - 1) = n := by rw [IntKind.wrap_i64]; omega
  have r6 : IntKind.i64.wrap n = n := by rw [IntKind.wrap_i64]; omega
  clear hA1 hW1 hD1 HA cc
  first | go_region_held (fun wx => wx.cell? ⟨w.heap.size, 0, none⟩ = some (.int .i64 y) ∧ wx.cell? ⟨w.heap.size, 1, none⟩ = some (.int .i64 k) ∧ wx.cell? ⟨w.heap.size, 2, none⟩ = some (.int .i64 d)) (first | exact CC.out _ (by assumption) | go_keep) (first
    | (go_at_call 72; refine (HS.out _).mono ?_; rintro e w2 ⟨rfl, rfl⟩)
    | (go_at_call 13; refine (HO.out _ HA1.out).mono ?_; rintro e w3 ⟨rfl, hb3⟩; have s3 : LaterB w1 w3 := Below.trans s0 hb3; obtain ⟨c0, c1, c2⟩ := CC.out _ s3; obtain ⟨g0, g1, g2, f0, f1, f2, gz⟩ := (HD1.out.later s3).facts)) | fail
  all_goals (obtain ⟨q0, q1, q2, _⟩ := ((HD1.out.later s3).put y1 m1 d1).facts)
  all_goals (go_wp2)
  all_goals (refine bodyPost_ret (by simp [results, Tryz.results49, go_sem, q0, q1, q2]; try rfl) rfl ?_)
  all_goals (exact ⟨rfl, (((hB1.trans (Below.mono s3 hB1.size)).setCell (by simp) _).setCell (by simp) _).setCell (by simp) _⟩)
end Go.Proofs.YtjpglgemnaknhaaGreatDoor
