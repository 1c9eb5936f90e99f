/-
  stock: From of a new ledger's state.
-/
import Derived.Test.YtdodockemkmmpaaGreatNw8d
import Derived.Deep.CutRange
namespace Go.Proofs.YtdodockemkmmpaaGreat
open Go.RowKit
set_option maxRecDepth 100000

set_option maxHeartbeats 16000000 in
theorem from0_any (room : Int) (L : List Lv) (v : Value) (w : World) (h : RLv w v L) (hL : LOk L) (hr : 0 ≤ room ∧ room ≤ 131072) (hx : ((64 + xv L : Nat) : Int) ≤ room) :
    Calls Tryz.prog 21 #[s0V room v] w fun e w' => (∃ l, e = .returned (.tuple #[.pointer (some ⟨l, 0, none⟩), .int .i64 0]) ∧ LD0 w' l room ((64 + xv L : Nat) : Int) L) ∧ Below w.heap.size w w' := by
  obtain ⟨a1, p1, hv⟩ := h.form
  unfold s0V
  obtain ⟨W, hW, hS, bW, zW⟩ := sb_new w room v
  have HS := hid hS
  have BW := hid bW
  have HR := hid h
  have C1 := hid (sound0_any room L v W (h.below bW) hL hr hx)
  have CW := hid (fun wx (hb : LtB W wx) => weight0_any room L v wx (h.below (bW.trans (Below.mono hb (by omega)))) (by omega))
  subst hv
  have CC := hid (fun wx (hb : LtB W wx) => copiedLv_any a1 p1 L wx (h.below (bW.trans (Below.mono hb (by omega)))) (by have := hL.2.1; omega) hL.1)
  unfold s0V at C1 CW
  obtain ⟨c0, c1, c2, c3, c4, c5⟩ := hS.cells
  have ZW := hid zW
  have HW := hid hW
  have HL := hid hL
  generalize ((64 + xv L : Nat) : Int) = n at *
  clear h hS bW zW hL hr hx
  go_enter Tryz.func21, Tryz.ntmps21
  go_wp2_with fail
  try rw [HW.out]
  refine C1.out.mono ?_
  rintro e w1 ⟨rfl, hb1⟩
  have B1 := hid hb1
  obtain ⟨d0, d1, d2, d3, d4, d5⟩ := (HS.out.later hb1).cells
  clear c0 c1 c2 c3 c4 c5 hb1 C1 hW
  go_wp2_with fail
  refine (new_zero w1).mono ?_
  rintro e w2 ⟨rfl, hw2⟩
  have b2 : Below w1.heap.size w1 w2 := by rw [hw2]; exact (Below.refl _ _).alloc (Nat.le_refl _) _
  have B2 := hid (bel_step B1.out b2)
  have HWh := hid (show Hb w2 w1.heap.size (.cells (whR 0 noR (.map none)) 99 (0, 0)) by rw [hw2]; exact heap_alloc_new w1 _)
  have HK := hid (fun wx (hb : LtB W wx) => (HS.out.later hb).cells)
  have s00 : LtB W w2 := B2.out
  have s0 : LtB W w2.drew := B2.out.drew
  have hmm := @run_makeMap Tryz.prog
  clear d0 d1 d2 d3 d4 d5 hw2 b2
  go_wp2_with fail
  go_cut [6] from 20 to 33 (fun p wx => ∃ l, p = .pointer (some ⟨l, 0, none⟩) ∧ LD0 wx l room n L ∧ LtB W wx)
  case first =>
    go_region_held3 (fun wx => wx.cell? ⟨w.heap.size, 0, none⟩ = some (.int .i64 room) ∧ wx.cell? ⟨w.heap.size, 1, none⟩ = some (.int .i64 0) ∧ wx.cell? ⟨w.heap.size, 2, none⟩ = some (.int .i64 0) ∧ wx.cell? ⟨w.heap.size, 3, none⟩ = some (.slice a1 L.length p1) ∧ wx.cell? ⟨w.heap.size, 4, none⟩ = some (.slice none 0 0) ∧ wx.cell? ⟨w.heap.size, 5, none⟩ = some (.slice none 0 0)) ((refine HK.out _ ?_; repeat (first | assumption | refine LtB.alloc ?_ _ | refine LtB.drew ?_))) (first
      | (go_at_call 20; refine (CW.out _ ?_).mono ?_; (repeat (first | assumption | refine LtB.alloc ?_ _ | refine LtB.drew ?_)); rintro e w3 ⟨rfl, s3⟩; have s4 : LtB W w3 := by (refine LtB.step ?_ s3; repeat (first | assumption | refine LtB.alloc ?_ _ | refine LtB.drew ?_)))
      | (go_at_call 27; refine (CC.out _ ?_).mono ?_; (repeat (first | assumption | refine LtB.alloc ?_ _ | refine LtB.drew ?_)); rintro e w5 ⟨rfl, h5, z5, s5⟩; have h5' : Hb w5 _ _ := h5; (try simp only [World.size_alloc] at h5'); clear h5 z5; have s6 : LtB W w5 := by (refine LtB.step ?_ s5; repeat (first | assumption | refine LtB.alloc ?_ _ | refine LtB.drew ?_))))
    all_goals
      go_wp2_with fail
      go_meet
      refine ⟨_, rfl, ⟨_, _, _, _, Hb.new' _ _ ?_, ?_, ?_, ?_, ?_⟩, ?_⟩
      · simp
      · repeat (first | exact h5' | refine Hb.later ?_ s3 | refine Hb.later ?_ s5 | refine Hb.drew ?_ | refine Hb.alloc ?_ _)
      · repeat (first | refine Hb.later ?_ s3 | refine Hb.later ?_ s5 | refine Hb.drew ?_ | (refine Hb.new' _ _ ?_; simp; done) | refine Hb.alloc ?_ _)
      · repeat (first | exact HWh.out | refine Hb.later ?_ s3 | refine Hb.later ?_ s5 | refine Hb.drew ?_ | refine Hb.alloc ?_ _)
      · repeat (first | refine Hb.later ?_ s3 | refine Hb.later ?_ s5 | refine Hb.drew ?_ | (refine Hb.new' _ _ ?_; simp; done) | refine Hb.alloc ?_ _)
      · repeat (first | assumption | refine LtB.alloc ?_ _ | refine LtB.drew ?_)
  case rest =>
    obtain ⟨l, rfl, hld, hlt⟩ := hcut
    obtain ⟨d0, d1, d2, d3, d4, d5⟩ := HK.out _ hlt
    have HLD := hid hld
    have B5 := hid (BW.out.trans (Below.mono hlt (by have := ZW.out; omega)))
    clear hld hlt
    go_wp2_with fail
    go_rounds 1
    go_rounds 1
    go_ret2
    exact ⟨⟨_, rfl, HLD.out⟩, B5.out⟩
end Go.Proofs.YtdodockemkmmpaaGreat
