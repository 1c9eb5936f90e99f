/-
  StockWeighs: the law's own walk.
-/
import Derived.Test.YthnbaekbbeckjaaKw2
import Derived.Test.YthnbaekbbeckjaaKw3
import Derived.Deep.RegionHeld3
namespace Go.Proofs.Ythnbaekbbeckjaa
open Go.RowKit
set_option maxRecDepth 100000

set_option maxHeartbeats 8000000 in
theorem stockWeighs_any (s : Sx) (a1 : Option Addr) (p1 : Nat) (a2 : Option Addr) (p2 : Nat) (a3 : Option Addr) (p3 : Nat) (d : Dn) (ao : Option Addr) (cap : Nat) (w : World) (h1 : RLv w (.slice a1 s.levels.length p1) s.levels) (h2 : RHl w a2 s.holds) (h3 : RDn w a3 s.done) (l2 : s.holds.length ≤ 9223372036854775807) (l3 : s.done.length ≤ 9223372036854775807) :
    Calls Try.prog 3 #[sxV s a1 p1 a2 p2 a3 p3, dnV d ao cap] w fun e w' => e = .returned (.bool true) ∧ Below w.heap.size w w' := by
  obtain ⟨W, hW⟩ : ∃ W, (w.alloc (.cells #[.int .i64 s.room, .int .i64 s.lsn, .int .i64 s.now, .slice a1 s.levels.length p1, .slice a2 s.holds.length p2, .slice a3 s.done.length p3] 26)).alloc (.cells #[.string d.req.id, .int .i64 d.req.kind, .slice ao d.req.lines.length cap, .string d.req.hold, .int .i64 d.req.ttl, .int .i64 d.req.now, .int .i64 d.at'] 31) = W := ⟨_, rfl⟩
  have zW : W.heap.size = w.heap.size + 2 := by rw [← hW]; simp
  have BW := hid (show Below w.heap.size w W by rw [← hW]; exact ((Below.refl _ _).alloc (Nat.le_refl _) _).alloc (by simp) _)
  have H1 : W.heap[w.heap.size]? = some (.cells #[.int .i64 s.room, .int .i64 s.lsn, .int .i64 s.now, .slice a1 s.levels.length p1, .slice a2 s.holds.length p2, .slice a3 s.done.length p3] 26 (0, 0)) := by
    rw [← hW]
    exact (((Below.refl (w.alloc (.cells #[.int .i64 s.room, .int .i64 s.lsn, .int .i64 s.now, .slice a1 s.levels.length p1, .slice a2 s.holds.length p2, .slice a3 s.done.length p3] 26)).heap.size _).alloc (Nat.le_refl _) _).block w.heap.size (by simp)).trans (heap_alloc_new w _)
  have H2 : W.heap[w.heap.size + 1]? = some (.cells #[.string d.req.id, .int .i64 d.req.kind, .slice ao d.req.lines.length cap, .string d.req.hold, .int .i64 d.req.ttl, .int .i64 d.req.now, .int .i64 d.at'] 31 (0, 0)) := by
    rw [← hW]
    have := heap_alloc_new (w.alloc (.cells #[.int .i64 s.room, .int .i64 s.lsn, .int .i64 s.now, .slice a1 s.levels.length p1, .slice a2 s.holds.length p2, .slice a3 s.done.length p3] 26)) (.cells #[.string d.req.id, .int .i64 d.req.kind, .slice ao d.req.lines.length cap, .string d.req.hold, .int .i64 d.req.ttl, .int .i64 d.req.now, .int .i64 d.at'] 31)
    rw [World.size_alloc] at this
    exact this
  have K : ∀ wx, Below W.heap.size W wx → ((wx.cell? ⟨w.heap.size, 0, none⟩ = some (.int .i64 s.room) ∧ wx.cell? ⟨w.heap.size, 1, none⟩ = some (.int .i64 s.lsn) ∧ wx.cell? ⟨w.heap.size, 2, none⟩ = some (.int .i64 s.now) ∧ wx.cell? ⟨w.heap.size, 3, none⟩ = some (.slice a1 s.levels.length p1) ∧ wx.cell? ⟨w.heap.size, 4, none⟩ = some (.slice a2 s.holds.length p2) ∧ wx.cell? ⟨w.heap.size, 5, none⟩ = some (.slice a3 s.done.length p3)) ∧ wx.cell? ⟨w.heap.size + 1, 0, none⟩ = some (.string d.req.id) ∧ wx.cell? ⟨w.heap.size + 1, 1, none⟩ = some (.int .i64 d.req.kind) ∧ wx.cell? ⟨w.heap.size + 1, 2, none⟩ = some (.slice ao d.req.lines.length cap) ∧ wx.cell? ⟨w.heap.size + 1, 3, none⟩ = some (.string d.req.hold) ∧ wx.cell? ⟨w.heap.size + 1, 4, none⟩ = some (.int .i64 d.req.ttl) ∧ wx.cell? ⟨w.heap.size + 1, 5, none⟩ = some (.int .i64 d.req.now) ∧ wx.cell? ⟨w.heap.size + 1, 6, none⟩ = some (.int .i64 d.at')) := fun wx hb => by
    have hx := (hb.block w.heap.size (by omega)).trans H1
    have hy := (hb.block (w.heap.size + 1) (by omega)).trans H2
    exact ⟨⟨by rw [Lib.cell_of_heap hx]; rfl, by rw [Lib.cell_of_heap hx]; rfl, by rw [Lib.cell_of_heap hx]; rfl, by rw [Lib.cell_of_heap hx]; rfl, by rw [Lib.cell_of_heap hx]; rfl, by rw [Lib.cell_of_heap hx]; rfl⟩, by rw [Lib.cell_of_heap hy]; rfl, by rw [Lib.cell_of_heap hy]; rfl, by rw [Lib.cell_of_heap hy]; rfl, by rw [Lib.cell_of_heap hy]; rfl, by rw [Lib.cell_of_heap hy]; rfl, by rw [Lib.cell_of_heap hy]; rfl, by rw [Lib.cell_of_heap hy]; rfl⟩
  have HK := hid K
  have CW := hid (fun (wx : World) (hb : Below W.heap.size W wx) => (weight_any s a1 p1 a2 p2 a3 p3 wx ((h1.below BW.out).below hb) ((h2.below BW.out).below hb) ((h3.below BW.out).below hb) l2 l3).mono fun e w' g => (show e = .returned (.int .i64 (wrap64 (xs s : Nat))) ∧ Below W.heap.size W w' from ⟨g.1, hb.trans (g.2.mono hb.size)⟩))
  have CR := hid (fun (wx : World) (hb : Below W.heap.size W wx) => (rweight_any s a1 p1 a2 p2 a3 p3 wx ((h1.below BW.out).below hb) ((h2.below BW.out).below hb) ((h3.below BW.out).below hb) l2 l3).mono fun e w' g => (show e = .returned (.int .i64 (wrap64 (xs s : Nat))) ∧ Below W.heap.size W w' from ⟨g.1, hb.trans (g.2.mono hb.size)⟩))
  have CF := hid (fun (wx : World) (hb : Below W.heap.size W wx) => (first_any d ao cap wx).mono fun e w' g => (show e = .returned (ryV d.req.id 0 0 (fN d)) ∧ Below W.heap.size W w' from ⟨g.1, hb.trans (g.2.mono hb.size)⟩))
  have CG := hid (fun (wx : World) (hb : Below W.heap.size W wx) => (rfirst_any d ao cap wx).mono fun e w' g => (show e = .returned (ryV d.req.id 0 0 (fN d)) ∧ Below W.heap.size W w' from ⟨g.1, hb.trans (g.2.mono hb.size)⟩))
  have CS := hid (fun (wx : World) (hb : Below W.heap.size W wx) => (sameReply_any d.req.id 0 0 (fN d) wx).mono fun e w' g => (show e = .returned (.bool true) ∧ Below W.heap.size W w' from ⟨g.1, hb.trans (g.2.mono hb.size)⟩))
  unfold sxV at CW CR
  unfold dnV at CF CG
  unfold ryV at CF CG CS
  unfold sxV dnV
  generalize wrap64 ((xs s : Nat) : Int) = ws at *
  generalize fN d = fn at *
  have s00 : Below W.heap.size W W := Below.refl _ _
  have s0 : Below W.heap.size W W.drew := (Below.refl _ _).drew
  have HW := hid hW
  clear h1 h2 h3 H1 H2 K hW
  go_enter Try.func3, Try.ntmps3
  go_wp2_with fail
  rw [HW.out]
  clear HW
  go_region_held3 (fun wx => ((wx.cell? ⟨w.heap.size, 0, none⟩ = some (.int .i64 s.room) ∧ wx.cell? ⟨w.heap.size, 1, none⟩ = some (.int .i64 s.lsn) ∧ wx.cell? ⟨w.heap.size, 2, none⟩ = some (.int .i64 s.now) ∧ wx.cell? ⟨w.heap.size, 3, none⟩ = some (.slice a1 s.levels.length p1) ∧ wx.cell? ⟨w.heap.size, 4, none⟩ = some (.slice a2 s.holds.length p2) ∧ wx.cell? ⟨w.heap.size, 5, none⟩ = some (.slice a3 s.done.length p3)) ∧ wx.cell? ⟨w.heap.size + 1, 0, none⟩ = some (.string d.req.id) ∧ wx.cell? ⟨w.heap.size + 1, 1, none⟩ = some (.int .i64 d.req.kind) ∧ wx.cell? ⟨w.heap.size + 1, 2, none⟩ = some (.slice ao d.req.lines.length cap) ∧ wx.cell? ⟨w.heap.size + 1, 3, none⟩ = some (.string d.req.hold) ∧ wx.cell? ⟨w.heap.size + 1, 4, none⟩ = some (.int .i64 d.req.ttl) ∧ wx.cell? ⟨w.heap.size + 1, 5, none⟩ = some (.int .i64 d.req.now) ∧ wx.cell? ⟨w.heap.size + 1, 6, none⟩ = some (.int .i64 d.at'))) (exact HK.out _ (by assumption)) (first
    | (go_at_call 4; refine (CW.out _ (by assumption)).mono ?_; rintro e w3 ⟨rfl, s3⟩)
    | (go_at_call 5; refine (CR.out _ (by assumption)).mono ?_; rintro e w4 ⟨rfl, s4⟩)
    | (go_at_call 7; refine (CF.out _ (by assumption)).mono ?_; rintro e w5 ⟨rfl, s5⟩)
    | (go_at_call 8; refine (CG.out _ (by assumption)).mono ?_; rintro e w6 ⟨rfl, s6⟩)
    | (go_at_call 6; refine (CS.out _ (by assumption)).mono ?_; rintro e w7 ⟨rfl, s7⟩))
  all_goals
    go_wp2
    go_ret
    exact ⟨rfl, BW.out.trans (s7.mono (by omega))⟩
end Go.Proofs.Ythnbaekbbeckjaa
