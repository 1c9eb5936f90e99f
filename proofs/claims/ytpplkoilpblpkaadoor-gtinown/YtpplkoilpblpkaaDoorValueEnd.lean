/-
  Where a Value ends: valueEnd, for Values of known length.
-/
import Derived.Test.YtpplkoilpblpkaaDoorPlainEnd
import Derived.Test.YtpplkoilpblpkaaDoorLater
import Derived.Deep.CutRange
import Derived.Deep.RegionWith
import Derived.Deep.RegionHeld
import Derived.Deep.DrawnRows
namespace Go.Proofs.YtpplkoilpblpkaaDoor
open Go.RowKit
set_option maxRecDepth 100000

theorem peV_tuple (l : List UInt8) (fr most : Nat) : ∃ x y z : Int, peV l fr most = .tuple #[.int .i64 x, .int .i64 y, .int .i64 z] := by
  unfold peV
  split
  · exact ⟨_, _, _, rfl⟩
  · split
    · exact ⟨_, _, _, rfl⟩
    · exact ⟨_, _, _, rfl⟩

set_option maxHeartbeats 4000000 in
theorem valueEnd_D (b : Nat) (s : ByteArray) (fr least most : Nat) (g : Nat) (w : World) (hs : s.size ≤ 1000000) (hf : fr ≤ s.size) (hm : most ≤ 1000) (c0 : w.cell? ⟨b, 0, none⟩ = some (.string s)) :
    Calls Tryd.prog 35 #[.pointer (some ⟨b, 0, none⟩), frm least most true 47 g, .int .i64 (fr : Int)] w fun e w' => e = .returned (peV s.data.toList fr most) ∧ Below w.heap.size w w' := by
  obtain ⟨w1, hw1⟩ : ∃ w1, w1 = w.alloc (.cells #[.int .i64 (least : Int), .int .i64 (most : Int), .bool true, .func (.func 47) #[] #[], .func (.func g) #[] #[]] 79) := ⟨_, rfl⟩
  have hb1 : Below w.heap.size w w1 := hw1 ▸ (Below.refl _ _).alloc (Nat.le_refl _) _
  have hn1 : w1.heap[w.heap.size]? = some (.cells #[.int .i64 (least : Int), .int .i64 (most : Int), .bool true, .func (.func 47) #[] #[], .func (.func g) #[] #[]] 79 (0, 0)) := hw1 ▸ heap_alloc_new _ _
  have hz1 : w.heap.size < w1.heap.size := by rw [hw1]; simp
  have cb := below_cells hb1 _ _ c0
  have k0 : w1.cell? ⟨w.heap.size, 0, none⟩ = some (.int .i64 (least : Int)) := by rw [Lib.cell_of_heap hn1]; rfl
  have k1 : w1.cell? ⟨w.heap.size, 1, none⟩ = some (.int .i64 (most : Int)) := by rw [Lib.cell_of_heap hn1]; rfl
  have k2 : w1.cell? ⟨w.heap.size, 2, none⟩ = some (.bool true) := by rw [Lib.cell_of_heap hn1]; rfl
  have k3 : w1.cell? ⟨w.heap.size, 3, none⟩ = some (.func (.func 47) #[] #[]) := by rw [Lib.cell_of_heap hn1]; rfl
  have k4 : w1.cell? ⟨w.heap.size, 4, none⟩ = some (.func (.func g) #[] #[]) := by rw [Lib.cell_of_heap hn1]; rfl
  have cc : ∀ wx, Later w1 wx → wx.cell? ⟨b, 0, none⟩ = some (.string s) ∧ wx.cell? ⟨w.heap.size, 0, none⟩ = some (.int .i64 (least : Int)) ∧ wx.cell? ⟨w.heap.size, 1, none⟩ = some (.int .i64 (most : Int)) ∧ wx.cell? ⟨w.heap.size, 2, none⟩ = some (.bool true) ∧ wx.cell? ⟨w.heap.size, 3, none⟩ = some (.func (.func 47) #[] #[]) ∧ wx.cell? ⟨w.heap.size, 4, none⟩ = some (.func (.func g) #[] #[]) := fun wx h => ⟨below_cells h _ _ cb, below_cells h _ _ k0, below_cells h _ _ k1, below_cells h _ _ k2, below_cells h _ _ k3, below_cells h _ _ k4⟩
  have HC : Hid (_) := cc
  have HP : Hid (∀ wx, Later w1 wx → Calls Tryd.prog 51 #[.string s, .int .i64 (fr : Int), .agg #[.int .i64 (least : Int), .int .i64 (most : Int), .bool true, .func (.func 47) #[] #[], .func (.func g) #[] #[]]] wx fun e w' => e = .returned (peV s.data.toList fr most) ∧ Later w1 w') := fun wx h => (plainEnd_D s fr least most true g wx hs hf hm).mono fun e w' h2 => ⟨h2.1, h.trans (h2.2.mono h.size)⟩
  obtain ⟨x, y, z, hpe⟩ := peV_tuple s.data.toList fr most
  rw [hpe] at HP ⊢
  clear hpe hs hf hm hn1 cc
  have HB1 : Hid (_) := hb1
  have hl1 : Later w1 w1.drew := (Below.refl _ _).drew
  unfold frm
  go_enter Tryd.func35, Tryd.ntmps35
  go_upto_region 2 with fail
  rw [← hw1]
  clear hw1 c0
  go_region_with ((go_at_call 51; refine (HP.out _ (by first | assumption | exact hl1)).mono ?_; rintro e w3 ⟨rfl, s3⟩))
  all_goals
    go_wp2
    go_ret3
    exact ⟨rfl, HB1.out.trans (s3.mono (Nat.le_of_lt hz1))⟩
end Go.Proofs.YtpplkoilpblpkaaDoor
