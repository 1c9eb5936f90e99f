/-
  A string whose first element says no day: Parse, on that road.
-/
import Derived.Test.YtcenlpfanikdnaaDoorElemDay
namespace Go.Proofs.YtcenlpfanikdnaaDoor
open Go.RowKit
set_option maxRecDepth 100000

set_option maxHeartbeats 4000000 in
theorem parse_day (s : ByteArray) (w : World) (hkn : HasKn w) (hs : s.size = 8)
    (ha : ahK s.data.toList = some ([49, 53], 3)) (hd : ∀ i (hi : i < s.size), 2 ≤ i → isDB (s[i]'hi) = true) (hno : ¬ DayOk (yy (s.extract 2 8).data.toList) (mm (s.extract 2 8).data.toList) (dd (s.extract 2 8).data.toList)) :
    Calls Tryd.prog 15 #[.string s] w fun e w' => e = .returned (.tuple #[.slice none 0 0, .int .i64 28, .int .i64 2]) ∧ Below w.heap.size w w' := by
  obtain ⟨w1, hw1⟩ : ∃ w1, w1 = w.alloc (.cells #[.string s, .int .i64 0, .slice none 0 0, .slice none 0 0] 74) := ⟨_, rfl⟩
  have hb1 : Below w.heap.size w w1 := hw1 ▸ (Below.refl _ _).alloc (Nat.le_refl _) _
  have hn1 : w1.heap[w.heap.size]? = some (.cells #[.string s, .int .i64 0, .slice none 0 0, .slice none 0 0] 74 (0, 0)) := hw1 ▸ heap_alloc_new _ _
  have k1 : w1.cell? ⟨w.heap.size, 1, none⟩ = some (.int .i64 0) := by rw [Lib.cell_of_heap hn1]; rfl
  have HE : Hid (_) := element_day w.heap.size s w1 (hkn.below hb1) hs (by rw [Lib.cell_of_heap hn1]; rfl) k1 (by rw [Lib.cell_of_heap hn1]; rfl) ha hd hno
  have HB : Hid (_) := hb1
  have hz := hb1.size
  clear ha hd hno hkn hn1 hb1
  go_enter Tryd.func15, Tryd.ntmps15
  go_wp2_with fail
  rw [← hw1]
  clear hw1
  refine wp_loop_rounds 1 ?_
  rw [rounds_succ]
  go_wp2_with fail
  refine Calls.mono HE.out ?_
  rintro e w2 ⟨rfl, hb2⟩
  have HB2 : Hid (_) := HB.out.trans (hb2.mono hz)
  clear hb2 k1
  go_wp2
  go_ret3
  exact ⟨rfl, HB2.out⟩
end Go.Proofs.YtcenlpfanikdnaaDoor
