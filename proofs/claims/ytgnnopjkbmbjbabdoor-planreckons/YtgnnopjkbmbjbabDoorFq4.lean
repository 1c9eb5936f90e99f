/-
  The law's quarters, numbers, ints, number: of the same.
-/
import Derived.Test.YtgnnopjkbmbjbabDoorFq3n
import Derived.Test.YtgnnopjkbmbjbabDoorFs4
import Derived.Deep.RegionHeld3
namespace Go.Proofs.YtgnnopjkbmbjbabDoor
open Go.RowKit
set_option maxRecDepth 100000
set_option linter.unusedSimpArgs false

theorem number_same (a : Nat) (h : nanB a = false) (w : World) : Calls Tryd.prog 11 #[.float .f64 a, .float .f64 a] w fun e w' => e = .returned (.bool true) ∧ w' = w := by
  have h1 : (FloatKind.f64.format.order a a == some .eq) = true := by rw [show FloatKind.f64.format.order a a = some .eq from order_self h]; rfl
  clear h
  go_enter Tryd.func11, Tryd.ntmps11
  go_wp2
  go_ret
  exact ⟨rfl, rfl⟩
set_option maxHeartbeats 2000000 in
theorem numbers_same (va vb : Value) (L : List Nat) (w : World) (ha : RL eF 1 w va L) (hb : RL eF 1 w vb L) (hn : ∀ x ∈ L, nanB x = false) (hl : (L.length : Int) ≤ 9223372036854775806) :
    Calls Tryd.prog 12 #[va, vb] w fun e w' => e = .returned (.bool true) ∧ Below w.heap.size w w' := by
  have HA := hid ha
  have HB := hid hb
  have HN := hid hn
  obtain ⟨ao, ca, rfl⟩ := ha.len0
  obtain ⟨bo, cb, rfl⟩ := hb.len0
  clear ha hb hn
  go_enter Tryd.func12, Tryd.ntmps12
  go_wp2_with fail
  go_loopw [5] (fun i wr => ∃ k : Nat, k ≤ L.length ∧ i = .int .i64 (k : Int) ∧ Below w.heap.size w wr) (fun i _ => L.length - (intOf i).toNat)
  case atStart => exact ⟨0, by omega, rfl, Below.refl _ _⟩
  case round =>
    obtain ⟨k, hk, rfl, hbl⟩ := hrel
    by_cases hlt : k < L.length
    · have hI : (k : Int) < (L.length : Int) := by omega
      obtain ⟨g, off, c, e1, hc, c0⟩ := flt_at (HA.out.below hbl) k hlt
      obtain ⟨g', off', c', e1', hc', d0⟩ := flt_at (HB.out.below hbl) k hlt
      cases e1
      cases e1'
      have NS := hid (fun wx => number_same (L[k]'hlt) (HN.out _ (List.getElem_mem hlt)) wx)
      have HBL := hid hbl
      clear hbl
      generalize L[k]'hlt = x at *
      go_wp2_with fail
      go_quiet ((go_at_call 11; exact Calls.quiet_of_same (NS.out _)))
      have BQ := hid (below_drewN HBL.out nq)
      go_wp2_with fail
      go_roundw
      case rel => exact ⟨k + 1, by omega, by go_num, BQ.out⟩
      case measure => simp [intOf]; omega
    · obtain rfl : k = L.length := by omega
      go_wp2
      go_ret
      exact ⟨rfl, hbl⟩
set_option maxHeartbeats 2000000 in
theorem ints_same (va vb : Value) (L : List Int) (w : World) (ha : RL eI 1 w va L) (hb : RL eI 1 w vb L) (hl : (L.length : Int) ≤ 9223372036854775806) :
    Calls Tryd.prog 14 #[va, vb] w fun e w' => e = .returned (.bool true) ∧ Below w.heap.size w w' := by
  have HA := hid ha
  have HB := hid hb
  obtain ⟨ao, ca, rfl⟩ := ha.len0
  obtain ⟨bo, cb, rfl⟩ := hb.len0
  clear ha hb
  go_enter Tryd.func14, Tryd.ntmps14
  go_wp2_with fail
  go_loopw [5] (fun i wr => ∃ k : Nat, k ≤ L.length ∧ i = .int .i64 (k : Int) ∧ Below w.heap.size w wr) (fun i _ => L.length - (intOf i).toNat)
  case atStart => exact ⟨0, by omega, rfl, Below.refl _ _⟩
  case round =>
    obtain ⟨k, hk, rfl, hbl⟩ := hrel
    by_cases hlt : k < L.length
    · have hI : (k : Int) < (L.length : Int) := by omega
      obtain ⟨g, off, c, e1, hc, c0⟩ := int_at (HA.out.below hbl) k hlt
      obtain ⟨g', off', c', e1', hc', d0⟩ := int_at (HB.out.below hbl) k hlt
      cases e1
      cases e1'
      have HBL := hid hbl
      clear hbl
      generalize L[k]'hlt = x at *
      go_wp2_with fail
      go_quiet (fail)
      have BQ := hid (below_drewN HBL.out nq)
      go_wp2_with fail
      go_roundw
      case rel => exact ⟨k + 1, by omega, by go_num, BQ.out⟩
      case measure => simp [intOf]; omega
    · obtain rfl : k = L.length := by omega
      go_wp2
      go_ret
      exact ⟨rfl, hbl⟩
theorem cpC_at (f : Nat → Nat × Nat) (k : Nat) (hk : k < 4) : (#[.complex .f64 (f 0).1 (f 0).2, .complex .f64 (f 1).1 (f 1).2, .complex .f64 (f 2).1 (f 2).2, .complex .f64 (f 3).1 (f 3).2] : Array Value)[k]? = some (.complex .f64 (f k).1 (f k).2) := by
  rcases (show k = 0 ∨ k = 1 ∨ k = 2 ∨ k = 3 by omega) with rfl | rfl | rfl | rfl <;> rfl
theorem ptC_at (f : Nat → Nat × Nat) (k : Nat) (hk : k < 4) : (#[.float .f64 (f 0).1, .float .f64 (f 0).2, .float .f64 (f 1).1, .float .f64 (f 1).2, .float .f64 (f 2).1, .float .f64 (f 2).2, .float .f64 (f 3).1, .float .f64 (f 3).2] : Array Value)[k * 2]? = some (.float .f64 (f k).1) ∧ (#[.float .f64 (f 0).1, .float .f64 (f 0).2, .float .f64 (f 1).1, .float .f64 (f 1).2, .float .f64 (f 2).1, .float .f64 (f 2).2, .float .f64 (f 3).1, .float .f64 (f 3).2] : Array Value)[k * 2 + 1]? = some (.float .f64 (f k).2) := by
  rcases (show k = 0 ∨ k = 1 ∨ k = 2 ∨ k = 3 by omega) with rfl | rfl | rfl | rfl <;> exact ⟨rfl, rfl⟩
set_option maxHeartbeats 2000000 in
theorem quarters_same (f : Nat → Nat × Nat) (hn : ∀ k, nanB (f k).1 = false ∧ nanB (f k).2 = false) (w : World) :
    Calls Tryd.prog 13 #[cp4 f, pt8 f] w fun e w' => e = .returned (.bool true) ∧ Below w.heap.size w w' := by
  unfold cp4 pt8
  obtain ⟨W1, hW1⟩ : ∃ W, w.alloc (.cells #[.complex .f64 (f 0).1 (f 0).2, .complex .f64 (f 1).1 (f 1).2, .complex .f64 (f 2).1 (f 2).2, .complex .f64 (f 3).1 (f 3).2] 31) = W := ⟨_, rfl⟩
  obtain ⟨W2, hW2⟩ : ∃ W, W1.alloc (.cells #[.float .f64 (f 0).1, .float .f64 (f 0).2, .float .f64 (f 1).1, .float .f64 (f 1).2, .float .f64 (f 2).1, .float .f64 (f 2).2, .float .f64 (f 3).1, .float .f64 (f 3).2] 36) = W := ⟨_, rfl⟩
  have zz : W1.heap.size = w.heap.size + 1 := by rw [← hW1, World.size_alloc]
  have B1 : Below w.heap.size w W1 := by rw [← hW1]; exact alloc_below _ _
  have B2 : Below W1.heap.size W1 W2 := by rw [← hW2]; exact alloc_below _ _
  have r1 : W1.heap[w.heap.size]? = some (.cells #[.complex .f64 (f 0).1 (f 0).2, .complex .f64 (f 1).1 (f 1).2, .complex .f64 (f 2).1 (f 2).2, .complex .f64 (f 3).1 (f 3).2] 31 (0, 0)) := by rw [← hW1]; exact heap_alloc_new w _
  have r2 := (B2.block _ (show w.heap.size < W1.heap.size by omega)).trans r1
  have q2 : W2.heap[w.heap.size + 1]? = some (.cells #[.float .f64 (f 0).1, .float .f64 (f 0).2, .float .f64 (f 1).1, .float .f64 (f 1).2, .float .f64 (f 2).1, .float .f64 (f 2).2, .float .f64 (f 3).1, .float .f64 (f 3).2] 36 (0, 0)) := by rw [← hW2, ← zz]; exact heap_alloc_new W1 _
  have RR := hid (And.intro r2 (And.intro q2 (bel_step B1 B2)))
  have HW := hid (And.intro hW1 hW2)
  have HN := hid hn
  clear hW1 hW2 zz B1 B2 r1 r2 q2 hn
  go_enter Tryd.func13, Tryd.ntmps13
  go_wp2_with fail
  rw [HW.out.1, HW.out.2]
  clear HW
  generalize hqb : w.heap.size + 1 = qb at *
  generalize hrb : w.heap.size = rb at *
  have HE := hid (And.intro hqb hrb)
  clear hqb hrb
  go_loopw [5] (fun i wr => ∃ k : Nat, k ≤ 4 ∧ i = .int .i64 (k : Int) ∧ Below W2.heap.size W2 wr) (fun i _ => 4 - (intOf i).toNat)
  case atStart => exact ⟨0, by omega, rfl, Below.refl _ _⟩
  case round =>
    obtain ⟨k, hk, rfl, hb⟩ := hrel
    have HB := hid hb
    by_cases hlt : k < 4
    · have hI : (k : Int) < 4 := by omega
      have hI0 : (0 : Int) ≤ (k : Int) := by omega
      have hI1 : IntKind.i64.wrap (k : Int) = (k : Int) := by rw [IntKind.wrap_i64]; omega
      have c0 : wr.cell? ⟨rb, k, none⟩ = some (.complex .f64 (f k).1 (f k).2) := below_cells hb _ _ (row8 RR.out.1 k _ (cpC_at f k hlt))
      have c1 : wr.cell? ⟨qb, k * 2, none⟩ = some (.float .f64 (f k).1) := below_cells hb _ _ (row8 RR.out.2.1 _ _ (ptC_at f k hlt).1)
      have c2 : wr.cell? ⟨qb, k * 2 + 1, none⟩ = some (.float .f64 (f k).2) := below_cells hb _ _ (row8 RR.out.2.1 _ _ (ptC_at f k hlt).2)
      have o1 : (FloatKind.f64.format.order (f k).1 (f k).1 != some .eq) = false := by rw [show FloatKind.f64.format.order (f k).1 (f k).1 = some .eq from order_self (HN.out k).1]; rfl
      have o2 : (FloatKind.f64.format.order (f k).2 (f k).2 != some .eq) = false := by rw [show FloatKind.f64.format.order (f k).2 (f k).2 = some .eq from order_self (HN.out k).2]; rfl
      clear hb
      generalize (f k).1 = a at c0 c1 c2 o1 o2
      generalize (f k).2 = b at c0 c1 c2 o1 o2
      go_wp2_with fail
      go_quiet (fail)
      have BQ := hid (below_drewN HB.out nq)
      go_wp2_with fail
      go_roundw
      case rel => exact ⟨k + 1, by omega, by go_num, BQ.out⟩
      case measure => simp [intOf]; omega
    · obtain rfl : k = 4 := by omega
      clear hb
      go_wp2
      go_ret
      exact ⟨rfl, by rw [HE.out.2]; exact RR.out.2.2.trans (HB.out.mono (by have := RR.out.2.2.size; have := HE.out; omega))⟩
end Go.Proofs.YtgnnopjkbmbjbabDoor
