/-
  stock: a state without holds and requests is sound: the program's Sound.
-/
import Derived.Test.YtdodockemkmmpaaGreatNw4
import Derived.Laws.MakeOwn
import Derived.Lib.BufferMore
namespace Go.Proofs.YtdodockemkmmpaaGreat
open Go.RowKit
set_option maxRecDepth 100000

theorem iinfo : (Tryz.prog.info? 3).map (fun i => (i.zero, i.size, i.bytes)) = some (some (.int .i64 0), 1, 8) := by kernel_rfl
/-- a row of n zeros in block g -/
def ZR (w : World) (g n : Nat) : Prop := ∃ row : Array Value, w.heap[g]? = some (.cells row 3 (0, 0)) ∧ row.size = n ∧ ∀ i, i < n → row[i]? = some (.int .i64 0)
theorem ZR.lt {w : World} {g n : Nat} (h : ZR w g n) : g < w.heap.size := by obtain ⟨_, h, _⟩ := h; exact (Array.getElem?_eq_some_iff.1 h).1
theorem ZR.later {w w' : World} {g n : Nat} (h : ZR w g n) (hb : Below w.heap.size w w') : ZR w' g n := by
  have hl := h.lt
  obtain ⟨row, h1, h2, h3⟩ := h
  exact ⟨row, (hb.block g hl).trans h1, h2, h3⟩
theorem ZR.at {w : World} {g n : Nat} (h : ZR w g n) (i : Nat) (hi : i < n) : w.cell? ⟨g, i, none⟩ = some (.int .i64 0) ∧ w.frozen? ⟨g, i, none⟩ = false := by
  obtain ⟨row, h1, h2, h3⟩ := h
  exact ⟨by rw [Lib.cell_of_heap h1]; exact h3 i hi, Lib.frozen_of_heap h1 i⟩
theorem ZR.put {w : World} {g n : Nat} (h : ZR w g n) (i : Nat) : ZR (w.setCell ⟨g, i, none⟩ (.int .i64 0)) g n := by
  obtain ⟨row, h1, h2, h3⟩ := h
  refine ⟨_, Lib.heap_setCell_same h1 _, by simpa using h2, fun j hj => ?_⟩
  rw [Array.getElem?_setIfInBounds]
  split
  · split
    · rfl
    · omega
  · exact h3 j hj
theorem make_zeros (n : Nat) (hn : n ≤ 1000000) (w : World) : ∃ W, (Instr.makeSlice 147 (.int .i64 (n : Int)) (.int .i64 (n : Int))).run Tryz.prog w = .ok (.slice (some ⟨w.heap.size, 0, none⟩) n n) W ∧ ZR W w.heap.size n ∧ Below w.heap.size w W ∧ W.heap.size = w.heap.size + 1 := by
  obtain ⟨i, hi, hz, hs, hb⟩ := info_parts iinfo
  have := run_make (P := Tryz.prog) w 147 3 i _ Tryz.underlying147 hi hz .i64 .i64 (n : Int) (n : Int) (by omega) (by omega) (by rw [hb]; omega) (by omega)
  rw [Int.toNat_natCast, hs] at this
  refine ⟨_, this, ⟨_, heap_alloc_new w _, by rw [size_madeCells]; omega, fun j hj => ?_⟩, (Below.refl _ _).alloc (Nat.le_refl _) _, by simp⟩
  simp [madeCells, Value.cells, hj, Nat.mod_one]
theorem risingH_nil (f : Value) (w : World) : Calls Tryz.prog 90 #[.slice none 0 0, f] w fun e w' => e = .returned (.bool true) ∧ w' = w := by
  go_enter Tryz.func90, Tryz.ntmps90
  go_wp2_with fail
  go_rounds 1
  go_ret
  exact ⟨rfl, rfl⟩
theorem risingD_nil (f : Value) (w : World) : Calls Tryz.prog 94 #[.slice none 0 0, f] w fun e w' => e = .returned (.bool true) ∧ w' = w := by
  go_enter Tryz.func94, Tryz.ntmps94
  go_wp2_with fail
  go_rounds 1
  go_ret
  exact ⟨rfl, rfl⟩
/-- a state in a block -/
def SB0 (w : World) (b : Nat) (room : Int) (v : Value) : Prop := w.heap[b]? = some (.cells #[.int .i64 room, .int .i64 0, .int .i64 0, v, .slice none 0 0, .slice none 0 0] 32 (0, 0))
theorem SB0.later {w w' : World} {b : Nat} {room : Int} {v : Value} (h : SB0 w b room v) (hb : Below w.heap.size w w') : SB0 w' b room v := (hb.block b (Array.getElem?_eq_some_iff.1 h).1).trans h
theorem SB0.cells {w : World} {b : Nat} {room : Int} {v : Value} (h : SB0 w b room v) : w.cell? ⟨b, 0, none⟩ = some (.int .i64 room) ∧ w.cell? ⟨b, 1, none⟩ = some (.int .i64 0) ∧ w.cell? ⟨b, 2, none⟩ = some (.int .i64 0) ∧ w.cell? ⟨b, 3, none⟩ = some v ∧ w.cell? ⟨b, 4, none⟩ = some (.slice none 0 0) ∧ w.cell? ⟨b, 5, none⟩ = some (.slice none 0 0) := by
  unfold SB0 at h
  exact ⟨by rw [Lib.cell_of_heap h]; rfl, by rw [Lib.cell_of_heap h]; rfl, by rw [Lib.cell_of_heap h]; rfl, by rw [Lib.cell_of_heap h]; rfl, by rw [Lib.cell_of_heap h]; rfl, by rw [Lib.cell_of_heap h]; rfl⟩
theorem sb_new (w : World) (room : Int) (v : Value) : ∃ W, w.alloc (.cells #[.int .i64 room, .int .i64 0, .int .i64 0, v, .slice none 0 0, .slice none 0 0] 32) = W ∧ SB0 W w.heap.size room v ∧ Below w.heap.size w W ∧ W.heap.size = w.heap.size + 1 :=
  ⟨_, rfl, heap_alloc_new w _, (Below.refl _ _).alloc (Nat.le_refl _) _, by simp⟩
set_option maxHeartbeats 2000000 in
theorem soundDone0_any (room : Int) (v : Value) (hv : ∃ ao n cap, v = .slice ao n cap) (w : World) :
    Calls Tryz.prog 66 #[s0V room v] w fun e w' => e = .returned (.bool true) ∧ Below w.heap.size w w' := by
  obtain ⟨ao, n, cap, rfl⟩ := hv
  unfold s0V
  obtain ⟨W, hW, hS, bW, zW⟩ := sb_new w room (.slice ao n cap)
  obtain ⟨c0, c1, c2, c3, c4, c5⟩ := hS.cells
  have BW := hid bW
  have CR := hid (fun f wx => risingD_nil f wx)
  clear hS bW zW
  go_enter Tryz.func66, Tryz.ntmps66
  go_wp2_with (go_at_call 94; refine (CR.out _ _).mono ?_; rintro e w' ⟨rfl, rfl⟩)
  go_rounds 1
  go_ret
  exact ⟨rfl, BW.out⟩
set_option maxHeartbeats 4000000 in
theorem soundHolds0_any (room : Int) (L : List Lv) (v : Value) (w : World) (h : RLv w v L) (hL : LOk L) :
    Calls Tryz.prog 65 #[s0V room v] w fun e w' => e = .returned (.bool true) ∧ Below w.heap.size w w' := by
  have HL := hid hL
  obtain ⟨a1, p1, hv⟩ := h.form
  unfold s0V
  subst hv
  obtain ⟨W, hW, hS, bW, zW⟩ := sb_new w room (.slice a1 L.length p1)
  obtain ⟨c0, c1, c2, c3, c4, c5⟩ := hS.cells
  have BW := hid bW
  have H := hid (h.below bW)
  have CR := hid (fun f wx => risingH_nil f wx)
  obtain ⟨W2, E2, hZ, b2, z2⟩ := make_zeros L.length (by have := hL.2.1; omega) W
  have B2 := hid (bW.trans (b2.mono (by omega)))
  have BW2 := hid b2
  have HS2 := hid (hS.later b2)
  obtain ⟨d0, d1, d2, d3, d4, d5⟩ := (hS.later b2).cells
  have HZ := hid hZ
  have ZW := hid (And.intro zW z2)
  clear hS bW h b2 hZ zW z2 hL
  go_enter Tryz.func65, Tryz.ntmps65
  go_wp2_with (go_at_call 90; refine (CR.out _ _).mono ?_; rintro e w' ⟨rfl, hw⟩; replace hw := hw.symm; subst hw)
  clear c0 c1 c2 c3 c4 c5 E2 hW d0 d1 d2 d3 d4 d5
  go_loopw [27] (fun i wr => ∃ k : Nat, k ≤ L.length ∧ i = .int .i64 (k : Int) ∧ ZR wr W.heap.size L.length ∧ Below W.heap.size W wr) (fun i _ => L.length - (intOf i).toNat)
  case atStart => exact ⟨0, by omega, rfl, HZ.out, BW2.out⟩
  case round =>
    obtain ⟨k, hk, rfl, hz, hbl⟩ := hrel
    by_cases hlt : k < L.length
    · have hI : (k : Int) < (L.length : Int) := by omega
      rcases H.out.below hbl with ⟨h0, _⟩ | ⟨b, off, cp, e1, hcp, hcell⟩
      · rw [h0] at hlt; simp at hlt
      cases e1
      obtain ⟨c0, c1, c2⟩ := hcell k hlt
      obtain ⟨t0, t1, t2⟩ := HL.out.2.2.1 (L[k]'hlt) (List.getElem_mem hlt)
      rw [t1] at c1
      rw [t2] at c2
      generalize (L[k]'hlt).1 = x at *
      obtain ⟨W3, hW3⟩ : ∃ W3, wr.alloc (.cells #[.string x, .int .i64 0, .int .i64 0] 46) = W3 := ⟨_, rfl⟩
      have b3 : Below wr.heap.size wr W3 := by rw [← hW3]; exact (Below.refl _ _).alloc (Nat.le_refl _) _
      have HZ3 := hid (hz.later b3)
      obtain ⟨q1, q2⟩ := (hz.later b3).at k hlt
      have r2 : W3.cell? ⟨wr.heap.size, 2, none⟩ = some (.int .i64 0) := by rw [← hW3, Lib.cell_of_heap (heap_alloc_new wr _)]; rfl
      obtain ⟨W4, hW4⟩ : ∃ W4, W3.setCell ⟨W.heap.size, k, none⟩ (.int .i64 0) = W4 := ⟨_, rfl⟩
      have HZ4 := hid (show ZR W4 W.heap.size L.length by rw [← hW4]; exact HZ3.out.put k)
      have B4 := hid (show Below W.heap.size W W4 by
        rw [← hW4]
        have hb := hbl.trans (b3.mono hbl.size)
        exact ⟨hb.os, hb.tape, hb.output, by rw [World.size_setCell]; exact hb.size, fun i hi => by rw [heap_setCell_other _ _ _ _ (show i ≠ W.heap.size by omega)]; exact hb.block i hi⟩)
      have hLI : (L.length : Int) ≤ 512 := by have := HL.out.2.1; omega
      have hk2 : (k : Int) ≤ 512 := by omega
      rw [← hW3] at q1 q2 hW4
      clear hcell hbl hz b3 t0 t1 t2 r2 hW3
      go_wp2_with fail
      go_roundw
      case rel => exact ⟨k + 1, by omega, by go_num, HZ4.out, B4.out⟩
      case measure => simp [intOf]; omega
    · have hI : ¬ (k : Int) < (L.length : Int) := by omega
      have HS3 := hid (show SB0 wr w.heap.size room (.slice a1 L.length p1) by
        have h1 := hbl.block w.heap.size (by have := ZW.out; omega)
        have h2 := BW2.out.block w.heap.size (by have := ZW.out; omega)
        exact (h1.trans h2.symm).trans HS2.out)
      obtain ⟨d0, d1, d2, d3, d4, d5⟩ := HS3.out.cells
      have HZr := hid hz
      have HB := hid (BW.out.trans (hbl.mono BW.out.size))
      clear hz hbl
      go_wp2_with fail
      go_rounds 1
      clear d0 d1 d2 d3 d4 d5
      go_loop [76] (fun i => ∃ j : Nat, j ≤ L.length ∧ i = .int .i64 (j : Int)) (fun i => L.length - (intOf i).toNat)
      case atStart => exact ⟨0, by omega, rfl⟩
      case round =>
        obtain ⟨j, hj, rfl⟩ := hrel
        by_cases hjl : j < L.length
        · have hJ : (j : Int) < (L.length : Int) := by omega
          have hj2 : (j : Int) ≤ 512 := by have := HL.out.2.1; omega
          obtain ⟨q1, q2⟩ := HZr.out.at j hjl
          go_wp2_with fail
          go_round
          case rel => exact ⟨j + 1, by omega, by go_num⟩
          case measure => simp [intOf]; omega
        · have hJ : ¬ (j : Int) < (L.length : Int) := by omega
          go_wp2_with fail
          go_ret
          exact ⟨rfl, HB.out⟩
end Go.Proofs.YtdodockemkmmpaaGreat
