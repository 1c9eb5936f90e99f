/-
  Values that are grown: days.
-/
import Derived.Test.YtjmpkogjilefnaaDoorVal
namespace Go.Proofs.YtjmpkogjilefnaaDoor
open Go.RowKit
set_option maxRecDepth 100000

theorem dig_ex (z : Int) (h0 : 0 ≤ z) (h1 : z < 10) : ∃ c : UInt8, 48 + z = (c.toNat : Int) ∧ IsD c ∧ (dv c : Int) = z := by
  have e : (UInt8.ofNat (48 + z.toNat)).toNat = 48 + z.toNat := by rw [UInt8.toNat_ofNat']; omega
  refine ⟨UInt8.ofNat (48 + z.toNat), by rw [e]; omega, ?_, ?_⟩
  · unfold IsD; rw [e]; omega
  · unfold dv; rw [e]; omega

theorem reads_six (w : World) (c0 c1 c2 c3 c4 c5 : UInt8) : Reads (w.alloc (.cells #[.int .u8 (c0.toNat : Int), .int .u8 (c1.toNat : Int), .int .u8 (c2.toNat : Int), .int .u8 (c3.toNat : Int), .int .u8 (c4.toNat : Int), .int .u8 (c5.toNat : Int)] 5)) (.slice (some ⟨w.heap.size, 0, none⟩) 6 6) [c0, c1, c2, c3, c4, c5] := by
  refine .inr ⟨w.heap.size, 0, 6, rfl, Nat.le_refl _, fun j hj => ?_⟩
  have hj' : j < 6 := hj
  have : j = 0 ∨ j = 1 ∨ j = 2 ∨ j = 3 ∨ j = 4 ∨ j = 5 := by omega
  rcases this with rfl | rfl | rfl | rfl | rfl | rfl <;> simp

theorem run_six (w : World) (c0 c1 c2 c3 c4 c5 : UInt8) :
    (convert 36 9 (.slice (some ⟨w.heap.size, 0, none⟩) 6 6)).run Tryd.prog (w.alloc (.cells #[.int .u8 (c0.toNat : Int), .int .u8 (c1.toNat : Int), .int .u8 (c2.toNat : Int), .int .u8 (c3.toNat : Int), .int .u8 (c4.toNat : Int), .int .u8 (c5.toNat : Int)] 5)) = .ok (.string ⟨#[c0, c1, c2, c3, c4, c5]⟩) (w.alloc (.cells #[.int .u8 (c0.toNat : Int), .int .u8 (c1.toNat : Int), .int .u8 (c2.toNat : Int), .int .u8 (c3.toNat : Int), .int .u8 (c4.toNat : Int), .int .u8 (c5.toNat : Int)] 5)) :=
  run_text (l := [c0, c1, c2, c3, c4, c5]) 36 9 Tryd.underlying36 Tryd.underlying5 Tryd.underlying9 (reads_six w c0 c1 c2 c3 c4 c5)

theorem parts_six (c0 c1 c2 c3 c4 c5 : UInt8) : yy [c0, c1, c2, c3, c4, c5] = 10 * dv c0 + dv c1 ∧ mm [c0, c1, c2, c3, c4, c5] = 10 * dv c2 + dv c3 ∧ dd [c0, c1, c2, c3, c4, c5] = 10 * dv c4 + dv c5 := by
  unfold yy mm dd nm
  simp
  omega


/-- the day's text -/
theorem day_val (Y M : Int) (hY0 : 0 ≤ Y) (hY1 : Y < 100) (hM0 : 0 ≤ M) (hM1 : M < 12) : ∃ c0 c1 c2 c3 c4 c5 : UInt8, 48 + Y / 10 = (c0.toNat : Int) ∧ 48 + Y % 10 = (c1.toNat : Int) ∧ 48 + (M + 1) / 10 = (c2.toNat : Int) ∧ 48 + (M + 1) % 10 = (c3.toNat : Int) ∧ 48 + Y % 3 = (c4.toNat : Int) ∧ 48 + M % 9 = (c5.toNat : Int) ∧ VOk 3 ⟨#[c0, c1, c2, c3, c4, c5]⟩ := by
  obtain ⟨c0, z0, d0, v0⟩ := dig_ex (Y / 10) (by omega) (by omega)
  obtain ⟨c1, z1, d1, v1⟩ := dig_ex (Y % 10) (by omega) (by omega)
  obtain ⟨c2, z2, d2, v2⟩ := dig_ex ((M + 1) / 10) (by omega) (by omega)
  obtain ⟨c3, z3, d3, v3⟩ := dig_ex ((M + 1) % 10) (by omega) (by omega)
  obtain ⟨c4, z4, d4, v4⟩ := dig_ex (Y % 3) (by omega) (by omega)
  obtain ⟨c5, z5, d5, v5⟩ := dig_ex (M % 9) (by omega) (by omega)
  have hp := parts_six c0 c1 c2 c3 c4 c5
  have hAll : AllD [c0, c1, c2, c3, c4, c5] := by
    intro c hc
    simp only [List.mem_cons, List.not_mem_nil, or_false] at hc
    rcases hc with rfl | rfl | rfl | rfl | rfl | rfl <;> assumption
  have hok : DayOk (yy [c0, c1, c2, c3, c4, c5]) (mm [c0, c1, c2, c3, c4, c5]) (dd [c0, c1, c2, c3, c4, c5]) := by
    refine dayOk_iff.2 ⟨by omega, by omega, ?_⟩
    unfold lastD
    split
    · split <;> omega
    · split <;> omega
  have hv : VOk 3 ⟨#[c0, c1, c2, c3, c4, c5]⟩ := by
    refine ⟨?_, by show 6 ≤ 19; omega⟩
    show fltE 6 6 dF (if DayOk (yy [c0, c1, c2, c3, c4, c5]) (mm [c0, c1, c2, c3, c4, c5]) (dd [c0, c1, c2, c3, c4, c5]) then 0 else 28) [c0, c1, c2, c3, c4, c5] = 0
    rw [if_pos hok]
    exact flt_dig ⟨by simp, by simp⟩ hAll
  exact ⟨c0, c1, c2, c3, c4, c5, z0, z1, z2, z3, z4, z5, hv⟩

set_option maxHeartbeats 4000000 in
theorem value_3 (v : Value) (l : List UInt8) (w : World) (hr : Reads w v l) (hlen : l.length ≤ 9223372036854775807) :
    Calls Tryd.prog 16 #[.string ⟨#[49, 55]⟩, .int .i64 6, v] w fun e w' => ∃ x : ByteArray, e = .returned (.tuple #[.string x, .bool true]) ∧ VOk 3 x ∧ Below w.heap.size w w' := by
  have HL := hid hlen
  obtain ⟨ao, cap, rfl⟩ := hr.form
  have HR := hid hr
  clear hr hlen
  by_cases h1 : 1 < l.length
  · have h1I : (1 : Int) < (l.length : Int) := by omega
    obtain ⟨b, off, cap', hv, hcap, hcell⟩ := HR.out.here (by omega)
    cases hv
    have hc0 := hcell 0 (by omega)
    rw [Nat.add_zero] at hc0
    have hc1 := hcell 1 (by omega)
    have hl2 := HL.out
    have hy := (l[0]'(by omega)).toNat_lt
    have hm := (l[1]'(by omega)).toNat_lt
    generalize (l[0]'(by omega)).toNat = y at *
    generalize (l[1]'(by omega)).toNat = m at *
    clear hcell HR
    go_enter Tryd.func16, Tryd.ntmps16
    go_wp2_with fail
    rw [show (y : Int) % 10 = (y : Int) % 100 % 10 by omega]
    obtain ⟨Y, hY⟩ : ∃ Y : Int, (y : Int) % 100 = Y := ⟨_, rfl⟩
    obtain ⟨M, hM⟩ : ∃ M : Int, (m : Int) % 12 = M := ⟨_, rfl⟩
    rw [hY, hM]
    have hY0 : 0 ≤ Y ∧ Y < 100 := by omega
    have hM0 : 0 ≤ M ∧ M < 12 := by omega
    obtain ⟨c0, c1, c2, c3, c4, c5, z0, z1, z2, z3, z4, z5, hv⟩ := day_val Y M (by omega) (by omega) (by omega) (by omega)
    rw [z0, z1, z2, z3, z4, z5]
    have kc := run_six w c0 c1 c2 c3 c4 c5
    have HX := hid hv
    obtain ⟨w1, hw1⟩ : ∃ w1, w1 = w.alloc (.cells #[.int .u8 (c0.toNat : Int), .int .u8 (c1.toNat : Int), .int .u8 (c2.toNat : Int), .int .u8 (c3.toNat : Int), .int .u8 (c4.toNat : Int), .int .u8 (c5.toNat : Int)] 5) := ⟨_, rfl⟩
    have b1 : Below w.heap.size w w1 := hw1 ▸ (Below.refl _ _).alloc (Nat.le_refl _) _
    rw [← hw1] at kc ⊢
    clear hv z0 z1 z2 z3 z4 z5 hw1
    go_wp2_with fail
    rw [kc]
    go_wp2
    go_ret2
    exact ⟨_, rfl, HX.out, b1⟩
  · have h1I : ¬ (1 : Int) < (l.length : Int) := by omega
    have kc := run_six w 48 48 48 49 48 48
    rw [show ((48 : UInt8).toNat : Int) = 48 from rfl, show ((49 : UInt8).toNat : Int) = 49 from rfl] at kc
    have HX := hid (show VOk 3 ⟨#[48, 48, 48, 49, 48, 48]⟩ from ⟨by decide +kernel, by decide +kernel⟩)
    go_enter Tryd.func16, Tryd.ntmps16
    go_wp2
    go_ret2
    exact ⟨_, rfl, HX.out, (Below.refl _ _).alloc (Nat.le_refl _) _⟩
end Go.Proofs.YtjmpkogjilefnaaDoor
