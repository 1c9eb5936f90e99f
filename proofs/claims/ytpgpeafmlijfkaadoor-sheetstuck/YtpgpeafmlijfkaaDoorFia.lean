/-
  Itoa of small numbers over any table of tens.
-/
import Derived.Test.YtpgpeafmlijfkaaDoorFma
import Derived.Test.YtpgpeafmlijfkaaDoorBld
import Derived.Test.YtpgpeafmlijfkaaDoorSdg
namespace Go.Proofs.YtpgpeafmlijfkaaDoor
open Go.RowKit Go.Sort Go.Lib
set_option maxRecDepth 100000
set_option linter.unusedVariables false
theorem alen24 : Tryd.prog.arrayLen 116 = 24 := by kernel_rfl
set_option maxHeartbeats 8000000 in
theorem fint_any (u : Nat) (z : Int) (h1 : 100 ≤ u) (h2 : u ≤ 262200) (hz0 : 0 ≤ z ∧ z < 18446744073709551616) : ∃ l : List UInt8, l.length ≤ 6 ∧ ∀ w : World, w.cell? ⟨21, Lib.l10 (Lib.bitLen u), none⟩ = some (.int .u64 z) →
    Calls Tryd.prog 68 #[.int .i64 (u : Int), .int .i64 10] w fun e w' => e = .returned (.string ⟨l.toArray⟩) ∧ Below w.heap.size w w' := by
  have hl := l10_in u h1 h2
  have hnd : 2 ≤ ndz u z ∧ ndz u z ≤ 6 := by unfold ndz; split <;> omega
  obtain ⟨l, hl1, hl2⟩ := fmt_any (ndz u z) u hnd h2
  refine ⟨l, by omega, fun w hz => ?_⟩
  have hbz : (21 : Nat) < w.heap.size := World.block_lt_of_cell? _ _ hz
  have CN := hid (ndig u z (w.alloc (.cells Lib.zeros24 116)) h1 h2 ((((Below.refl w.heap.size w).alloc (Nat.le_refl _) _).cell (p := ⟨21, Lib.l10 (Lib.bitLen u), none⟩) hbz).trans hz) hz0)
  have hH := Lib.holds_zero w 116 6 (by omega)
  have CF := hid (hl2 w.heap.size (w.alloc (.cells Lib.zeros24 116)) (fun j hj => by
    have hk := hH j (by simpa using hj)
    refine ⟨hk.1.trans ?_, hk.2⟩
    rw [getElem!_pos _ j (by simpa using hj)]
    simp))
  have HA : Below w.heap.size w (w.alloc (.cells Lib.zeros24 116)) := (Below.refl _ _).alloc (Nat.le_refl _) _
  have AHA := hid HA
  clear hl2 hH hz hbz hl HA
  generalize ndz u z = n at *
  have hsl : ∀ W, (Instr.sliceAt 116 (.pointer (some ⟨w.heap.size, 0, none⟩)) (some (.int .i64 1)) (some (.int .i64 (1 + (n : Int)))) none).run Tryd.prog W = .ok (.slice (some ⟨w.heap.size, 1, none⟩) n 23) W := fun W => by
    rw [run_sliceAt_array_lh W 116 ⟨w.heap.size, 0, none⟩ (by kernel_rfl) .i64 .i64 1 (1 + (n : Int)) (by omega) (by omega) (by rw [alen24]; omega), alen24]
    go_simp
    omega
  go_enter Tryd.func68, Tryd.ntmps68
  go_wp2_with fail
  refine Calls.mono CN.out ?_
  rintro e w1 ⟨rfl, hw⟩
  replace hw := hw.symm
  subst hw
  go_wp2_with fail
  refine Calls.mono CF.out ?_
  rintro e w' ⟨rfl, hb, hcs⟩
  have hcv : (convert 30 9 (.slice (some ⟨w.heap.size, 1, none⟩) n 23)).run Tryd.prog w' = .ok (.string ⟨l.toArray⟩) w' := by
    have h := run_convert_bytes_back (P := Tryd.prog) w' 30 9 5 ⟨w.heap.size, 1, none⟩ 23 l Tryd.underlying30 Tryd.underlying5 Tryd.underlying9 (fun j hj => by
      rw [Lib.add_plain]
      exact hcs j hj)
    rw [hl1] at h
    exact h
  have HB := hid (AHA.out.trans hb)
  clear hcs hb
  go_wp2
  go_ret
  exact ⟨rfl, HB.out⟩
/-- Itoa answers a text that hangs on the table and the number alone -/
theorem itoa_tab (u : Nat) (w : World) (hu : u ≤ 262200) (hT : TabU w) : ∃ s : ByteArray, s.size ≤ 21 ∧ ∀ wx, Below w.heap.size w wx →
    Calls Tryd.prog 65 #[.int .i64 (u : Int)] wx fun e w' => e = .returned (.string s) ∧ Below wx.heap.size wx w' := by
  by_cases h : u < 100
  · refine ⟨dcT u, dcT_size u (by omega), fun wx hx => ?_⟩
    refine (Tryd.strconv_Itoa_small u h wx).mono ?_
    rintro e w' ⟨rfl, rfl⟩
    exact ⟨rfl, Below.refl _ _⟩
  · have hl := l10_in u (by omega) hu
    obtain ⟨z, h1, h2⟩ := hT (Lib.l10 (Lib.bitLen u)) (by omega)
    obtain ⟨l, h3, h4⟩ := fint_any u z (by omega) hu h2
    refine ⟨⟨l.toArray⟩, by show l.toArray.size ≤ 21; simp; omega, fun wx hx => ?_⟩
    have CI := hid (h4 wx ((hx.cell (p := ⟨21, Lib.l10 (Lib.bitLen u), none⟩) (World.block_lt_of_cell? _ _ h1)).trans h1))
    clear h4 h1 h2 hl hT h3
    have CJ : Calls Tryd.prog 67 #[.int .i64 (u : Int)] wx fun e w' => e = .returned (.string ⟨l.toArray⟩) ∧ Below wx.heap.size wx w' := by
      go_enter Tryd.func67, Tryd.ntmps67
      go_wp2_with fail
      refine Calls.mono CI.out ?_
      rintro e w' ⟨rfl, hb⟩
      go_wp2
      go_ret
      exact ⟨rfl, hb⟩
    have CK := hid CJ
    clear CJ CI
    go_enter Tryd.func65, Tryd.ntmps65
    go_wp2_with fail
    refine Calls.mono CK.out ?_
    rintro e w' ⟨rfl, hb⟩
    go_wp2
    go_ret
    exact ⟨rfl, hb⟩
end Go.Proofs.YtpgpeafmlijfkaaDoor
