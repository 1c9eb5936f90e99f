/-
  How many digits, over any table of tens.
-/
import Derived.Test.YtpgpeafmlijfkaaDoorShelf
import Derived.Test.YtpgpeafmlijfkaaDoorBld
import Derived.Lib.Walk
import Derived.WalkKit
import Derived.ProofKit
namespace Go.Proofs.YtpgpeafmlijfkaaDoor
open Go.RowKit Go.Lib
set_option maxRecDepth 100000
set_option linter.unusedVariables false
theorem bl_few : ∀ n : Fin 4097, n.val ≠ 0 → 1 ≤ Lib.bitLen n.val ∧ Lib.bitLen n.val ≤ 13 := by decide +kernel
theorem l10_few : ∀ b : Fin 20, 7 ≤ b.val → 2 ≤ Lib.l10 b.val ∧ Lib.l10 b.val ≤ 5 := by decide +kernel
theorem bl_in (u : Nat) (h1 : 100 ≤ u) (h2 : u ≤ 262200) : 7 ≤ Lib.bitLen u ∧ Lib.bitLen u ≤ 19 := by
  have h := Lib.bitLen_shift 6 u (by omega) (by omega)
  have h3 := bl_few ⟨u / 64, by omega⟩ (by show u / 64 ≠ 0; omega)
  have h4 : (2 : Nat) ^ 6 = 64 := by decide
  rw [h4] at h
  simp only at h3
  omega
theorem l10_in (u : Nat) (h1 : 100 ≤ u) (h2 : u ≤ 262200) : 2 ≤ Lib.l10 (Lib.bitLen u) ∧ Lib.l10 (Lib.bitLen u) ≤ 5 := by
  have h := bl_in u h1 h2
  exact l10_few ⟨Lib.bitLen u, by omega⟩ h.1
/-- how many digits numDigits tells, the table's cell being z -/
def ndz (u : Nat) (z : Int) : Nat := Lib.l10 (Lib.bitLen u) + (if z ≤ (u : Int) then 1 else 0)
set_option maxHeartbeats 4000000 in
theorem ndig (u : Nat) (z : Int) (w : World) (h1 : 100 ≤ u) (h2 : u ≤ 262200) (hz : w.cell? ⟨21, Lib.l10 (Lib.bitLen u), none⟩ = some (.int .u64 z)) (hz0 : 0 ≤ z ∧ z < 18446744073709551616) :
    Calls Tryd.prog 70 #[.int .u64 (u : Int)] w fun e w' => e = .returned (.int .i64 (ndz u z : Nat)) ∧ w' = w := by
  have hl := l10_in u h1 h2
  have hb : Lib.bitLen u ≤ 64 := by have := bl_in u h1 h2; omega
  have C1 := hid (Tryd.bits_Len64 (u : Int) w (by omega) (by omega))
  have C2 := hid (Tryd.internal_strconv_log10Pow2 (Lib.bitLen u) hb w)
  have C3 := hid (fun b => Tryd.internal_strconv_bool2_int b w)
  unfold ndz
  rw [Int.toNat_natCast] at C1
  generalize hL : Lib.l10 (Lib.bitLen u) = L at *
  generalize Lib.bitLen u = B at *
  go_enter Tryd.func70, Tryd.ntmps70
  go_wp2_with fail
  refine Calls.mono C1.out ?_
  rintro e w' ⟨rfl, hw⟩
  replace hw := hw.symm
  subst hw
  go_wp2_with fail
  refine Calls.mono C2.out ?_
  rintro e w' ⟨rfl, hw⟩
  replace hw := hw.symm
  subst hw
  go_wp2_with fail
  refine Calls.mono (C3.out _) ?_
  rintro e w' ⟨rfl, hw⟩
  replace hw := hw.symm
  subst hw
  by_cases hh : z ≤ (u : Int)
  · go_wp2
    go_ret
    exact ⟨rfl, rfl⟩
  · go_wp2
    go_ret
    exact ⟨rfl, rfl⟩
end Go.Proofs.YtpgpeafmlijfkaaDoor
