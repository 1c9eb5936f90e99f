/-
  A number's bytes over any table of tens: formatBase10 of few bytes.
-/
import Derived.Test.YtpgpeafmlijfkaaDoorShelf
import Derived.Test.YtpgpeafmlijfkaaDoorFb2
import Derived.Shelf.RegionOpenPlain
import Derived.Lib.Walk
import Derived.Lib.ItoaWalk
import Derived.WalkKit
import Derived.RegionTactic
import Derived.BigCall
import Derived.BigGuard
import Derived.CellFam
namespace Go.Proofs.YtpgpeafmlijfkaaDoor
open Go.RowKit Go.Sort Go.Lib
set_option maxRecDepth 100000
set_option linter.unusedVariables false
set_option maxHeartbeats 8000000 in
theorem fb_5 (g u : Nat) (w : World) (z1 z2 z3 z4 z5 : Int) (hu : u ≤ 262200) (h1 : By w g 1 z1) (h2 : By w g 2 z2) (h3 : By w g 3 z3) (h4 : By w g 4 z4) (h5 : By w g 5 z5) :
    Calls Tryd.prog 71 #[.slice (some ⟨g, 1, none⟩) 5 23, .int .u64 (u : Int)] w fun e w' => e = .returned (.tuple #[]) ∧ w' = put1 (put2 (put2 w g 4 (u)) g 2 (u / 100)) g (u / 10000) := by
  have mixed : Tryd.prog.follows Departure.mixedOrders = true := by kernel_rfl
  have B1 := hid h1
  obtain ⟨c1, f1⟩ := h1
  have B2 := hid h2
  obtain ⟨c2, f2⟩ := h2
  have B3 := hid h3
  obtain ⟨c3, f3⟩ := h3
  have B4 := hid h4
  obtain ⟨c4, f4⟩ := h4
  have B5 := hid h5
  obtain ⟨c5, f5⟩ := h5
  go_enter Tryd.func71, Tryd.ntmps71
  go_name_bytes SM hSM
  have eSM : SM = Lib.smalls := by rw [← hSM]; decide +kernel
  subst eSM
  clear hSM
  go_wp2
  go_loopw [1, 4] (fun vu vn wr => vu = .int .u64 (u : Int) ∧ vn = .int .i64 5 ∧ wr = w) (fun _ vn _ => (RowKit.intOf vn).toNat)
  case atStart => exact ⟨rfl, rfl, rfl⟩
  case round =>
  obtain ⟨rfl, rfl, hwr⟩ := hrel
  subst hwr
  rename World => W0
  go_wp2
  go_name_slot 15 x0 hx0
  have hxe0 : x0 = (((u) % 100 * 2 : Nat) : Int) := by omega
  have hXa0 : ∀ w, (Instr.index 9 (.string Lib.smalls) (.int .u32 (x0 + 1))).run Tryd.prog w = .ok (.int .u8 ((sm ((u) % 100 * 2 + 1)).toNat : Int)) w := idx_smalls 9 Tryd.underlying9 .u32 _ _ (by omega) (by omega)
  have hXb0 : ∀ w, (Instr.index 9 (.string Lib.smalls) (.int .u32 x0)).run Tryd.prog w = .ok (.int .u8 ((sm ((u) % 100 * 2)).toNat : Int)) w := idx_smalls 9 Tryd.underlying9 .u32 _ _ (by omega) (by omega)
  have hlo0 : 0 ≤ x0 := by omega
  have hhi0 : x0 ≤ 198 := by omega
  clear hx0 hxe0
  go_region_o
  go_wp2
  go_name_world W1 hW1
  have hV1 : W1 = put2 W0 g 4 (u) := hW1.symm
  replace B1 := hid (show By W1 g 1 z1 by rw [hV1]; exact B1.out.put2 (by omega) (by omega))
  clear c1 f1
  obtain ⟨c1, f1⟩ := B1.out
  replace B2 := hid (show By W1 g 2 z2 by rw [hV1]; exact B2.out.put2 (by omega) (by omega))
  clear c2 f2
  obtain ⟨c2, f2⟩ := B2.out
  replace B3 := hid (show By W1 g 3 z3 by rw [hV1]; exact B3.out.put2 (by omega) (by omega))
  clear c3 f3
  obtain ⟨c3, f3⟩ := B3.out
  have AV1 := hid hV1
  clear hW1 hV1 hXa0 hXb0 c4 f4 c5 f5 B4 B5
  go_name_slot 14 x1 hx1
  have hxe1 : x1 = (((u / 100) % 100 * 2 : Nat) : Int) := by omega
  have hXa1 : ∀ w, (Instr.index 9 (.string Lib.smalls) (.int .u32 (x1 + 1))).run Tryd.prog w = .ok (.int .u8 ((sm ((u / 100) % 100 * 2 + 1)).toNat : Int)) w := idx_smalls 9 Tryd.underlying9 .u32 _ _ (by omega) (by omega)
  have hXb1 : ∀ w, (Instr.index 9 (.string Lib.smalls) (.int .u32 x1)).run Tryd.prog w = .ok (.int .u8 ((sm ((u / 100) % 100 * 2)).toNat : Int)) w := idx_smalls 9 Tryd.underlying9 .u32 _ _ (by omega) (by omega)
  have hlo1 : 0 ≤ x1 := by omega
  have hhi1 : x1 ≤ 198 := by omega
  clear hx1 hxe1
  go_region_o
  go_wp2
  go_end0
  refine ⟨rfl, ?_⟩
  rw [← AV1.out]
  unfold put1 put2
  rw [show (((48 + u / 10000) % 256 : Nat) : Int) = 48 + (u : Int) / 10000 by omega]
  rfl
end Go.Proofs.YtpgpeafmlijfkaaDoor
