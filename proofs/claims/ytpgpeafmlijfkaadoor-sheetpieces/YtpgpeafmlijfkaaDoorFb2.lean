/-
  A number's bytes over any table of tens: formatBase10 of few bytes.
-/
import Derived.Test.YtpgpeafmlijfkaaDoorShelf
import Derived.Shelf.RegionOpenPlain
import Derived.Lib.Walk
import Derived.Lib.ItoaWalk
import Derived.WalkKit
import Derived.RegionTactic
import Derived.BigCall
import Derived.BigGuard
import Derived.CellFam
namespace Go.Proofs.YtpgpeafmlijfkaaDoor
open Go.RowKit Go.Sort Go.Lib
set_option maxRecDepth 100000
set_option linter.unusedVariables false
/-- a byte lies there, to be written over -/
def By (w : World) (g k : Nat) (z : Int) : Prop := w.cell? ⟨g, k, none⟩ = some (.int .u8 z) ∧ w.frozen? ⟨g, k, none⟩ = false
/-- two bytes are written -/
def put2 (w : World) (g k a : Nat) : World := (w.drew.setCell ⟨g, k + 1, none⟩ (.int .u8 ((sm (a % 100 * 2 + 1)).toNat : Int))).setCell ⟨g, k, none⟩ (.int .u8 ((sm (a % 100 * 2)).toNat : Int))
/-- the first byte is written -/
def put1 (w : World) (g a : Nat) : World := w.setCell ⟨g, 1, none⟩ (.int .u8 (((48 + a) % 256 : Nat) : Int))
theorem By.put2 {w : World} {g k a j : Nat} {z : Int} (h : By w g j z) (h1 : j ≠ k) (h2 : j ≠ k + 1) : By (put2 w g k a) g j z := by
  obtain ⟨h3, h4⟩ := h
  unfold Go.Proofs.YtpgpeafmlijfkaaDoor.put2
  refine ⟨?_, ?_⟩
  · rw [World.cell?_setCell_other _ _ _ _ (by simp <;> omega), World.cell?_setCell_other _ _ _ _ (by simp <;> omega)]
    exact h3
  · rw [World.frozen?_setCell, World.frozen?_setCell]
    exact h4
set_option maxHeartbeats 8000000 in
theorem fb_2 (g u : Nat) (w : World) (z1 z2 : Int) (hu : u ≤ 262200) (h1 : By w g 1 z1) (h2 : By w g 2 z2) :
    Calls Tryd.prog 71 #[.slice (some ⟨g, 1, none⟩) 2 23, .int .u64 (u : Int)] w fun e w' => e = .returned (.tuple #[]) ∧ w' = put2 w g 1 (u) := by
  have mixed : Tryd.prog.follows Departure.mixedOrders = true := by kernel_rfl
  have B1 := hid h1
  obtain ⟨c1, f1⟩ := h1
  have B2 := hid h2
  obtain ⟨c2, f2⟩ := h2
  go_enter Tryd.func71, Tryd.ntmps71
  go_name_bytes SM hSM
  have eSM : SM = Lib.smalls := by rw [← hSM]; decide +kernel
  subst eSM
  clear hSM
  go_wp2
  go_loopw [1, 4] (fun vu vn wr => vu = .int .u64 (u : Int) ∧ vn = .int .i64 2 ∧ wr = w) (fun _ vn _ => (RowKit.intOf vn).toNat)
  case atStart => exact ⟨rfl, rfl, rfl⟩
  case round =>
  obtain ⟨rfl, rfl, hwr⟩ := hrel
  subst hwr
  rename World => W0
  go_wp2
  go_name_slot 16 x0 hx0
  have hxe0 : x0 = (((u) % 100 * 2 : Nat) : Int) := by omega
  have hXa0 : ∀ w, (Instr.index 9 (.string Lib.smalls) (.int .u32 (x0 + 1))).run Tryd.prog w = .ok (.int .u8 ((sm ((u) % 100 * 2 + 1)).toNat : Int)) w := idx_smalls 9 Tryd.underlying9 .u32 _ _ (by omega) (by omega)
  have hXb0 : ∀ w, (Instr.index 9 (.string Lib.smalls) (.int .u32 x0)).run Tryd.prog w = .ok (.int .u8 ((sm ((u) % 100 * 2)).toNat : Int)) w := idx_smalls 9 Tryd.underlying9 .u32 _ _ (by omega) (by omega)
  have hlo0 : 0 ≤ x0 := by omega
  have hhi0 : x0 ≤ 198 := by omega
  clear hx0 hxe0
  go_region_o
  go_wp2
  go_end0
  refine ⟨rfl, ?_⟩
  rfl
end Go.Proofs.YtpgpeafmlijfkaaDoor
