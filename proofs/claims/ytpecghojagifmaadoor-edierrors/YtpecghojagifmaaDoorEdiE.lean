/-
  edi's errors: which variable holds which.
-/
import Derived.Test.YtpecghojagifmaaDoorSent
namespace Go.Proofs.YtpecghojagifmaaDoor
open Go.RowKit
set_option maxRecDepth 100000

/-- the variable of a fault's code -/
def gS : Nat → Nat
  | 1 => 1
  | 2 => 2
  | 3 => 3
  | 4 => 4
  | 5 => 5
  | 6 => 0
  | 7 => 6
  | 8 => 7
  | 9 => 8
  | 10 => 9
  | _ => 10
/-- its text -/
def tS : Nat → List UInt8
  | 1 => [116, 104, 101, 32, 116, 101, 120, 116, 32, 105, 115, 32, 116, 111, 111, 32, 108, 111, 110, 103]
  | 2 => [116, 104, 101, 32, 116, 101, 120, 116, 32, 101, 110, 100, 115, 32, 116, 111, 111, 32, 101, 97, 114, 108, 121]
  | 3 => [115, 111, 109, 101, 116, 104, 105, 110, 103, 32, 115, 116, 97, 110, 100, 115, 32, 98, 101, 104, 105, 110, 100, 32, 116, 104, 101, 32, 101, 110, 100]
  | 4 => [116, 104, 105, 115, 32, 105, 115, 32, 110, 111, 32, 104, 101, 97, 100, 32, 111, 102, 32, 97, 110, 32, 105, 110, 116, 101, 114, 99, 104, 97, 110, 103, 101]
  | 5 => [116, 104, 101, 32, 115, 101, 112, 97, 114, 97, 116, 111, 114, 115, 32, 109, 97, 121, 32, 110, 111, 116, 32, 98, 101, 32, 115, 111]
  | 6 => [116, 104, 105, 115, 32, 115, 101, 103, 109, 101, 110, 116, 32, 109, 97, 121, 32, 110, 111, 116, 32, 115, 116, 97, 110, 100, 32, 104, 101, 114, 101]
  | 7 => [116, 104, 105, 115, 32, 101, 108, 101, 109, 101, 110, 116, 32, 109, 97, 121, 32, 110, 111, 116, 32, 98, 101, 32, 115, 111]
  | 8 => [116, 104, 105, 115, 32, 105, 115, 32, 110, 111, 116, 32, 104, 111, 119, 32, 109, 97, 110, 121, 32, 116, 104, 101, 114, 101, 32, 97, 114, 101]
  | 9 => [116, 104, 105, 115, 32, 105, 115, 32, 110, 111, 116, 32, 116, 104, 101, 32, 99, 111, 110, 116, 114, 111, 108, 32, 110, 117, 109, 98, 101, 114]
  | 10 => [116, 104, 105, 115, 32, 107, 105, 110, 100, 32, 111, 102, 32, 115, 101, 116, 32, 109, 97, 121, 32, 110, 111, 116, 32, 115, 116, 97, 110, 100, 32, 104, 101, 114, 101]
  | _ => [116, 104, 105, 115, 32, 105, 115, 32, 110, 111, 32, 115, 117, 99, 104, 32, 100, 111, 99, 117, 109, 101, 110, 116]
theorem tS_ne : ∀ i j : Fin 11, i ≠ j → tS (i.val + 1) ≠ tS (j.val + 1) := by decide +kernel

/-- all of them lie there -/
def HS (w : World) (A : Nat → Addr) : Prop := ∀ c : Nat, 1 ≤ c → c ≤ 11 → SE w (gS c) (A c) (tS c)
theorem HS.below {w w' : World} {A : Nat → Addr} (h : HS w A) (hb : Below w.heap.size w w') : HS w' A := fun c h1 h2 => (h c h1 h2).below hb

theorem sentinel_any (c : Nat) (h1 : 1 ≤ c) (h2 : c ≤ 11) (w : World) (A : Nat → Addr) (h : HS w A) :
    Calls Tryd.prog 4 #[.int .i64 (c : Int)] w fun e w' => e = .returned (.iface 66 (.pointer (some (A c)))) ∧ w' = w := by
  have hc := (h c h1 h2).1
  clear h
  have hv : c = 1 ∨ c = 2 ∨ c = 3 ∨ c = 4 ∨ c = 5 ∨ c = 6 ∨ c = 7 ∨ c = 8 ∨ c = 9 ∨ c = 10 ∨ c = 11 := by omega
  rcases hv with rfl | rfl | rfl | rfl | rfl | rfl | rfl | rfl | rfl | rfl | rfl
  all_goals
    simp only [gS] at hc
    go_enter Tryd.func4, Tryd.ntmps4
    go_wp2
    go_ret
    exact ⟨rfl, rfl⟩

theorem isC_other (c d : Nat) (h1 : 1 ≤ c) (h2 : c ≤ 11) (h3 : 1 ≤ d) (h4 : d ≤ 11) (hne : c ≠ d) (w : World) (A : Nat → Addr) (h : HS w A) :
    Calls Tryd.prog 5 #[.iface 66 (.pointer (some (A c))), .iface 66 (.pointer (some (A d)))] w fun e w' => e = .returned (.bool false) ∧ w' = w := by
  refine isS_other (h c h1 h2) (h d h3 h4) ?_
  have := tS_ne ⟨c - 1, by omega⟩ ⟨d - 1, by omega⟩ (fun e => by have := congrArg Fin.val e; simp at this; omega)
  simpa [Nat.sub_add_cancel h1, Nat.sub_add_cancel h3] using this

theorem errNil_any (w : World) : Calls Tryd.prog 6 #[.pointer none] w fun e w' => e = .returned (.string ⟨#[]⟩) ∧ w' = w := by
  go_enter Tryd.func6, Tryd.ntmps6
  go_wp2
  go_ret
  exact ⟨rfl, rfl⟩
theorem unwrapNil_any (w : World) : Calls Tryd.prog 7 #[.pointer none] w fun e w' => e = .returned .nilIface ∧ w' = w := by
  go_enter Tryd.func7, Tryd.ntmps7
  go_wp2
  go_ret
  exact ⟨rfl, rfl⟩
theorem unwrap_any (b : Nat) (tp : TypeId) (x : Value) (w : World) (h : w.cell? ⟨b, 2, none⟩ = some (.iface tp x)) : Calls Tryd.prog 7 #[.pointer (some ⟨b, 0, none⟩)] w fun e w' => e = .returned (.iface tp x) ∧ w' = w := by
  go_enter Tryd.func7, Tryd.ntmps7
  go_wp2
  go_ret
  exact ⟨rfl, rfl⟩
theorem errText_any (a : Addr) (s : ByteArray) (w : World) (h : w.cell? a = some (.string s)) : Calls Tryd.prog 51 #[.pointer (some a)] w fun e w' => e = .returned (.string s) ∧ w' = w := by
  go_enter Tryd.func51, Tryd.ntmps51
  go_wp2
  go_ret
  exact ⟨rfl, rfl⟩
end Go.Proofs.YtpecghojagifmaaDoor
