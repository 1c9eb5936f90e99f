/-
  strings.IndexRune and IndexAny of the signs of a zone, in any text.
-/
import Derived.Test.YtcmllfipaiacfaaGreatDoorTc1
import Derived.Laws.RangeAny
import Derived.Laws.Runes
import Derived.Lib.OthersKept
import Derived.BigQuiet
namespace Go.Proofs.YtcmllfipaiacfaaGreatDoor
open Go.RowKit
set_option maxRecDepth 100000
set_option linter.unusedSimpArgs false

/-- the signs of a zone -/
abbrev zS : ByteArray := ⟨#[90, 43, 45]⟩
theorem ofNat_high (n : Nat) (h : n < 64) : 128 ≤ (UInt8.ofNat (0x80 + n)).toNat := by
  rw [UInt8.toNat_ofNat']
  omega
theorem enc_cases (r : Nat) (h : 128 ≤ r) : (∃ x y : UInt8, Utf8.encode (r : Int) = ⟨#[x, y]⟩ ∧ 128 ≤ y.toNat) ∨ (∃ x y z : UInt8, Utf8.encode (r : Int) = ⟨#[x, y, z]⟩ ∧ 128 ≤ z.toNat) ∨ ∃ x y z v : UInt8, Utf8.encode (r : Int) = ⟨#[x, y, z, v]⟩ := by
  unfold Utf8.encode
  obtain ⟨c, hc⟩ : ∃ c, (if Utf8.valid (r : Int) = true then (r : Int).toNat else Utf8.runeError) = c := ⟨_, rfl⟩
  have hb : 128 ≤ c := by
    rw [← hc]
    split
    · simpa using h
    · decide
  simp only [hc]
  rw [if_neg (by omega)]
  split
  · exact .inl ⟨_, _, rfl, ofNat_high _ (Nat.mod_lt _ (by decide))⟩
  · split
    · exact .inr (.inl ⟨_, _, _, rfl, ofNat_high _ (Nat.mod_lt _ (by decide))⟩)
    · exact .inr (.inr ⟨_, _, _, _, rfl⟩)
set_option maxHeartbeats 4000000 in
theorem irune_err (w : World) :
    Calls Tryz.prog 44 #[.string zS, .int .i32 65533] w fun e w' => e = .returned (.int .i64 (-1)) ∧ Below w.heap.size w w' := by
  go_enter Tryz.func44, Tryz.ntmps44
  go_wp2_with fail
  go_loopg [5, 6] 3 (fun g _ _ wx => ∃ i : Nat, i + g = 3 ∧ wx = w.iter zS i)
  case atStart => exact ⟨0, by omega, rfl⟩
  case round =>
    obtain ⟨i, hig, rfl⟩ := hrel
    cases gk with
    | zero =>
      obtain rfl : i = 3 := by omega
      have hnx := fun ty => run_next_end (P := Tryz.prog) w zS 3 ty (by decide)
      go_wp2
      go_ret
      exact ⟨rfl, (Below.refl _ _).alloc (Nat.le_refl _) _⟩
    | succ g =>
      have hi : i < 3 := by omega
      match i, hi with
      | 0, _ =>
        have hnx := fun ty => run_next_ascii (P := Tryz.prog) w zS 0 ty (by decide) (by decide)
        go_wp2
        go_roundg g
        case measure => omega
        case rel => exact ⟨1, by omega, rfl⟩
      | 1, _ =>
        have hnx := fun ty => run_next_ascii (P := Tryz.prog) w zS 1 ty (by decide) (by decide)
        go_wp2
        go_roundg g
        case measure => omega
        case rel => exact ⟨2, by omega, rfl⟩
      | 2, _ =>
        have hnx := fun ty => run_next_ascii (P := Tryz.prog) w zS 2 ty (by decide) (by decide)
        go_wp2
        go_roundg g
        case measure => omega
        case rel => exact ⟨3, by omega, rfl⟩
end Go.Proofs.YtcmllfipaiacfaaGreatDoor
