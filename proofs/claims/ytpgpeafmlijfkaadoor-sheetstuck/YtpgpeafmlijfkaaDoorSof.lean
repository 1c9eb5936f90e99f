/-
  Sheets: offset; errors.Is of an error or of none; what Parse tells, by the Reader's states.
-/
import Derived.Test.YtpgpeafmlijfkaaDoorSdg
import Derived.Test.YtpgpeafmlijfkaaDoorSpi
import Derived.Test.YtpgpeafmlijfkaaDoorSqe
import Derived.Test.YtpgpeafmlijfkaaDoorDsp
namespace Go.Proofs.YtpgpeafmlijfkaaDoor
open Go.RowKit
set_option maxRecDepth 100000
set_option linter.unusedVariables false
set_option linter.unusedSimpArgs false

theorem plc_up (L : List UInt8) (i : Nat) : ∀ d, (plc L i).1 ≤ (plc L (i + d)).1 ∧ ((plc L (i + d)).1 = (plc L i).1 → (plc L (i + d)).2 = (plc L i).2 + d) := by
  intro d
  induction d with
  | zero => exact ⟨Nat.le_refl _, fun _ => rfl⟩
  | succ d ih =>
    have e : plc L (i + (d + 1)) = adv (plc L (i + d)) (bt L (i + d)).toNat := plc_succ L (i + d)
    rw [e]
    unfold adv
    split
    · exact ⟨by simp only []; omega, fun h => by simp only [] at h; omega⟩
    · exact ⟨by simp only []; omega, fun h => by simp only [] at h ⊢; have := ih.2 h; omega⟩
theorem plc_one (L : List UInt8) (i : Nat) : 1 ≤ (plc L i).1 := by
  have := (plc_up L 0 i).1
  rw [Nat.zero_add] at this
  exact this
/-! errors.Is, of an error that may be none -/
theorem eql_nil (a : Addr) (w : World) : (binOp .eql 27 .nilIface (.iface 99 (.pointer (some a)))).run Tryd.prog w = .ok (.bool false) w := by kernel_rfl
theorem is_nil (a : Addr) (w : World) : Calls Tryd.prog 7 #[.nilIface, .iface 99 (.pointer (some a))] w fun e w' => e = .returned (.bool false) ∧ w' = w := by
  have qn := eql_nil a
  go_enter Tryd.func7, Tryd.ntmps7
  go_wp2
  go_ret
  exact ⟨rfl, rfl⟩
theorem is_ft (A : Nat → Addr) (ev : Value) (c d : Nat) (p : Nat × Nat) (w : World) (h : FT A w ev c p) (hA : Sn A w) (hc : c ≤ 20) (hd : 1 ≤ d ∧ d ≤ 20) :
    Calls Tryd.prog 7 #[ev, .iface 99 (.pointer (some (A d)))] w fun e w' => e = .returned (.bool (decide (c = d))) ∧ w' = w := by
  rcases h with ⟨rfl, rfl⟩ | ⟨hne, f, rfl, hf⟩
  · rw [decide_eq_false (by omega)]
    exact is_nil (A d) w
  · exact is_at A f c d _ _ w hf hA (by omega) hd
theorem FT.below {A : Nat → Addr} {w w' : World} {ev : Value} {c : Nat} {p : Nat × Nat} (h : FT A w ev c p) (hb : Below w.heap.size w w') : FT A w' ev c p := by
  rcases h with h | ⟨h1, f, h2, h3⟩
  · exact .inl h
  · exact .inr ⟨h1, f, h2, (hb.block f (Array.getElem?_eq_some_iff.1 h3).1).trans h3⟩
/-- what Parse tells, by the Reader's states -/
theorem par_ft {A : Nat → Addr} {w : World} {L : List UInt8} {rv ev : Value} (h : PaR A w L rv ev) : FT A w ev (clP (fdP L)).er (clP (fdP L)).fp ∧ ((clP (fdP L)).er ≤ 8 ∨ (clP (fdP L)).er = 20) := by
  rcases h with ⟨h0, rfl, _⟩ | ⟨hne, hc, _, hf⟩
  · rcases parse_one L with ⟨_, _, e, _⟩ | ⟨h1, _⟩
    · exact ⟨.inl ⟨e, rfl⟩, .inl (by omega)⟩
    · exact absurd h0 h1
  · rcases parse_one L with ⟨h1, _⟩ | ⟨_, h2, h3, h4, _⟩
    · exact absurd h1 hne
    · rw [h3, h4]
      exact ⟨hf, h2⟩
theorem par_slice {A : Nat → Addr} {w : World} {L : List UInt8} {rv ev : Value} (h : PaR A w L rv ev) : ∃ a n c, rv = .slice a n c := by
  rcases h with ⟨_, _, V, ht⟩ | ⟨_, _, rfl, _⟩
  · obtain ⟨a, c, e⟩ := own_slice ht.own
    exact ⟨a, _, c, e⟩
  · exact ⟨none, 0, 0, rfl⟩
theorem ext0 (s : ByteArray) (n : Nat) : (s.extract 0 n).data.toList = s.data.toList.take n := by
  rw [ByteArray.data_extract, Array.toList_extract]
  simp [List.extract]
theorem pslice (s : ByteArray) (j : Nat) (h : j ≤ s.size) (w : World) : (Instr.slice 9 (.string s) none (some (.int .i64 (j : Int))) none).run Tryd.prog w = .ok (.string (s.extract 0 j)) w := by
  have := run_slice_string (P := Tryd.prog) w 9 s .i64 .i64 0 (j : Int) Tryd.underlying9 (by omega) (by omega) (by omega)
  exact this
end Go.Proofs.YtpgpeafmlijfkaaDoor
