/-
  A Fault's text over any table of tens, of all twenty errors.
-/
import Derived.Test.YtpgpeafmlijfkaaDoorFeb
namespace Go.Proofs.YtpgpeafmlijfkaaDoor
open Go.RowKit
set_option maxRecDepth 100000
set_option linter.unusedVariables false
/-- Fault.Error answers some text of line, column and code -/
def ErrN (A : Nat → Addr) (w : World) : Prop := ∃ tx : Nat → Nat → Nat → ByteArray, ∀ (f c x y : Nat) (wx : World), Below w.heap.size w wx → x ≤ 262200 → y ≤ 262200 → wx.heap[f]? = some (.cells #[.int .i64 (x : Int), .int .i64 (y : Int), erV A c] 51 (0, 0)) → 1 ≤ c ∧ c ≤ 20 →
  Calls Tryd.prog 63 #[.pointer (some ⟨f, 0, none⟩)] wx fun e w' => e = .returned (.string (tx x y c)) ∧ Below wx.heap.size wx w'
theorem errN_any (A : Nat → Addr) (w : World) (hA : Sn A w) (hT : TabU w) : ErrN A w := by
  have hN : ∃ tn : Nat → ByteArray, ∀ u, u ≤ 262200 → (tn u).size ≤ 21 ∧ ∀ wx, Below w.heap.size w wx → Calls Tryd.prog 65 #[.int .i64 (u : Int)] wx fun e w' => e = .returned (.string (tn u)) ∧ Below wx.heap.size wx w' := by
    refine ⟨fun u => if h : u ≤ 262200 then Classical.choose (itoa_tab u w h hT) else ⟨#[]⟩, fun u h => ?_⟩
    simp only [h, dite_true]
    exact Classical.choose_spec (itoa_tab u w h hT)
  obtain ⟨tn, hN⟩ := hN
  refine ⟨fun x y c => fJn (tn x) (tn y) (erT c), fun f c x y wx hb hx hy hf hc => ?_⟩
  have h2 := (hA.below hb).text hc
  have z3 := erT_size ⟨c, by omega⟩
  rw [erV_pos A (by omega)] at hf
  exact ferror_tab (A c) f x y (tn x) (tn y) (erT c) wx (hN x hx).1 (hN y hy).1 z3 (fun wy hy2 => (hN x hx).2 wy (hb.trans (Below.mono hy2 hb.size))) (fun wy hy2 => (hN y hy).2 wy (hb.trans (Below.mono hy2 hb.size))) hf h2
end Go.Proofs.YtpgpeafmlijfkaaDoor
