/-
  Sdg: Sheets: a number's digits; the text of an error and of a Fault.
-/
import Derived.Test.YtmgfdnccmeahjaaGreatDoorYJ
import Derived.Test.YtmgfdnccmeahjaaGreatDoorShelf
import Derived.Test.YtmgfdnccmeahjaaGreatDoorRows
import Derived.Lib.ItoaNum
import Derived.Lib.ItoaMem
import Derived.Lib.ItoaLen
import Derived.Lib.LaidTab
import Derived.Lib.AppendIntMem
import Derived.Laws.BytesString
import Derived.Laws.IdiomStrings
import Derived.Deep.RegionHeld3
import Derived.Deep.DeepCutAuto
namespace Go.Proofs.YtmgfdnccmeahjaaGreatDoor
open Go.RowKit
set_option maxRecDepth 100000
set_option linter.unusedVariables false
set_option linter.unusedSimpArgs false

/-- nothing older than w has turned -/
def LtB (w w' : World) : Prop := Below w.heap.size w w'
theorem LtB.step {a b c : World} (h : LtB a b) (h2 : Below b.heap.size b c) : LtB a c := Below.trans h (Below.mono h2 (Below.size h))
/-- the table of tens lies there -/
def HasPw (w : World) : Prop := Lib.TabIs Tryz.prog w "internal/strconv.uint64pow10" .u64 Lib.pow10Tab
theorem HasPw.below {w w' : World} (h : HasPw w) (hb : Below w.heap.size w w') : HasPw w' := by
  have hg : Tryz.prog.globalNamed "internal/strconv.uint64pow10" = some 21 := by kernel_rfl
  unfold HasPw Lib.TabIs World.var? at h ⊢
  rw [hg] at h ⊢
  simp only [Option.bind_some] at h ⊢
  cases e : w.heap[(21 : Nat)]? with
  | none => rw [e] at h; simp at h
  | some b =>
    have hlt := (Array.getElem?_eq_some_iff.1 e).1
    rw [hb.block _ hlt]
    exact h
/-- an error's text -/
def erT (c : Nat) : ByteArray := ⟨(tV c).toArray⟩
theorem Sn.text {A : Nat → Addr} {w : World} (h : Sn A w) {c : Nat} (hc : 1 ≤ c ∧ c ≤ 20) : w.cell? (A c) = some (.string (erT c)) := by
  obtain ⟨_, ⟨s, h2, h3⟩, _⟩ := h c hc.1 hc.2
  rw [h2]
  unfold erT
  rw [← h3]
end Go.Proofs.YtmgfdnccmeahjaaGreatDoor
