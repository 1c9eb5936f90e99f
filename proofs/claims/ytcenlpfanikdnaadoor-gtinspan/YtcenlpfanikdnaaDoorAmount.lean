/-
  Amounts: gtin.Amount.
-/
import Derived.Test.YtcenlpfanikdnaaDoorLater
import Derived.Test.YtcenlpfanikdnaaDoorRefKind
import Derived.Lib.Strings
import Derived.Deep.CutRange
import Derived.Deep.RegionWith
import Derived.Deep.RegionHeld
import Derived.Deep.DrawnRows
namespace Go.Proofs.YtcenlpfanikdnaaDoor
open Go.RowKit
set_option maxRecDepth 100000
attribute [local go_sem ↓] Go.wp_at_zero Go.wp_at_succ

/-- an element says an amount -/
def AmtOk (a v : List UInt8) : Prop := ∃ k, kfind a = some k ∧ (k = 6 ∧ v.length = 6 ∨ k = 7 ∧ 1 ≤ v.length ∧ v.length ≤ 15) ∧ AllD v

theorem kfind_range {l : List UInt8} {k : Int} (h : kfind l = some k) : 0 ≤ k ∧ k ≤ 12 := by
  have hm := kfind_mem h
  have : ∀ x ∈ knl, 0 ≤ x.2 ∧ x.2 ≤ 12 := by decide
  exact this _ hm

theorem amt_size {a : List UInt8} {k : Int} (h : kfind a = some k) (hk : k = 6 ∨ k = 7) : a.length = 4 := by
  have hm := kfind_mem h
  have : ∀ x ∈ knl, (x.2 = 6 ∨ x.2 = 7) → x.1.length = 4 := by decide
  exact this _ hm hk

theorem nm_one (s : ByteArray) (h : s.size = 4) : nm (s.extract 3 4).data.toList = dv (s[3]'(by omega)) := by
  have hl := len_list s
  have e : (s.extract 3 4).data.toList = [s[3]'(by omega)] := by
    rw [Lib.extract_data, ← byte_list s 3 (by omega)]
    apply List.ext_getElem
    · simp; omega
    · intro i h1 h2
      have : i = 0 := by simp at h2; omega
      subst this
      simp
  rw [e]
  simp [nm]

end Go.Proofs.YtcenlpfanikdnaaDoor
