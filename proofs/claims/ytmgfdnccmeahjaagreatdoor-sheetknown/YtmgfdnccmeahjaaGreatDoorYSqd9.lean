/-
  Sqd9: Sheets: Close. Laid by mksqd.py.
-/
import Derived.Test.YtmgfdnccmeahjaaGreatDoorYSqd1
import Derived.Test.YtmgfdnccmeahjaaGreatDoorYSqd2
import Derived.Test.YtmgfdnccmeahjaaGreatDoorYSqd3
namespace Go.Proofs.YtmgfdnccmeahjaaGreatDoor
open Go.RowKit
set_option maxRecDepth 100000
set_option linter.unusedVariables false
set_option linter.unusedSimpArgs false

theorem close_any (A : Nat → Addr) (G : Nat → Prop) (b : Nat) (s : Rs) (w : World) (hE : Lea A G w) (h : RX A G w b s) (ht : s.td = []) (hcu : s.cur.length ≤ 4096) (hcl : s.cs.length ≤ 900000) (hrw : s.rw ≤ 1000000) :
    Calls Tryz.prog 51 #[.pointer (some ⟨b, 0, none⟩)] w fun e w' => ClA A G b w (clP s) e w' := by
  have htd : s.td.length ≤ 1000000 := by rw [ht]; simp
  have hs : { s with td := [] } = s := by rw [← ht]
  unfold clP
  by_cases he : s.er = 0
  · rw [if_pos he, hs]
    by_cases h1 : s.md = 1
    · exact close_beginRow A G b s w hE h he hcu hcl hrw htd (by unfold fnO; simp [h1])
    by_cases h2 : s.md = 2
    · exact close_beginCell A G b s w hE h he hcu hcl hrw htd (by unfold fnO; simp [h2])
    by_cases h3 : s.md = 3
    · exact close_plain A G b s w hE h he hcu hcl hrw htd (by unfold fnO; simp [h3])
    by_cases h4 : s.md = 4
    · exact close_quoted A G b s w hE h he hcu hcl hrw htd (by unfold fnO; simp [h4])
    by_cases h5 : s.md = 5
    · exact close_behindQuote A G b s w hE h he hcu hcl hrw htd (by unfold fnO; simp [h5])
    exact close_behindReturn A G b s w hE h he hcu hcl hrw htd (by unfold fnO; simp [h1, h2, h3, h4, h5])
  · rw [if_neg he]
    exact close_er A G b s w hE h he
end Go.Proofs.YtmgfdnccmeahjaaGreatDoor
