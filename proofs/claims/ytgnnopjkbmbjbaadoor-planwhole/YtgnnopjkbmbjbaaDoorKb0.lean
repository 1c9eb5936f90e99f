/-
  The ground: what is hidden, cells that stay.
-/
import Derived.Test.YtgnnopjkbmbjbaaDoorRows
import Derived.WalkKit
import Derived.ProofKit
import Derived.Laws.AppendOwnNone
import Derived.OpenShut
import Derived.Deep.MidRow
import Derived.Deep.QuietTactic
import Derived.BigQuiet
import Derived.WalkSmall
namespace Go.Proofs.YtgnnopjkbmbjbaaDoor
open Go.RowKit
set_option maxRecDepth 100000

theorem hid {p : Prop} (h : p) : Hid p := h
theorem below_cells {w w' : World} (hb : Below w.heap.size w w') : ∀ p : Addr, ∀ u, w.cell? p = some u → w'.cell? p = some u :=
  fun p _ h => (hb.cell (p := p) (World.block_lt_of_cell? _ _ h)).trans h
theorem Below.grew {w w' : World} (h : Below w.heap.size w w') : w.grownBy w' none := ⟨h.os, h.tape, h.output, h.size, fun k hk _ => h.block k hk⟩
end Go.Proofs.YtgnnopjkbmbjbaaDoor
