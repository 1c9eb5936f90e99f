/-
  codec: Record. Laid by mkrc4.py.
-/
import Derived.Test.YtfhicemfhkhjaabRc3
namespace Go.Proofs.Ytfhicemfhkhjaab
open Go.RowKit
set_option maxRecDepth 100000

/-- what the bytes l are read as: the error, its place, the record -/
def rcs (l : List UInt8) : Nat × Nat × (Int × Rq) :=
  if 4096 < l.length then (1, 0, (0, rq0))
  else if (fKr l 4096).1 ≠ 0 then ((fKr l 4096).1, (fKr l 4096).2.1, (0, rq0))
  else if (fKr l 4096).2.1 < l.length then (4, (fKr l 4096).2.1, (0, rq0))
  else (0, 0, (fKr l 4096).2.2)
/-- what Record answers -/
def Rdr (l : List UInt8) (w : World) (e : Ending) (w' : World) : Prop :=
  ∃ v', e = .returned (.tuple #[.agg (rcC (rcs l).2.2.1 (rcs l).2.2.2 v'), .int .i64 ((rcs l).1 : Int), .int .i64 ((rcs l).2.1 : Int)]) ∧ OLn w' w.heap.size v' (rcs l).2.2.2.lines ∧ Below w.heap.size w w'
theorem Rdr.no {l : List UInt8} {k p : Nat} {w w' : World} (h : rcs l = (k, p, (0, rq0))) (hb : Below w.heap.size w w') : Rdr l w (.returned (.tuple #[.agg #[.int .i64 0, .string ⟨#[]⟩, .int .i64 0, .slice none 0 0, .string ⟨#[]⟩, .int .i64 0, .int .i64 0], .int .i64 (k : Int), .int .i64 (p : Int)])) w' :=
  ⟨.slice none 0 0, by rw [h]; rfl, by rw [h]; exact World.ownsRow_nil _ _ _ _, hb⟩
theorem Rdr.yes {l : List UInt8} {x : Int} {r : Rq} {v : Value} {w w' : World} (h : rcs l = (0, 0, (x, r))) (ho : OLn w' w.heap.size v r.lines) (hb : Below w.heap.size w w') : Rdr l w (.returned (.tuple #[.agg #[.int .i64 x, .string r.id, .int .i64 r.kind, v, .string r.hold, .int .i64 r.ttl, .int .i64 r.now], .int .i64 0, .int .i64 0])) w' :=
  ⟨v, by rw [h]; rfl, by rw [h]; exact ho, hb⟩
end Go.Proofs.Ytfhicemfhkhjaab
