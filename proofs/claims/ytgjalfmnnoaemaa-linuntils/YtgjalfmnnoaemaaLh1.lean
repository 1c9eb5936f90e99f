/-
  lin: ops as they are read: an op's cells, its load kept whole, lists of ops.
-/
import Derived.Test.YtgjalfmnnoaemaaKb1
import Derived.Deep.WholeRow
import Derived.Handy
namespace Go.Proofs.Ytgjalfmnnoaemaa
open Go.RowKit
set_option maxRecDepth 100000

/-- a reply -/
structure Ry where
  id : ByteArray
  err : Int
  line : Int
  levels : List Lv
  now : Int
/-- an op: request, reply, asked at, answered at, open -/
structure Opx where
  req : Rq
  rep : Ry
  beg : Int
  fin : Int
  opn : Bool
def rqA (r : Rq) (v : Value) : Value := .agg #[.string r.id, .int .i64 r.kind, v, .string r.hold, .int .i64 r.ttl, .int .i64 r.now]
def ryA (r : Ry) (v : Value) : Value := .agg #[.string r.id, .int .i64 r.err, .int .i64 r.line, v, .int .i64 r.now]
/-- an op's cells; its lines at v1, its levels at v2 -/
def opC (x : Opx) (v1 v2 : Value) : List Value := [.string x.req.id, .int .i64 x.req.kind, v1, .string x.req.hold, .int .i64 x.req.ttl, .int .i64 x.req.now, .string x.rep.id, .int .i64 x.rep.err, .int .i64 x.rep.line, v2, .int .i64 x.rep.now, .int .i64 x.beg, .int .i64 x.fin, .bool x.opn]
def opA (x : Opx) (v1 v2 : Value) : Value := .agg (opC x v1 v2).toArray
theorem opC_len (x : Opx) (v1 v2 : Value) : (opC x v1 v2).length = 14 := rfl
theorem opinfo : (Try.prog.info? 35).map (fun i => (i.zero, i.size, i.bytes)) = some (some (.agg #[.string ⟨#[]⟩, .int .i64 0, .slice none 0 0, .string ⟨#[]⟩, .int .i64 0, .int .i64 0, .string ⟨#[]⟩, .int .i64 0, .int .i64 0, .slice none 0 0, .int .i64 0, .int .i64 0, .int .i64 0, .bool false]), 14, 168) := by kernel_rfl
/-- the op x lies in block b from off on, its lists at v1, v2 -/
def Op2 (w : World) (b off : Nat) (x : Opx) (v1 v2 : Value) : Prop := ∀ j u, (opC x v1 v2)[j]? = some u → w.cell? ⟨b, off + j, none⟩ = some u
theorem Op2.below {w w' : World} {b off : Nat} {x : Opx} {v1 v2 : Value} (h : Op2 w b off x v1 v2) (hb : Below w.heap.size w w') : Op2 w' b off x v1 v2 := fun j u hj => below_cells hb _ _ (h j u hj)
theorem Op2.old {w w' : World} {b off : Nat} {x : Opx} {v1 v2 : Value} (h : Op2 w b off x v1 v2) (hb : w'.heap[b]? = w.heap[b]?) : Op2 w' b off x v1 v2 := fun j u hj => by
  have := h j u hj
  unfold World.cell? at *
  rw [hb]
  exact this
/-- the whole op out of its cells -/
def opLd (a : Addr) : Sem Value := loadVar 35 a
theorem opLd_op (a : Addr) : loadVar 35 a = opLd a := rfl
theorem run_opLd {w : World} {b off : Nat} {x : Opx} {v1 v2 : Value} (h : Op2 w b off x v1 v2) : (opLd ⟨b, off, none⟩).run Try.prog w = .ok (opA x v1 v2) w := by
  have hl : (loadCells ⟨b, off, none⟩ (opC x v1 v2).length).run Try.prog w = .ok (opC x v1 v2).toArray w :=
    run_loadCells_list (P := Try.prog) w ⟨b, off, none⟩ (opC x v1 v2) (fun j v hv => by rw [Addr.add_lit]; exact h j v hv)
  obtain ⟨i, hi, hz, hsz, hby⟩ := info_parts opinfo
  have hagg : (isAgg 35).run Try.prog w = .ok true w := by simp [isAgg]
  unfold opLd opA
  rw [opC_len] at hl
  simp [loadVar, hagg, sizeOf, typeInfo, hi, hsz, hl]
/-- a slice reads as ops -/
def RO (w : World) (v : Value) (L : List Opx) : Prop :=
  (L = [] ∧ ∃ ao cap, v = .slice ao 0 cap ∧ (ao = none → cap = 0)) ∨
  ∃ b off cap, v = .slice (some ⟨b, off, none⟩) L.length cap ∧ (L.length ≤ cap ∧ cap ≤ 9223372036854775807) ∧ ∀ j (hj : j < L.length), ∃ v1 v2, Op2 w b (off + j * 14) L[j] v1 v2 ∧ RLn w v1 L[j].req.lines ∧ RLv w v2 L[j].rep.levels
theorem RO.below {w w' : World} {v : Value} {L : List Opx} (h : RO w v L) (hb : Below w.heap.size w w') : RO w' v L := by
  rcases h with h | ⟨b, off, cap, hv, hl, hc⟩
  · exact .inl h
  · exact .inr ⟨b, off, cap, hv, hl, fun j hj => by obtain ⟨v1, v2, h1, h2, h3⟩ := hc j hj; exact ⟨v1, v2, h1.below hb, h2.below hb, h3.below hb⟩⟩
theorem RO.form {w : World} {v : Value} {L : List Opx} (h : RO w v L) : ∃ ao cap, v = .slice ao L.length cap := by
  rcases h with ⟨rfl, ao, cap, rfl, _⟩ | ⟨b, off, cap, rfl, _⟩
  · exact ⟨_, _, rfl⟩
  · exact ⟨_, _, rfl⟩
/-- an op at a place: where it lies -/
theorem RO.at {w : World} {v : Value} {L : List Opx} (h : RO w v L) (j : Nat) (hj : j < L.length) :
    ∃ b off cap v1 v2, v = .slice (some ⟨b, off, none⟩) L.length cap ∧ L.length ≤ cap ∧ Op2 w b (off + j * 14) L[j] v1 v2 ∧ RLn w v1 L[j].req.lines ∧ RLv w v2 L[j].rep.levels := by
  rcases h with ⟨rfl, _⟩ | ⟨b, off, cap, hv, hl, hc⟩
  · simp at hj
  · obtain ⟨v1, v2, h1, h2, h3⟩ := hc j hj
    exact ⟨b, off, cap, v1, v2, hv, hl.1, h1, h2, h3⟩
end Go.Proofs.Ytgjalfmnnoaemaa
