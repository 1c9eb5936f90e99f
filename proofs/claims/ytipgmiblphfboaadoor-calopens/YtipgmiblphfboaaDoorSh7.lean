/-
  shopOn: the shop of a rule, and a day's number.
-/
import Derived.Test.YtipgmiblphfboaaDoorSh3
import Derived.Test.YtipgmiblphfboaaDoorSh6
import Derived.Deep.WholeRow
namespace Go.Proofs.YtipgmiblphfboaaDoor
open Go.RowKit
set_option maxRecDepth 100000

/-- a rule's cells, its value -/
def rlC (wk : Nat → Bool) (v1 v2 : Value) : Array Value := #[.bool (wk 0), .bool (wk 1), .bool (wk 2), .bool (wk 3), .bool (wk 4), .bool (wk 5), .bool (wk 6), v1, v2]
def rlV (wk : Nat → Bool) (v1 v2 : Value) : Value := .agg (rlC wk v1 v2)
/-- a list of days that may be -/
abbrev RO (D : List (Int × Int × Int)) : Prop := D.length ≤ 1000 ∧ Ris D
/-- are they rising days? -/
def risB (D : List (Int × Int × Int)) : Bool := (List.range D.length).all fun i => match D[i]? with
  | some x => decide (VD x.1 x.2.1 x.2.2) && (match i with
    | 0 => true
    | j + 1 => match D[j]? with
      | some y => decide (nbT y < nbT x)
      | none => true)
  | none => true
theorem ris_iff (D : List (Int × Int × Int)) : Ris D ↔ risB D = true := by
  unfold risB
  rw [List.all_eq_true]
  constructor
  · intro h i hi
    have hi2 : i < D.length := by simpa using hi
    have hx := h i hi2 hi2
    rw [List.getElem?_eq_getElem hi2]
    have hv : VD D[i].1 D[i].2.1 D[i].2.2 := hx.1
    simp only [decide_eq_true hv, Bool.true_and]
    match i, hi2, hx with
    | 0, _, _ => rfl
    | j + 1, hi2, hx =>
      have hl := hx.2 (by omega)
      have hj : j < D.length := by omega
      simp only [List.getElem?_eq_getElem hj]
      exact decide_eq_true hl
  · intro h i hi hi2
    have hx := h i (by simpa using hi2)
    rw [List.getElem?_eq_getElem hi2] at hx
    simp only [Bool.and_eq_true, decide_eq_true_eq] at hx
    refine ⟨hx.1, fun h0 => ?_⟩
    match i, hi2, hx, h0 with
    | j + 1, hi2, hx, _ =>
      have hj : j < D.length := by omega
      have h3 := hx.2
      simp only [List.getElem?_eq_getElem hj] at h3
      exact of_decide_eq_true h3
/-- the special days of a rule; none, if it is not right -/
def rlA (D E : List (Int × Int × Int)) : Option (List (Int × Bool)) := if (decide (D.length ≤ 1000) && risB D) && (decide (E.length ≤ 1000) && risB E) then mrg (D.map nbT) (E.map nbT) else none
theorem rlA_if {D E : List (Int × Int × Int)} : ((decide (D.length ≤ 1000) && risB D) && (decide (E.length ≤ 1000) && risB E)) = true ↔ RO D ∧ RO E := by
  simp only [Bool.and_eq_true, decide_eq_true_eq, ← ris_iff]
theorem rlA_yes {D E : List (Int × Int × Int)} (h1 : RO D) (h2 : RO E) : rlA D E = mrg (D.map nbT) (E.map nbT) := by unfold rlA; rw [if_pos (rlA_if.2 ⟨h1, h2⟩)]
theorem rlA_no {D E : List (Int × Int × Int)} (h : ¬ (RO D ∧ RO E)) : rlA D E = none := by unfold rlA; rw [if_neg (fun e => h (rlA_if.1 e))]
/-- the shop's block -/
def SZ (w : World) (b : Nat) (wk : Nat → Bool) (v : Value) : Prop := w.heap[b]? = some (.cells (shC wk v) 46 (0, 0))
theorem SZ.facts {w : World} {b : Nat} {wk : Nat → Bool} {v : Value} (h : SZ w b wk v) : (w.cell? ⟨b, 0, none⟩ = some (.bool (wk 0)) ∧ w.cell? ⟨b, 1, none⟩ = some (.bool (wk 1)) ∧ w.cell? ⟨b, 2, none⟩ = some (.bool (wk 2)) ∧ w.cell? ⟨b, 3, none⟩ = some (.bool (wk 3)) ∧ w.cell? ⟨b, 4, none⟩ = some (.bool (wk 4)) ∧ w.cell? ⟨b, 5, none⟩ = some (.bool (wk 5)) ∧ w.cell? ⟨b, 6, none⟩ = some (.bool (wk 6)) ∧ w.cell? ⟨b, 7, none⟩ = some v) ∧ (∀ k, w.frozen? ⟨b, k, none⟩ = false) ∧ b < w.heap.size := by
  refine ⟨⟨?_, ?_, ?_, ?_, ?_, ?_, ?_, ?_⟩, fun k => Lib.frozen_of_heap h k, (Array.getElem?_eq_some_iff.1 h).1⟩
  all_goals (rw [Lib.cell_of_heap h]; rfl)
theorem SZ.later {w w' : World} {b : Nat} {wk : Nat → Bool} {v : Value} (h : SZ w b wk v) (hb : Below w.heap.size w w') : SZ w' b wk v := (hb.block b h.facts.2.2).trans h
/-- the shop's block written anew -/
def putS (w : World) (b : Nat) (wk : Nat → Bool) (v : Value) : World := w.setRow b (shC wk v)
theorem SZ.put {w : World} {b : Nat} {wk : Nat → Bool} {v : Value} (h : SZ w b wk v) (wk' : Nat → Bool) (v' : Value) : SZ (putS w b wk' v') b wk' v' := by
  unfold SZ at *
  simp [putS, World.setRow, Array.getElem?_modify, h]
theorem putS_other {w : World} {b k : Nat} {wk : Nat → Bool} {v : Value} (hk : k ≠ b) : (putS w b wk v).heap[k]? = w.heap[k]? := by
  have : b ≠ k := fun e => hk e.symm
  simp [putS, World.setRow, Array.getElem?_modify, this]
@[simp] theorem putS_size (w : World) (b : Nat) (wk : Nat → Bool) (v : Value) : (putS w b wk v).heap.size = w.heap.size := by simp [putS, World.setRow]
theorem putS_below {w0 w : World} {B b : Nat} {wk : Nat → Bool} {v : Value} (h : Below B w0 w) (hb : B ≤ b) : Below B w0 (putS w b wk v) := ⟨h.os, h.tape, h.output, by rw [putS_size]; exact h.size, fun k hk => by rw [putS_other (by omega)]; exact h.block k hk⟩
theorem shinfo : (Tryd.prog.info? 46).map (·.size) = some 8 := by kernel_rfl
def shLd (a : Addr) : Sem Value := loadVar 46 a
theorem shLd_op (a : Addr) : loadVar 46 a = shLd a := rfl
def shSt (a : Addr) (v : Value) : Sem Unit := storeVar 46 a v
theorem shSt_op (a : Addr) (v : Value) : storeVar 46 a v = shSt a v := rfl
theorem run_shLd {w : World} {b : Nat} {wk : Nat → Bool} {v : Value} (h : SZ w b wk v) : (shLd ⟨b, 0, none⟩).run Tryd.prog w = .ok (.agg #[.bool (wk 0), .bool (wk 1), .bool (wk 2), .bool (wk 3), .bool (wk 4), .bool (wk 5), .bool (wk 6), v]) w := by
  exact run_loadVar_row _ _ _ _ (shC wk v) (0, 0) _ h Tryd.underlying46 rfl shinfo
theorem run_shSt {w : World} {b : Nat} {wk wk' : Nat → Bool} {v v' : Value} (h : SZ w b wk v) (hv : v'.oneCell' = true) : (shSt ⟨b, 0, none⟩ (.agg #[.bool (wk' 0), .bool (wk' 1), .bool (wk' 2), .bool (wk' 3), .bool (wk' 4), .bool (wk' 5), .bool (wk' 6), v'])).run Tryd.prog w = .ok () (putS w b wk' v') :=
  run_storeVar_row _ _ _ _ (shC wk v) (shC wk' v') h shinfo rfl (by simp [shC, hv]; simp [Value.oneCell'])
def RZ (w : World) (b : Nat) (wk : Nat → Bool) (v1 v2 : Value) : Prop := w.heap[b]? = some (.cells (rlC wk v1 v2) 26 (0, 0))
theorem RZ.facts {w : World} {b : Nat} {wk : Nat → Bool} {v1 v2 : Value} (h : RZ w b wk v1 v2) : (w.cell? ⟨b, 0, none⟩ = some (.bool (wk 0)) ∧ w.cell? ⟨b, 1, none⟩ = some (.bool (wk 1)) ∧ w.cell? ⟨b, 2, none⟩ = some (.bool (wk 2)) ∧ w.cell? ⟨b, 3, none⟩ = some (.bool (wk 3)) ∧ w.cell? ⟨b, 4, none⟩ = some (.bool (wk 4)) ∧ w.cell? ⟨b, 5, none⟩ = some (.bool (wk 5)) ∧ w.cell? ⟨b, 6, none⟩ = some (.bool (wk 6)) ∧ w.cell? ⟨b, 7, none⟩ = some v1 ∧ w.cell? ⟨b, 8, none⟩ = some v2) ∧ b < w.heap.size := by
  refine ⟨⟨?_, ?_, ?_, ?_, ?_, ?_, ?_, ?_, ?_⟩, (Array.getElem?_eq_some_iff.1 h).1⟩
  all_goals (rw [Lib.cell_of_heap h]; rfl)
theorem RZ.later {w w' : World} {b : Nat} {wk : Nat → Bool} {v1 v2 : Value} (h : RZ w b wk v1 v2) (hb : Below w.heap.size w w') : RZ w' b wk v1 v2 := (hb.block b h.facts.2).trans h

def wkLd (a : Addr) : Sem Value := loadVar 23 a
theorem wkLd_op (a : Addr) : loadVar 23 a = wkLd a := rfl
theorem run_wkLd {w : World} {b : Nat} {wk : Nat → Bool} {v1 v2 : Value} (h : RZ w b wk v1 v2) : (wkLd ⟨b, 0, none⟩).run Tryd.prog w = .ok (.agg #[.bool (wk 0), .bool (wk 1), .bool (wk 2), .bool (wk 3), .bool (wk 4), .bool (wk 5), .bool (wk 6)]) w := by
  obtain ⟨⟨j0, j1, j2, j3, j4, j5, j6, _⟩, _⟩ := h.facts
  unfold wkLd
  simp [loadVar, go_sem, j0, j1, j2, j3, j4, j5, j6]
def shB (l : Array (Nat × Value)) : Sem Value := Instr.build 46 l
theorem shB_op (l : Array (Nat × Value)) : Instr.build 46 l = shB l := rfl
theorem run_shB0 (w : World) : (shB #[]).run Tryd.prog w = .ok (.agg #[.bool false, .bool false, .bool false, .bool false, .bool false, .bool false, .bool false, .slice none 0 0]) w := by
  unfold shB
  simp [Instr.build, go_sem]
theorem run_shB (wk : Nat → Bool) (ao : Option Addr) (l c : Nat) (w : World) : (shB #[(0, .agg #[.bool (wk 0), .bool (wk 1), .bool (wk 2), .bool (wk 3), .bool (wk 4), .bool (wk 5), .bool (wk 6)]), (1, .slice ao l c)]).run Tryd.prog w = .ok (.agg #[.bool (wk 0), .bool (wk 1), .bool (wk 2), .bool (wk 3), .bool (wk 4), .bool (wk 5), .bool (wk 6), .slice ao l c]) w := by
  unfold shB
  simp [Instr.build, go_sem]
end Go.Proofs.YtipgmiblphfboaaDoor
