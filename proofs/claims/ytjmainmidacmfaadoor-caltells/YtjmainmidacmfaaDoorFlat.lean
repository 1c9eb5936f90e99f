/-
  Structs of ints that came in.
-/
import Derived.Test.YtjmainmidacmfaaDoorRows
import Derived.ProofKit
import Derived.OpenShut
import Derived.ChangeSame
import Derived.ChangeArms
namespace Go.Proofs.YtjmainmidacmfaaDoor
open Go.ChangeShapes Go.WideShapes Go.ChangeAt Go.RowKit
set_option maxRecDepth 100000

/-- all fields are of one type, a cell each, in their order -/
def flatB (fs : Array Field) (ti : TypeId) : Bool := (List.range fs.size).all fun i => match fs[i]? with
  | some f => f.type == ti && f.offset == i
  | none => false

theorem flat_cells {H : Type} {enc : TypeId × Value → H} {P : Program} {W : World} {base : Nat} {sp : Nat → Bool} {held : Bool} {fuel : Nat} {t ti : TypeId} {fs : Array Field} {cs : List Value} {x : DataW H × List MemPlace}
    (ht : P.underlying t = some (.struct fs)) (hi : P.underlying ti = some (.int .i64)) (hci : P.cellsOf ti = 1) (hct : P.cellsOf t = fs.size) (hfs : flatB fs ti = true)
    (h : DataW.trod enc P W base sp held fuel t cs = some x) :
    ∃ zs : List Int, zs.length = fs.size ∧ cs = zs.map (Value.int .i64) ∧ ∀ z ∈ zs, (Lit.int .i64 z).wf = true := by
  obtain ⟨xs, n, _, rfl, hl, hlen, hf⟩ := DataW.trod_struct ht h
  rw [hct] at hl
  have key : ∀ i, i < fs.size → ∃ z : Int, cs[i]? = some (.int .i64 z) ∧ (Lit.int .i64 z).wf = true := by
    intro i hi2
    have hb := List.all_eq_true.1 hfs i (by simpa using hi2)
    have hg : fs[i]? = some (fs[i]'hi2) := Array.getElem?_eq_getElem hi2
    rw [hg] at hb
    simp only [Bool.and_eq_true, beq_iff_eq] at hb
    have hq := hf i _ hg
    rw [hb.1, hb.2, hci, List.getElem?_eq_getElem (by omega)] at hq
    obtain ⟨z, e, _, hw⟩ := DataW.trod_int hi hq
    refine ⟨z, ?_, hw⟩
    have := congrArg (·[0]?) e
    simpa [List.getElem?_take, List.getElem?_drop] using this
  refine ⟨cs.map intOf, by simpa using hl, ?_, ?_⟩
  · apply List.ext_getElem?
    intro i
    by_cases hi2 : i < fs.size
    · obtain ⟨z, hz, _⟩ := key i hi2
      simp [hz, intOf]
    · rw [List.getElem?_eq_none (by omega), List.getElem?_eq_none (by simp; omega)]
  · intro z hz
    obtain ⟨v, hv, rfl⟩ := List.mem_map.1 hz
    obtain ⟨i, hi3, rfl⟩ := List.mem_iff_getElem.1 hv
    obtain ⟨z, hz2, hw⟩ := key i (by omega)
    rw [List.getElem?_eq_getElem hi3] at hz2
    rw [Option.some.inj hz2]
    exact hw

theorem flat_open {H : Type} {enc : TypeId × Value → H} {P : Program} {W : World} {base b2 : Nat} {sp : Nat → Bool} {held : Bool} {t ti : TypeId} {fs : Array Field} {v : Value} {d : DataW H} {p : List MemPlace}
    (ht : P.underlying t = some (.struct fs)) (hi : P.underlying ti = some (.int .i64)) (hci : P.cellsOf ti = 1) (hct : P.cellsOf t = fs.size) (hfs : flatB fs ti = true)
    (hv : Value.okWide P W .any base t v) (h : ∃ fuel, DataW.trod enc P W b2 sp held fuel t v.cells.toList = some (d, p)) :
    ∃ zs : List Int, zs.length = fs.size ∧ v = .agg (zs.map (Value.int .i64)).toArray ∧ ∀ z ∈ zs, (Lit.int .i64 z).wf = true := by
  obtain ⟨cs, rfl, _⟩ := okWide_struct ht hv
  obtain ⟨fuel, hf⟩ := h
  obtain ⟨zs, hl, hcs, hw⟩ := flat_cells ht hi hci hct hfs hf
  refine ⟨zs, hl, ?_, hw⟩
  congr 1
  apply Array.ext'
  simpa [Value.cells] using hcs

theorem flat3 {zs : List Int} (h : zs.length = 3) : ∃ a b c, zs = [a, b, c] := by
  match zs, h with
  | [a, b, c], _ => exact ⟨a, b, c, rfl⟩
theorem flat7 {zs : List Int} (h : zs.length = 7) : ∃ a b c d e f g, zs = [a, b, c, d, e, f, g] := by
  match zs, h with
  | [a, b, c, d, e, f, g], _ => exact ⟨a, b, c, d, e, f, g, rfl⟩
end Go.Proofs.YtjmainmidacmfaaDoor
