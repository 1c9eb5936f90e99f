/-
  A list of items that came in: each a number and bytes.
-/
import Derived.Test.YtpplkoilpblpkaaDoorGrw
import Derived.ProofKit
import Derived.OpenShut
import Derived.ChangeSame
import Derived.ChangeArms
import Derived.DataReads
namespace Go.Proofs.YtpplkoilpblpkaaDoor
open Go.ChangeShapes Go.WideShapes Go.ChangeAt Go.RowKit
set_option maxRecDepth 100000

theorem it_struct : ∃ f0 f1 : Field, Tryd.prog.underlying 43 = some (.struct #[f0, f1]) ∧ (f0.type = 3 ∧ f0.offset = 0) ∧ (f1.type = 34 ∧ f1.offset = 1) :=
  ⟨_, _, Tryd.underlying43, ⟨rfl, rfl⟩, ⟨rfl, rfl⟩⟩

def byOf {H : Type} : DataW H → UInt8
  | .lit (.int .u8 z) => UInt8.ofNat z.toNat
  | _ => 0
theorem bytes_in {H : Type} {enc : TypeId × Value → H} {W : World} {b2 : Nat} {sp : Nat → Bool} {held : Bool} {fuel : Nat} {cs : List Value} {x : DataW H × List MemPlace} (h : DataW.trod enc Tryd.prog W b2 sp held fuel 34 cs = some x) :
    ∃ v l, cs = [v] ∧ Reads W v l ∧ l.length ≤ maxLen := by
  have hce : Tryd.prog.cellsOf 5 = 1 := by kernel_rfl
  rcases DataW.trod_slice Tryd.underlying34 h with ⟨hcs, _⟩ | ⟨a, len, cap, elems, rest, n, _, hcs, _, _, hl, hm, hlen, hel, _, _⟩
  · exact ⟨_, [], hcs, Reads.nil W, by simp⟩
  · rw [hce] at hel
    have each : ∀ i (hi : i < elems.length), ∃ z : Int, elems[i].1 = .lit (.int .u8 z) ∧ W.cell? (a.add i) = some (.int .u8 z) ∧ (Lit.int .u8 z).wf = true := by
      intro i hi
      have h1 := hel i (by omega)
      rw [List.getElem?_eq_getElem hi] at h1
      obtain ⟨cs, hc, ht⟩ := Option.bind_eq_some_iff.1 h1
      obtain ⟨z, rfl, hy, hw⟩ := DataW.trod_int Tryd.underlying5 ht
      have h2 := World.cells?_some hc
      exact ⟨z, by rw [hy], by simpa [Addr.add] using h2.2.2 0 (by omega), hw⟩
    refine ⟨_, elems.map fun y => byOf y.1, hcs, ?_, by rw [List.length_map]; omega⟩
    by_cases h0 : elems.length = 0
    · have : elems = [] := List.eq_nil_of_length_eq_zero h0
      subst this
      refine .inl ⟨rfl, some a, cap, ?_, fun h => by cases h⟩
      rw [← hlen]
      rfl
    · obtain ⟨z0, _, hc0, _⟩ := each 0 (by omega)
      obtain ⟨b, off, spot⟩ := a
      have hspot : spot = none := by simpa [Addr.add] using World.cell?_spot hc0
      subst hspot
      refine .inr ⟨b, off, cap, by rw [List.length_map, hlen], by rw [List.length_map]; omega, fun j hj => ?_⟩
      rw [List.length_map] at hj
      obtain ⟨z, e, c0, hw⟩ := each j hj
      rw [Addr.add_lit] at c0
      rw [c0]
      have hz := bounds_u8 hw
      simp only [List.getElem_map, e, byOf]
      rw [UInt8.toNat_ofNat']
      congr 2
      omega
theorem item_cells {H : Type} {enc : TypeId × Value → H} {W : World} {b2 : Nat} {sp : Nat → Bool} {held : Bool} {fuel : Nat} {cs : List Value} {x : DataW H × List MemPlace} (h : DataW.trod enc Tryd.prog W b2 sp held fuel 43 cs = some x) :
    ∃ (z : Int) (r : Value) (l : List UInt8), cs = [.int .i64 z, r] ∧ Reads W r l ∧ l.length ≤ maxLen := by
  obtain ⟨f0, f1, hst, h0, h1⟩ := it_struct
  obtain ⟨y0, y1, n, rfl, hlen, g0, g1⟩ := trod_struct2 hst h
  have hc : Tryd.prog.cellsOf 3 = 1 := by kernel_rfl
  have hcb : Tryd.prog.cellsOf 34 = 1 := by kernel_rfl
  have hc2 : Tryd.prog.cellsOf 43 = 2 := by kernel_rfl
  rw [h0.1, h0.2, hc] at g0
  rw [h1.1, h1.2, hcb] at g1
  obtain ⟨z, e0, _, _⟩ := DataW.trod_int Tryd.underlying3 g0
  obtain ⟨r, l, e1, hr, hl⟩ := bytes_in g1
  rw [hc2] at hlen
  match cs, hlen with
  | [u0, u1], _ =>
    simp at e0 e1
    subst e0 e1
    exact ⟨z, _, l, rfl, hr, hl⟩
theorem items_open {H : Type} {enc : TypeId × Value → H} {W : World} {b2 : Nat} {sp : Nat → Bool} {held : Bool} {v : Value} {d : DataW H} {p : List MemPlace} (hvs : ∃ a len cap, v = .slice a len cap) (h : ∃ fuel, DataW.trod enc Tryd.prog W b2 sp held fuel 22 v.cells.toList = some (d, p)) :
    ∃ n, IT W v n := by
  obtain ⟨ao, len0, cap0, rfl⟩ := hvs
  obtain ⟨fuel, hf⟩ := h
  have hce : Tryd.prog.cellsOf 43 = 2 := by kernel_rfl
  rcases DataW.trod_slice Tryd.underlying22 hf with ⟨hcs, hx⟩ | ⟨a, len, cap, elems, rest, n, _, hcs, hx, hb, hl, hm, hlen, hel, _, _⟩
  · simp [Value.cells] at hcs
    obtain ⟨rfl, rfl, rfl⟩ := hcs
    exact ⟨0, by omega, _, _, rfl, Nat.le_refl _, fun j hj => by omega⟩
  · simp [Value.cells] at hcs
    obtain ⟨rfl, rfl, rfl⟩ := hcs
    rw [hce] at hel
    have each : ∀ j, j < len0 → ∃ z r l, W.cell? ((a.add (j * 2)).add 0) = some (.int .i64 z) ∧ W.cell? ((a.add (j * 2)).add 1) = some r ∧ Reads W r l ∧ l.length ≤ 9223372036854775807 := by
      intro j hj
      have h1 := hel j hj
      rw [List.getElem?_eq_getElem (by omega)] at h1
      obtain ⟨cs, hc, ht⟩ := Option.bind_eq_some_iff.1 h1
      obtain ⟨z, r, l, rfl, hr, hll⟩ := item_cells ht
      have h2 := World.cells?_some hc
      exact ⟨z, r, l, by simpa using h2.2.2 0 (by omega), by simpa using h2.2.2 1 (by omega), hr, by unfold maxLen at hll; omega⟩
    refine ⟨len0, by unfold maxLen at hm; omega, _, _, rfl, hl, fun j hj => ?_⟩
    obtain ⟨_, _, _, c00, _⟩ := each 0 (by omega)
    obtain ⟨b, off, spot⟩ := a
    have hspot : spot = none := by simpa [Addr.add] using World.cell?_spot c00
    subst hspot
    obtain ⟨z, r, l, c0, c1, hr, hll⟩ := each j hj
    rw [Addr.add_lit, Addr.add_lit] at c0 c1
    exact ⟨b, off, rfl, z, r, l, c0, c1, hr, hll⟩
end Go.Proofs.YtpplkoilpblpkaaDoor
