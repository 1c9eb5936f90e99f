/-
  A list of elements that came in.
-/
import Derived.Test.YtdcodedfojjacaaDoorElem
import Derived.Test.YtdcodedfojjacaaDoorElems
import Derived.SizedLaws
import Derived.DataReads
namespace Go.Proofs.YtdcodedfojjacaaDoor
open Go.ChangeShapes Go.WideShapes Go.ChangeAt Go.RowKit
set_option maxRecDepth 100000

def elD {H : Type} (x : El) : DataW H := .agg [.lit (.string x.1.data.toList), .lit (.string x.2.data.toList)]
def elOf {H : Type} : DataW H → El
  | .agg [.lit (.string a), .lit (.string b)] => (⟨a.toArray⟩, ⟨b.toArray⟩)
  | _ => (⟨#[]⟩, ⟨#[]⟩)
theorem elOf_elD {H : Type} (a b : ByteArray) : elOf (.agg [.lit (.string a.data.toList), .lit (.string b.data.toList)] : DataW H) = (a, b) := by
  unfold elOf
  simp

theorem elems_open {H : Type} {enc : TypeId × Value → H} {W : World} {b2 : Nat} {sp : Nat → Bool} {held : Bool} {v : Value} {d : DataW H} {p : List MemPlace} (hvs : ∃ a len cap, v = .slice a len cap) (h : ∃ fuel, DataW.trod enc Tryd.prog W b2 sp held fuel 22 v.cells.toList = some (d, p)) :
    ∃ L : List El, RE W v L ∧ (d = .nil ∧ L = [] ∨ ∃ spare, d = .slice (L.map elD) spare) := by
  obtain ⟨ao, len0, cap0, rfl⟩ := hvs
  obtain ⟨fuel, hf⟩ := h
  have hce : Tryd.prog.cellsOf 33 = 2 := by kernel_rfl
  rcases DataW.trod_slice Tryd.underlying22 hf with ⟨hcs, hx⟩ | ⟨a, len, cap, elems, rest, n, _, hcs, hx, hb, hl, hm, hlen, hel, _, _⟩
  · simp [Value.cells] at hcs
    obtain ⟨rfl, rfl, rfl⟩ := hcs
    exact ⟨[], .inl ⟨rfl, none, 0, rfl, fun _ => rfl⟩, .inl ⟨(Prod.mk.inj hx).1, rfl⟩⟩
  · simp [Value.cells] at hcs
    obtain ⟨rfl, rfl, rfl⟩ := hcs
    rw [hce] at hel
    have each : ∀ i (hi : i < elems.length), ∃ x y : ByteArray, elems[i] = (.agg [.lit (.string x.data.toList), .lit (.string y.data.toList)], []) ∧ W.cell? ((a.add (i * 2)).add 0) = some (.string x) ∧ W.cell? ((a.add (i * 2)).add 1) = some (.string y) := by
      intro i hi
      have h1 := hel i (by omega)
      rw [List.getElem?_eq_getElem hi] at h1
      obtain ⟨cs, hc, ht⟩ := Option.bind_eq_some_iff.1 h1
      obtain ⟨x, y, rfl, _, _, hy⟩ := elem_cells ht
      have h2 := World.cells?_some hc
      exact ⟨x, y, hy, by simpa using h2.2.2 0 (by omega), by simpa using h2.2.2 1 (by omega)⟩
    have hL : ∀ i (hi : i < elems.length), (elems.map fun y => elD (H := H) (elOf y.1))[i]'(by simpa using hi) = elems[i].1 := by
      intro i hi
      obtain ⟨x, y, e, _⟩ := each i hi
      rw [List.getElem_map, e]
      simp only [elOf_elD]
      rfl
    refine ⟨elems.map fun y => elOf y.1, ?_, .inr ⟨rest.map (·.1), ?_⟩⟩
    · by_cases h0 : elems.length = 0
      · have : elems = [] := List.eq_nil_of_length_eq_zero h0
        subst this
        refine .inl ⟨rfl, some a, cap0, ?_, fun h => by cases h⟩
        rw [← hlen]
        rfl
      · obtain ⟨x0, y0, _, hc0, _⟩ := each 0 (by omega)
        obtain ⟨b, off, spot⟩ := a
        have hspot : spot = none := by simpa [Addr.add] using World.cell?_spot hc0
        subst hspot
        refine .inr ⟨b, off, cap0, by rw [List.length_map, hlen], by rw [List.length_map]; omega, fun j hj => ?_⟩
        rw [List.length_map] at hj
        obtain ⟨x, y, e, c0, c1⟩ := each j hj
        rw [Addr.add_lit, Addr.add_lit] at c0 c1
        simp only [List.getElem_map, e, elOf_elD]
        exact ⟨c0, c1⟩
    · rw [(Prod.mk.inj hx).1]
      congr 1
      apply List.ext_getElem
      · simp
      · intro i h1 h2
        have hi : i < elems.length := by simpa using h1
        have := hL i hi
        simp only [List.getElem_map] at this ⊢
        exact this.symm

theorem weights_in {P : Program} {H : Type} {e : TypeId} (x : DataW H) (n : Nat) (hn : n ∈ x.weights P e) : ∀ l : List (DataW H), x ∈ l → n ∈ DataW.weightsAll P e l := by
  intro l hx
  induction l with
  | nil => cases hx
  | cons y t ih =>
    unfold DataW.weightsAll
    rcases List.mem_cons.1 hx with rfl | hx
    · exact List.mem_append_left _ hn
    · exact List.mem_append_right _ (ih hx)

/-- the reach bounds how many there are, and each text -/
theorem elems_sized {H : Type} {ts : List TypeId} {ds : List (DataW H)} {d : DataW H} {L : List El} (hsz : (DataW.weightsEach Tryd.prog ts ds).all (· ≤ reachBytes) = true) {j : Nat} (ht : ts[j]? = some 22) (hd : ds[j]? = some d) (h : d = .nil ∧ L = [] ∨ ∃ spare, d = .slice (L.map elD) spare) :
    L.length * 32 ≤ reachBytes ∧ ∀ x ∈ L, x.2.size ≤ reachBytes := by
  rcases h with ⟨_, rfl⟩ | ⟨spare, rfl⟩
  · exact ⟨by simp, by simp⟩
  · have hb : Tryd.prog.bytesOf 33 = 32 := by kernel_rfl
    refine ⟨?_, fun x hx => ?_⟩
    · have := sized_slice hsz ht hd Tryd.underlying22
      rw [hb, List.length_map] at this
      omega
    · have hn : x.2.data.toList.length ∈ (elD x : DataW H).weights Tryd.prog 33 := by
        obtain ⟨f0, f1, hst, _, _⟩ := el_struct
        unfold elD
        simp [DataW.weights, hst, DataW.weightsEach]
      have hm := weights_in (elD x) _ hn (L.map elD) (List.mem_map.2 ⟨x, hx, rfl⟩)
      have := List.all_eq_true.1 hsz _ (DataW.weights_mem_each ht hd x.2.data.toList.length (by simp only [DataW.weights, Tryd.underlying22]; exact List.mem_cons_of_mem _ (List.mem_append_left _ hm)))
      have h2 : x.2.data.toList.length = x.2.size := len_list x.2
      rw [h2] at this
      simpa using this
end Go.Proofs.YtdcodedfojjacaaDoor
