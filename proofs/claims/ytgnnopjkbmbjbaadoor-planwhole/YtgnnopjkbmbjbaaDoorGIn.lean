/-
  A list that came in, of whatever its elements are read as; its size.
-/
import Derived.Test.YtgnnopjkbmbjbaaDoorPq0
import Derived.WalkKit
import Derived.ProofKit
import Derived.OpenShut
import Derived.SizedLaws
namespace Go.Proofs.YtgnnopjkbmbjbaaDoor
open Go.ChangeShapes Go.WideShapes Go.ChangeAt Go.RowKit
set_option maxRecDepth 100000

theorem list_open {α : Type} {en : α → List Value} {k : Nat} {Ok : α → Prop} {t st : TypeId} (hst : Tryd.prog.underlying st = some (.slice t)) (hce : Tryd.prog.cellsOf t = k) (hk0 : 0 < k) (hlen0 : ∀ x, (en x).length = k)
    {H : Type} {enc : TypeId × Value → H} {W : World} {b2 : Nat} {sp : Nat → Bool} {held : Bool} {cs : List Value} {d : DataW H} {p : List MemPlace}
    (hone : ∀ {fuel : Nat} {cs : List Value} {x : DataW H × List MemPlace}, DataW.trod enc Tryd.prog W b2 sp held fuel t cs = some x → ∃ y : α, cs = en y ∧ Ok y)
    (h : ∃ fuel, DataW.trod enc Tryd.prog W b2 sp held fuel st cs = some (d, p)) :
    ∃ (L : List α) (v : Value), cs = [v] ∧ RL en k W v L ∧ (∀ y ∈ L, Ok y) ∧ (L = [] ∨ ∃ es spare, d = .slice es spare ∧ es.length = L.length) := by
  obtain ⟨fuel, hf⟩ := h
  rcases DataW.trod_slice hst hf with ⟨hcs, hx⟩ | ⟨a, len, cap, elems, rest, n, _, hcs, hx, hb, hl, hm, hlen, hel, _, _⟩
  · exact ⟨[], _, hcs, RL.nil _, by simp, .inl rfl⟩
  · rw [hce] at hel
    have each : ∀ j : Fin len, ∃ y : α, Ok y ∧ ∀ i u, (en y)[i]? = some u → W.cell? ((a.add (j.1 * k)).add i) = some u := by
      intro j
      have h1 := hel j.1 j.2
      rw [List.getElem?_eq_getElem (by have := j.2; omega)] at h1
      obtain ⟨cs', hc, ht⟩ := Option.bind_eq_some_iff.1 h1
      obtain ⟨y, rfl, hy⟩ := hone ht
      have h2 := World.cells?_some hc
      refine ⟨y, hy, fun i u hi => ?_⟩
      obtain ⟨hi1, hi2⟩ := List.getElem?_eq_some_iff.1 hi
      have := h2.2.2 i (by rw [← hlen0 y]; exact hi1)
      rw [hi] at this
      exact this
    obtain ⟨fn, hfn⟩ := Classical.axiomOfChoice each
    have hpl : (List.ofFn fn).length = len := List.length_ofFn
    refine ⟨List.ofFn fn, _, hcs, ⟨some a, cap, by rw [hpl], by rw [hpl]; exact hl, fun e => (by cases e), fun i hi => ?_⟩, fun z hz => ?_, .inr ?_⟩
    · rw [hpl] at hi
      have c00 := (hfn ⟨0, by omega⟩).2 0 _ (List.getElem?_eq_getElem (by rw [hlen0]; exact hk0))
      obtain ⟨b, off, spot⟩ := a
      have hspot : spot = none := by simpa [Addr.add] using World.cell?_spot c00
      subst hspot
      have k1 := (hfn ⟨i, hi⟩).2
      rw [List.getElem_ofFn]
      refine ⟨b, off, rfl, fun j u hj => ?_⟩
      have := k1 j u hj
      rw [Addr.add_lit, Addr.add_lit] at this
      exact this
    · obtain ⟨j, rfl⟩ := List.mem_ofFn.1 hz
      exact (hfn j).1
    · have hd := congrArg Prod.fst hx
      simp only at hd
      refine ⟨_, _, hd, ?_⟩
      simp [hpl, hlen]
theorem list_sized {α : Type} {H : Type} {ts : List TypeId} {ds : List (DataW H)} {d : DataW H} {K : List α} {t st : TypeId} {bytes : Nat} (hst : Tryd.prog.underlying st = some (.slice t)) (hb : Tryd.prog.bytesOf t = bytes) (hsz : (DataW.weightsEach Tryd.prog ts ds).all (· ≤ reachBytes) = true) {j : Nat} (ht : ts[j]? = some st) (hd : ds[j]? = some d) (h : K = [] ∨ ∃ es spare, d = .slice es spare ∧ es.length = K.length) :
    K.length * bytes ≤ reachBytes := by
  rcases h with rfl | ⟨es, spare, rfl, hl⟩
  · simp
  · have := sized_slice hsz ht hd hst
    rw [hb, hl] at this
    exact Nat.le_trans (Nat.mul_le_mul_right _ (Nat.le_add_right _ _)) this
end Go.Proofs.YtgnnopjkbmbjbaaDoor
