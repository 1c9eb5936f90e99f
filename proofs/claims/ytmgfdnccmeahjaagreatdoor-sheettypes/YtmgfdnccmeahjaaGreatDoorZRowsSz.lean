/-
  RowsSz: Rows of texts that came in, with their sizes.
-/
import Derived.Test.YtmgfdnccmeahjaaGreatDoorZN
import Derived.OpenShut
import Derived.SizedLaws
import Derived.ProofKit
import Derived.ChangeOld
namespace Go.Proofs.YtmgfdnccmeahjaaGreatDoor
open Go.ChangeShapes Go.WideShapes Go.ChangeAt Go.RowKit
set_option maxRecDepth 100000

theorem texts_cells2 {H : Type} {enc : TypeId × Value → H} {W : World} {b2 : Nat} {sp : Nat → Bool} {held : Bool} {fuel : Nat} {cs : List Value} {d : DataW H} {p : List MemPlace} (h : DataW.trod enc Tryz.prog W b2 sp held fuel 32 cs = some (d, p)) :
    ∃ (u : Value) (T : List (List UInt8)), cs = [u] ∧ Tx W u T ∧ RT W u (tb T) ∧ (T = [] ∨ ∃ es spare, d = .slice es spare ∧ es.length = T.length) := by
  have hce : Tryz.prog.cellsOf 9 = 1 := by kernel_rfl
  rcases DataW.trod_slice Tryz.underlying32 h with ⟨hcs, hx⟩ | ⟨a, len, cap, elems, rest, n, _, hcs, hx, hb, hl, hm, hlen, hel, _, _⟩
  · exact ⟨_, [], hcs, ⟨none, 0, rfl, by simp, by omega, fun j hj => by simp at hj⟩, .inl ⟨rfl, none, 0, rfl, fun _ => rfl⟩, .inl rfl⟩
  · rw [hce] at hel
    have each : ∀ j : Fin len, ∃ q : ByteArray, W.cell? ((a.add (j.1 * 1)).add 0) = some (.string q) := by
      intro j
      have h1 := hel j.1 j.2
      rw [List.getElem?_eq_getElem (by have := j.2; omega)] at h1
      obtain ⟨cs', hc, ht⟩ := Option.bind_eq_some_iff.1 h1
      obtain ⟨z, e0, _, hw⟩ := DataW.trod_string Tryz.underlying9 ht
      have h2 := World.cells?_some hc
      subst e0
      exact ⟨z, by simpa using h2.2.2 0 (by omega)⟩
    obtain ⟨fn, hfn⟩ := Classical.axiomOfChoice each
    have hpl : (List.ofFn fun j => (fn j).data.toList).length = len := List.length_ofFn
    have hd := congrArg Prod.fst hx
    simp only at hd
    have hT : Tx W (.slice (some a) len cap) (List.ofFn fun j => (fn j).data.toList) := by
      refine ⟨some a, cap, by rw [hpl], by rw [hpl]; exact hl, hm, fun i hi => ?_⟩
      rw [hpl] at hi
      have c00 := hfn ⟨0, by omega⟩
      obtain ⟨b, off, spot⟩ := a
      have hspot : spot = none := by simpa [Addr.add] using World.cell?_spot c00
      subst hspot
      have k0 := hfn ⟨i, hi⟩
      rw [Addr.add_lit, Addr.add_lit] at k0
      rw [List.getElem_ofFn]
      refine ⟨b, off, rfl, ?_⟩
      have e : (⟨(fn ⟨i, hi⟩).data.toList.toArray⟩ : ByteArray) = fn ⟨i, hi⟩ := by simp
      rw [e]
      simpa using k0
    refine ⟨_, List.ofFn fun j => (fn j).data.toList, hcs, hT, ?_, .inr ⟨_, _, hd, by simp [hpl, hlen]⟩⟩
    generalize (List.ofFn fun j => (fn j).data.toList) = T at hT hpl
    obtain ⟨ao, cap', e, h2, h3, h4⟩ := hT
    injection e with e1 e2 e3
    subst e1 e3
    by_cases h0 : T = []
    · subst h0
      refine .inl ⟨rfl, some a, cap, by rw [← hpl]; rfl, fun e => by cases e⟩
    · obtain ⟨b, off, ea, _⟩ := h4 0 (List.length_pos_iff.2 h0)
      injection ea with ea
      subst ea
      refine .inr ⟨b, off, cap, by rw [tb_len, hpl], ⟨by rw [tb_len]; exact h2, h3⟩, fun j hj => ?_⟩
      rw [tb_len] at hj
      obtain ⟨b', off', eb, hc⟩ := h4 j hj
      injection eb with eb
      injection eb with eb1 eb2
      subst eb1 eb2
      simpa [tb] using hc
theorem rows_open2 {H : Type} {enc : TypeId × Value → H} {W : World} {b2 : Nat} {sp : Nat → Bool} {held : Bool} {v : Value} {d : DataW H} {p : List MemPlace} (hvs : ∃ a len cap, v = .slice a len cap) (h : ∃ fuel, DataW.trod enc Tryz.prog W b2 sp held fuel 22 v.cells.toList = some (d, p)) :
    ∃ R : List (List (List UInt8)), Rw W v R ∧ Rz W v R ∧ (R = [] ∨ ∃ es spare, d = .slice es spare ∧ es.length = R.length ∧ ∀ cs ∈ R, ∃ x ∈ es, cs = [] ∨ ∃ es' sp', x = .slice es' sp' ∧ es'.length = cs.length) := by
  obtain ⟨ao, len0, cap0, rfl⟩ := hvs
  obtain ⟨fuel, hf⟩ := h
  have hce : Tryz.prog.cellsOf 32 = 1 := by kernel_rfl
  rcases DataW.trod_slice Tryz.underlying22 hf with ⟨hcs, hx⟩ | ⟨a, len, cap, elems, rest, n, _, hcs, hx, hb, hl, hm, hlen, hel, _, _⟩
  · simp [Value.cells] at hcs
    obtain ⟨rfl, rfl, rfl⟩ := hcs
    exact ⟨[], ⟨none, 0, rfl, by simp, by omega, fun j hj => by simp at hj⟩, ⟨none, 0, rfl, by simp, by omega, fun j hj => by simp at hj⟩, .inl rfl⟩
  · simp [Value.cells] at hcs
    obtain ⟨rfl, rfl, rfl⟩ := hcs
    rw [hce] at hel
    have each : ∀ j : Fin len0, ∃ q : Value × List (List UInt8), (W.cell? ((a.add (j.1 * 1)).add 0) = some q.1 ∧ Tx W q.1 q.2 ∧ RT W q.1 (tb q.2)) ∧ ∃ x ∈ elems.map (fun x => x.fst), q.2 = [] ∨ ∃ es' sp', x = .slice es' sp' ∧ es'.length = q.2.length := by
      intro j
      have h1 := hel j.1 j.2
      have hjl : j.1 < elems.length := by have := j.2; omega
      rw [List.getElem?_eq_getElem hjl] at h1
      obtain ⟨cs, hc, ht⟩ := Option.bind_eq_some_iff.1 h1
      obtain ⟨u, T, rfl, hT, hR, hS⟩ := texts_cells2 ht
      have h2 := World.cells?_some hc
      exact ⟨(u, T), ⟨by simpa using h2.2.2 0 (by omega), hT, hR⟩, (elems[j.1]).fst, List.mem_map.2 ⟨_, List.getElem_mem hjl, rfl⟩, hS⟩
    obtain ⟨fn, hfn⟩ := Classical.axiomOfChoice each
    have hpl : (List.ofFn fun j => (fn j).2).length = len0 := List.length_ofFn
    have cells : ∀ i (hi : i < len0), ∃ g off u, some a = some ⟨g, off, none⟩ ∧ W.cell? ⟨g, off + i, none⟩ = some u ∧ Tx W u (fn ⟨i, hi⟩).2 ∧ RT W u (tb (fn ⟨i, hi⟩).2) := by
      intro i hi
      obtain ⟨⟨c00, _⟩, _⟩ := hfn ⟨0, by omega⟩
      obtain ⟨b, off, spot⟩ := a
      have hspot : spot = none := by simpa [Addr.add] using World.cell?_spot c00
      subst hspot
      obtain ⟨⟨k0, k1, k2⟩, _⟩ := hfn ⟨i, hi⟩
      rw [Addr.add_lit, Addr.add_lit] at k0
      exact ⟨b, off, (fn ⟨i, hi⟩).1, rfl, by simpa using k0, k1, k2⟩
    have hd := congrArg Prod.fst hx
    simp only at hd
    refine ⟨List.ofFn fun j => (fn j).2, ⟨some a, cap0, by rw [hpl], by rw [hpl]; exact hl, hm, fun i hi => ?_⟩, ⟨some a, cap0, by rw [hpl], by rw [hpl]; exact hl, hm, fun i hi => ?_⟩, .inr ⟨_, _, hd, by simp [hpl, hlen], fun cs hcs => ?_⟩⟩
    · rw [hpl] at hi
      obtain ⟨g, off, u, e, c, k1, _⟩ := cells i hi
      rw [List.getElem_ofFn]
      exact ⟨g, off, u, e, c, k1⟩
    · rw [hpl] at hi
      obtain ⟨g, off, u, e, c, _, k2⟩ := cells i hi
      rw [List.getElem_ofFn]
      exact ⟨g, off, u, e, c, k2⟩
    · obtain ⟨j, rfl⟩ := List.mem_ofFn.1 hcs
      exact (hfn j).2
theorem weights_in {H : Type} (P : Program) (e : TypeId) : ∀ (es : List (DataW H)) (x : DataW H) (n : Nat), x ∈ es → n ∈ x.weights P e → n ∈ DataW.weightsAll P e es := by
  intro es
  induction es with
  | nil => intro x n h; simp at h
  | cons d r ih =>
    intro x n h hn
    simp only [DataW.weightsAll, List.mem_append]
    rcases List.mem_cons.1 h with rfl | h
    · exact .inl hn
    · exact .inr (ih x n h hn)
theorem rows_sized {H : Type} {ts : List TypeId} {ds : List (DataW H)} {d : DataW H} {R : List (List (List UInt8))} (hsz : (DataW.weightsEach Tryz.prog ts ds).all (· ≤ reachBytes) = true) {j : Nat} (ht : ts[j]? = some 22) (hd : ds[j]? = some d)
    (h : R = [] ∨ ∃ es spare, d = .slice es spare ∧ es.length = R.length ∧ ∀ cs ∈ R, ∃ x ∈ es, cs = [] ∨ ∃ es' sp', x = .slice es' sp' ∧ es'.length = cs.length) :
    R.length ≤ 5864062014634 ∧ ∀ cs ∈ R, cs.length ≤ 8796093021952 := by
  have hrb : reachBytes = 140737488351232 := by decide
  rcases h with rfl | ⟨es, spare, rfl, hl, hin⟩
  · exact ⟨by simp, by simp⟩
  · have hb : Tryz.prog.bytesOf 32 = 24 := by kernel_rfl
    have hb2 : Tryz.prog.bytesOf 9 = 16 := by kernel_rfl
    have h1 := sized_slice hsz ht hd Tryz.underlying22
    rw [hb, hl, hrb] at h1
    refine ⟨by omega, fun cs hcs => ?_⟩
    obtain ⟨x, hx, hcs2⟩ := hin cs hcs
    rcases hcs2 with rfl | ⟨es', sp', rfl, hl'⟩
    · simp
    · have hm : (es'.length + sp'.length) * Tryz.prog.bytesOf 9 ∈ DataW.weights Tryz.prog 22 (.slice es spare) := by
        simp only [DataW.weights, Tryz.underlying22]
        refine List.mem_cons_of_mem _ (List.mem_append_left _ (weights_in _ _ es _ _ hx ?_))
        simp only [DataW.weights, Tryz.underlying32]
        exact List.mem_cons_self
      have h2 := List.all_eq_true.1 hsz _ (DataW.weights_mem_each ht hd _ hm)
      rw [hb2, hl'] at h2
      have h3 : (cs.length + sp'.length) * 16 ≤ reachBytes := by simpa using h2
      rw [hrb] at h3
      omega
end Go.Proofs.YtmgfdnccmeahjaaGreatDoor
