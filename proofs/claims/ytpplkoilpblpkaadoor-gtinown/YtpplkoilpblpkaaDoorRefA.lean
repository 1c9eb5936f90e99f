/-
  The document's own begins and all.
-/
import Derived.Test.YtpplkoilpblpkaaDoorPaM
import Derived.Test.YtpplkoilpblpkaaDoorRefPs
namespace Go.Proofs.YtpplkoilpblpkaaDoor
open Go.RowKit
set_option maxRecDepth 100000

theorem run_subZ (x : ByteArray) (k : Nat) (hk : k ≤ x.size) (w : World) :
    (Instr.slice 9 (.string x) none (some (.int .i64 (k : Int))) none).run Tryd.prog w = .ok (.string (x.extract 0 k)) w := by
  simp [Instr.slice, Instr.sliceBounds, Instr.sliceBound, asIntOf, run_underlying Tryd.underlying9, go_sem, hk]
theorem pre_iff (s t : ByteArray) : (s.extract 0 t.size = t) ↔ t.data.toList.isPrefixOf s.data.toList = true := by
  rw [List.isPrefixOf_iff_prefix, List.prefix_iff_eq_take]
  have e : (s.extract 0 t.size).data.toList = s.data.toList.take t.size := by rw [Lib.extract_data]; simp
  constructor
  · intro hh
    rw [len_list, ← e, hh]
  · intro hh
    rw [len_list, ← e] at hh
    exact ByteArray.ext (Array.ext' hh.symm)

/-- every Ai as the document's own list has them -/
def AL : List (List UInt8) := [[48, 48], [48, 49], [48, 50], [49, 48], [49, 49], [49, 51], [49, 53], [49, 55], [50, 48], [50, 49], [51, 48], [51, 55], [57, 48], [57, 49], [57, 50], [57, 51], [57, 52], [57, 53], [57, 54], [57, 55], [57, 56], [57, 57], [52, 48, 48], [52, 49, 48], [52, 49, 49], [52, 49, 52], [52, 50, 48], [51, 49, 48, 48], [51, 49, 48, 49], [51, 49, 48, 50], [51, 49, 48, 51], [51, 49, 48, 52], [51, 49, 48, 53], [51, 57, 50, 48], [51, 57, 50, 49], [51, 57, 50, 50], [51, 57, 50, 51], [56, 48, 48, 53], [56, 48, 50, 48]]
theorem AL_len : AL.length = 39 := rfl
theorem AL_in : ∀ a ∈ AL, a ∈ knl.map (·.1) := by decide +kernel
theorem AL_all : ∀ a ∈ knl.map (·.1), a ∈ AL := by decide +kernel
theorem AL_free : ∀ a ∈ AL, ∀ c ∈ AL, a.isPrefixOf c = true → a = c := by decide +kernel
theorem knl_one : ∀ x ∈ knl, ∀ y ∈ knl, x.1 = y.1 → x = y := by decide +kernel
theorem AL_one {l a c : List UInt8} (ha : a ∈ AL) (hc : c ∈ AL) (h : a.isPrefixOf l = true) (h' : c.isPrefixOf l = true) : a = c := by
  rw [List.isPrefixOf_iff_prefix] at h h'
  rcases Nat.le_total a.length c.length with hh | hh
  · exact AL_free a ha c hc (List.isPrefixOf_iff_prefix.2 (List.prefix_of_prefix_length_le h h' hh))
  · exact (AL_free c hc a ha (List.isPrefixOf_iff_prefix.2 (List.prefix_of_prefix_length_le h' h hh))).symm
theorem ahK_is {l a : List UInt8} (ha : a ∈ AL) (h : a.isPrefixOf l = true) : ∃ k, ahK l = some (a, k) ∧ kfind a = some k := by
  obtain ⟨x, hx, rfl⟩ := List.mem_map.1 (AL_in a ha)
  cases hk : ahK l with
  | none =>
    unfold ahK at hk
    have := List.find?_eq_none.1 hk x hx
    exact absurd h this
  | some y =>
    obtain ⟨c, k⟩ := y
    obtain ⟨h1, h2⟩ := ahK_mem hk
    have e := AL_one ha (AL_all c (List.mem_map.2 ⟨_, h1, rfl⟩)) h h2
    have e2 := knl_one _ hx _ h1 e
    subst e2
    refine ⟨k, rfl, ?_⟩
    unfold kfind
    cases hf : knl.find? (fun x => x.1 == c) with
    | none =>
      have := List.find?_eq_none.1 hf _ hx
      simp at this
    | some z =>
      have hz := List.mem_of_find?_eq_some hf
      have hz2 := List.find?_some hf
      have : z.1 = c := by simpa using hz2
      have := knl_one _ hz _ hx this
      subst this
      rfl
theorem ahK_not {l : List UInt8} (h : ∀ a ∈ AL, a.isPrefixOf l = false) : ahK l = none ∧ ahE l 39 = if AL.any (fun a => decide (l.length < a.length) && l.isPrefixOf a) then 3 else 23 := by
  constructor
  · unfold ahK
    rw [List.find?_eq_none]
    intro x hx
    rw [h x.1 (AL_all _ (List.mem_map.2 ⟨x, hx, rfl⟩))]
    simp
  · unfold ahE
    rw [show knl.take 39 = knl from rfl]
    have e : knl.any (fun x => l.isPrefixOf x.1) = AL.any (fun a => decide (l.length < a.length) && l.isPrefixOf a) := by
      rw [Bool.eq_iff_iff, List.any_eq_true, List.any_eq_true]
      constructor
      · rintro ⟨x, hx, hp⟩
        have hm := AL_all x.1 (List.mem_map.2 ⟨x, hx, rfl⟩)
        refine ⟨x.1, hm, ?_⟩
        rw [hp, Bool.and_true, decide_eq_true_eq]
        have hpre := List.isPrefixOf_iff_prefix.1 hp
        rcases Nat.lt_or_ge l.length x.1.length with hh | hh
        · exact hh
        · have e := hpre.eq_of_length (by have := hpre.length_le; omega)
          have := h x.1 hm
          rw [← e] at this
          rw [List.isPrefixOf_iff_prefix.2 (List.prefix_refl l)] at this
          cases this
      · rintro ⟨a, ha, hp⟩
        obtain ⟨x, hx, rfl⟩ := List.mem_map.1 (AL_in a ha)
        rw [Bool.and_eq_true] at hp
        exact ⟨x, hx, hp.2⟩
    rw [e]
end Go.Proofs.YtpplkoilpblpkaaDoor
