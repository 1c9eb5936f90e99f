/-
  stock: a row of lines sorted.
-/
import Derived.Test.YtebkagmlhmdckaaGreatCk7
import Derived.Test.YtebkagmlhmdckaaGreatCk9
namespace Go.Proofs.YtebkagmlhmdckaaGreat
open Go.Shelf Go.RowKit Go.Lib Go.Sort
set_option maxRecDepth 100000

theorem flat_at (d : Array Ln) (i : Nat) (h : i < d.size) : (flatK encL 2 d)[i * 2]! = .string d[i].1 ∧ (flatK encL 2 d)[i * 2 + 1]! = .int .i64 d[i].2 := by
  refine ⟨?_, ?_⟩
  · rw [get_flatK _ _ _ _ (by omega), show i * 2 / 2 = i by omega, show i * 2 % 2 = 0 by omega, getElem!_pos d i h]
    rfl
  · rw [get_flatK _ _ _ _ (by omega), show (i * 2 + 1) / 2 = i by omega, show (i * 2 + 1) % 2 = 1 by omega, getElem!_pos d i h]
    rfl
theorem lc_flat (L : List Ln) (j : Nat) (h : j < L.length * 2) : (lc L)[j]? = some (flatK encL 2 L.toArray)[j]! := by
  obtain ⟨i, hi⟩ : ∃ i, j = i * 2 ∨ j = i * 2 + 1 := ⟨j / 2, by omega⟩
  have hin : i < L.length := by omega
  have e := lc_at L i hin
  have f := flat_at L.toArray i (by simpa using hin)
  rcases hi with rfl | rfl
  · rw [e.1, f.1]; simp
  · rw [e.2, f.2]; simp
theorem holds_lc {w : World} {g : Nat} {L : List Ln} (h : w.heap[g]? = some (.cells (lc L).toArray 45 (0, 0))) : HoldsK encL 2 w g 0 L.toArray := by
  intro j hj
  rw [size_flatK] at hj
  refine ⟨?_, Lib.frozen_of_heap h _⟩
  rw [Lib.cell_of_heap h, Nat.zero_add]
  simpa using lc_flat L j (by simpa using hj)
theorem put_lc {w : World} {g : Nat} {L S : List Ln} (h : w.heap[g]? = some (.cells (lc L).toArray 45 (0, 0))) (hl : S.length = L.length) (n : Nat) : (putRowK encL 2 (Sort.ahead w n) g 0 S.toArray).heap[g]? = some (.cells (lc S).toArray 45 (0, 0)) := by
  have e : (putRowK encL 2 (Sort.ahead w n) g 0 S.toArray).heap[g]? = some (.cells (putCells id 0 (flatK encL 2 S.toArray) (lc L).toArray) 45 (0, 0)) := by
    simp [putRowK, putRow, mapBlock, Array.getElem?_modify, h, onCells]
  rw [e]
  have : putCells id 0 (flatK encL 2 S.toArray) (lc L).toArray = (lc S).toArray := by
    apply Array.ext
    · simp [putCells, lc_len, hl]
    · intro j h1 h2
      have hj : j < S.length * 2 := by simpa [lc_len] using h2
      have hx := lc_flat S j hj
      rw [List.getElem?_eq_getElem (by rw [lc_len]; exact hj)] at hx
      simp only [Option.some.injEq] at hx
      simp [putCells, hx, hj]
  rw [this]
set_option maxHeartbeats 1000000 in
theorem sorted_any (g cap : Nat) (L : List Ln) (w : World) (h : w.heap[g]? = some (.cells (lc L).toArray 45 (0, 0))) (hl : L.length ≤ 1000000) :
    Calls Tryz.prog 42 #[.slice (some ⟨g, 0, none⟩) L.length cap, .func (.func 43) #[] #[]] w fun e w' => e = .returned (.tuple #[]) ∧ ∃ S : List Ln, S.Perm L ∧ S.Pairwise (fun x y => ¬ ky y < ky x) ∧ w'.heap[g]? = some (.cells (lc S).toArray 45 (0, 0)) ∧ w.grownBy w' (some g) := by
  have hg : g < w.heap.size := (Array.getElem?_eq_some_iff.1 h).1
  have hc := sortL_any g 0 cap L.toArray w (holds_lc h) hg (by simp; omega)
  rw [List.size_toArray] at hc
  refine hc.mono ?_
  rintro e w' ⟨rfl, d', n, os, ⟨hs, _, hp⟩, ho, rfl⟩
  have hs' : d'.toList.length = L.length := by simpa using hs
  have e1 : d'.extract 0 L.length = d' := by
    rw [show L.length = d'.size by simpa using hs.symm]
    simp
  have e2 : (L.toArray.extract 0 L.length) = L.toArray := by simp
  rw [e1, e2] at hp
  have ed : d' = d'.toList.toArray := by simp
  refine ⟨rfl, d'.toList, by simpa using hp, ?_, ?_, ?_⟩
  · rw [List.pairwise_iff_getElem]
    intro i j hi hj hij
    have := ho i j (Nat.zero_le _) hij (by omega)
    rw [ltL, decide_eq_false_iff_not] at this
    have g1 : d'[j]! = d'.toList[j] := by rw [getElem!_pos d' j (by simpa using hj)]; simp
    have g2 : d'[i]! = d'.toList[i] := by rw [getElem!_pos d' i (by simpa using hi)]; simp
    rw [g1, g2] at this
    exact this
  · have := put_lc (S := d'.toList) h hs' n
    unfold sortWorldK
    rw [heap_grow_old _ _ (by simp [putRowK]; exact hg)]
    rw [ed]
    exact this
  · refine ⟨rfl, rfl, rfl, ?_, fun k hk hne => ?_⟩
    · simp [sortWorldK, putRowK, grow]
    · unfold sortWorldK
      rw [heap_grow_old _ _ (by simp [putRowK]; exact hk)]
      simp [putRowK, putRow, mapBlock, Array.getElem?_modify]
      intro e
      exact absurd (by rw [e]) hne
end Go.Proofs.YtebkagmlhmdckaaGreat
