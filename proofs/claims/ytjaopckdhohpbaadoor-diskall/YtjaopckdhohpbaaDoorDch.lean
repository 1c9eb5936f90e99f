/-
  Disk, pure: the choices in their order.
-/
import Derived.Test.YtjaopckdhohpbaaDoorRows
namespace Go.Proofs.YtjaopckdhohpbaaDoor
set_option maxRecDepth 100000
set_option linter.unusedVariables false
set_option linter.unusedSimpArgs false

/-- the binary digits that are 1 among the first n -/
def pl (s n : Nat) : List Int := ((List.range n).filter fun i => s / 2 ^ i % 2 == 1).map fun i : Nat => (i : Int)
theorem pl_succ (s n : Nat) : pl s (n + 1) = if s / 2 ^ n % 2 = 1 then pl s n ++ [(n : Int)] else pl s n := by
  unfold pl
  rw [List.range_succ, List.filter_append, List.map_append]
  by_cases h : s / 2 ^ n % 2 = 1
  · rw [if_pos h]
    simp [h]
  · rw [if_neg h]
    simp [h]
theorem pl_end (s i : Nat) (h : s / 2 ^ i = 0) : ∀ d, pl s (i + d) = pl s i := by
  intro d
  induction d with
  | zero => rfl
  | succ d ih =>
    rw [← Nat.add_assoc, pl_succ, if_neg, ih]
    have : s / 2 ^ (i + d) = 0 := by rw [Nat.pow_add, ← Nat.div_div_eq_div_mul, h, Nat.zero_div]
    omega
theorem pl_len (s n : Nat) : (pl s n).length ≤ n := by
  unfold pl
  rw [List.length_map]
  exact Nat.le_trans (List.length_filter_le _ _) (by simp)
/-- a choice: what is kept, what is torn, how many bytes of it -/
def chc (s : Nat) (T B : Int) : List Int × Int × Int := (pl s 10, T, B)
def chW (k : Nat) : List (List Int × Int × Int) := (List.range (2 ^ k)).map fun s => chc s (-1) 0
def rowP (i s : Nat) : List (List Int × Int × Int) := ((List.range s).filter fun x => x / 2 ^ i % 2 == 0).map fun x => chc x (i : Int) 64
def fm (k j : Nat) : List (List Int × Int × Int) := (List.range j).flatMap fun i => rowP i (2 ^ k)
def chA (k : Nat) : List (List Int × Int × Int) := chW k ++ fm k k
theorem range_pre {a b : Nat} (h : a ≤ b) : ∃ t, List.range b = List.range a ++ t := by
  obtain ⟨d, rfl⟩ : ∃ d, b = a + d := ⟨b - a, by omega⟩
  exact ⟨_, List.range_add⟩
theorem chW_len (k : Nat) : (chW k).length = 2 ^ k := by simp [chW]
theorem rowP_succ (i s : Nat) : rowP i (s + 1) = if s / 2 ^ i % 2 = 0 then rowP i s ++ [chc s (i : Int) 64] else rowP i s := by
  unfold rowP
  rw [List.range_succ, List.filter_append, List.map_append]
  by_cases h : s / 2 ^ i % 2 = 0
  · rw [if_pos h]
    simp [h]
  · rw [if_neg h]
    simp [h]
theorem fm_succ (k i : Nat) : fm k (i + 1) = fm k i ++ rowP i (2 ^ k) := by
  unfold fm
  rw [List.range_succ, List.flatMap_append]
  simp
theorem rowP_pre {i a b : Nat} (h : a ≤ b) : ∃ t, rowP i b = rowP i a ++ t := by
  obtain ⟨t, ht⟩ := range_pre h
  unfold rowP
  rw [ht, List.filter_append, List.map_append]
  exact ⟨_, rfl⟩
theorem fm_pre {k a b : Nat} (h : a ≤ b) : ∃ t, fm k b = fm k a ++ t := by
  obtain ⟨t, ht⟩ := range_pre h
  unfold fm
  rw [ht, List.flatMap_append]
  exact ⟨_, rfl⟩
theorem at_whole (k s : Nat) (h : s < 2 ^ k) : (chA k)[s]? = some (chc s (-1) 0) := by
  unfold chA
  rw [List.getElem?_append_left (by rw [chW_len]; exact h)]
  unfold chW
  rw [List.getElem?_map, List.getElem?_range h]
  rfl
/-- how many have been told ahead of i and s -/
def tN (k i s : Nat) : Nat := 2 ^ k + (fm k i).length + (rowP i s).length
theorem at_torn (k i s : Nat) (hi : i < k) (hs : s < 2 ^ k) (hb : s / 2 ^ i % 2 = 0) : (chA k)[tN k i s]? = some (chc s (i : Int) 64) := by
  obtain ⟨t1, h1⟩ := rowP_pre (i := i) (a := s + 1) (b := 2 ^ k) hs
  obtain ⟨t2, h2⟩ := fm_pre (k := k) (a := i + 1) (b := k) hi
  rw [rowP_succ, if_pos hb] at h1
  have e : chA k = (chW k ++ fm k i ++ rowP i s) ++ (chc s (i : Int) 64 :: (t1 ++ t2)) := by
    unfold chA
    rw [h2, fm_succ, h1]
    simp
  have hl : tN k i s = (chW k ++ fm k i ++ rowP i s).length := by
    unfold tN
    rw [List.length_append, List.length_append, chW_len]
  rw [e, hl, List.getElem?_append_right (Nat.le_refl _), Nat.sub_self]
  rfl
theorem tN_zero (k : Nat) : tN k 0 0 = 2 ^ k := by unfold tN; simp [fm, rowP]
theorem tN_row (k i : Nat) : tN k i (2 ^ k) = tN k (i + 1) 0 := by unfold tN; rw [fm_succ]; simp [rowP]; omega
theorem tN_end (k : Nat) : tN k k 0 = (chA k).length := by unfold tN chA; rw [List.length_append, chW_len]; simp [rowP]
theorem tN_bit (k i s : Nat) (h : s / 2 ^ i % 2 = 0) : tN k i (s + 1) = tN k i s + 1 := by unfold tN; rw [rowP_succ, if_pos h]; simp; omega
theorem tN_no (k i s : Nat) (h : ¬ s / 2 ^ i % 2 = 0) : tN k i (s + 1) = tN k i s := by unfold tN; rw [rowP_succ, if_neg h]
theorem tN_lt (k i s : Nat) (hi : i < k) (hs : s < 2 ^ k) (hb : s / 2 ^ i % 2 = 0) : tN k i s < (chA k).length := by
  have := at_torn k i s hi hs hb
  exact (List.getElem?_eq_some_iff.1 this).1
/-- of at most seven loose writes: how many, and no two alike -/
theorem chA_len : ∀ k : Fin 8, (chA k.1).length = 2 ^ k.1 + k.1 * 2 ^ k.1 / 2 := by decide +kernel
def code (q : List Int × Int × Int) : Nat := q.1.foldl (fun a z => a + 2 ^ z.toNat) 0 + 1024 * (q.2.1 + 1).toNat
theorem code_apart : ∀ k : Fin 8, ((chA k.1).map code).Nodup := by decide +kernel
theorem chA_apart (k : Nat) (hk : k ≤ 7) (i j : Nat) (hi : i < j) (hj : j < (chA k).length) : (chA k)[i] ≠ (chA k)[j] := by
  have h := code_apart ⟨k, by omega⟩
  have hp := List.pairwise_iff_getElem.1 h i j (by simp; omega) (by simp; exact hj) hi
  intro e
  apply hp
  simp only [List.getElem_map]
  rw [e]
end Go.Proofs.YtjaopckdhohpbaaDoor
