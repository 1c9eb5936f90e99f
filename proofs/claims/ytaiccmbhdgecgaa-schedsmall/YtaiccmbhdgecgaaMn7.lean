/-
  Rank of a mix.
-/
import Derived.Test.YtaiccmbhdgecgaaMn6
import Derived.Test.YtaiccmbhdgecgaaSw1
namespace Go.Proofs.Ytaiccmbhdgecgaa
open Go.RowKit
set_option maxRecDepth 100000
attribute [local go_sem ↓] mki_op

/-- how often each of 16 stands in a list -/
def C16 (L : List Nat) : List Nat := (List.range 16).map fun h => L.count h
theorem C16_len (L : List Nat) : (C16 L).length = 16 := by simp [C16]
theorem C16_at (L : List Nat) (i : Nat) : (C16 L).getD i 0 = if i < 16 then L.count i else 0 := by
  unfold C16
  rw [List.getD_eq_getElem?_getD, List.getElem?_map]
  by_cases h : i < 16
  · rw [List.getElem?_range h, if_pos h]; rfl
  · rw [List.getElem?_eq_none (by simp; omega), if_neg h]; rfl
theorem iN_getD (N : List Nat) (i : Nat) : (iN N).getD i 0 = ((N.getD i 0 : Nat) : Int) := by
  unfold iN
  rw [List.getD_eq_getElem?_getD, List.getD_eq_getElem?_getD, List.getElem?_map]
  cases N[i]? <;> rfl
theorem get_getD (L : List Int) (i : Nat) (h : i < L.length) : L[i] = L.getD i 0 := by rw [List.getD_eq_getElem?_getD, List.getElem?_eq_getElem h]; rfl
theorem cR_is (L : List Nat) (hL : ∀ x ∈ L, x < 16) : ∀ j, j ≤ L.length → cR L j = iN (C16 (L.take j)) := by
  intro j
  induction j with
  | zero => intro _; rfl
  | succ j ih =>
    intro hj
    have hx : L.getD j 0 = L[j] := gN L j (by omega)
    have h16 := hL L[j] (List.getElem_mem _)
    unfold cR
    rw [ih (by omega), hx]
    apply List.ext_getElem
    · rw [List.length_set, iN_len, iN_len, C16_len, C16_len]
    · intro i h1 h2
      rw [List.length_set, iN_len, C16_len] at h1
      rw [get_getD, get_getD, getD_set0, iN_getD, iN_getD, iN_getD, C16_at, C16_at, C16_at, if_pos h1, if_pos h1, if_pos h16, List.take_add_one, List.getElem?_eq_getElem (by omega), iN_len, C16_len]
      simp only [Option.toList_some, List.count_append, List.count_singleton]
      by_cases hi : L[j] = i
      · subst hi
        rw [if_pos ⟨rfl, h16⟩]
        simp
      · rw [if_neg (fun e => hi e.1)]
        simp [hi]
theorem pad16 {N : List Nat} {n : Nat} {L : List Nat} (h : Mx N n L) (hl : N.length ≤ 16) : Pad N (C16 L) := ⟨by rw [C16_len]; exact hl, fun i => by
  rw [C16_at, mx_count h i]
  by_cases hi : i < 16
  · rw [if_pos hi]
  · rw [if_neg hi, getD_out N i (by omega)]⟩
theorem cOk_of {N : List Nat} (h : cntA (iN N) = ((mN N : Int), 0)) : cOk N N.length = true := by
  unfold cntA at h
  rw [iN_nats] at h
  split at h
  · split at h
    · assumption
    · exact absurd (show _ = (0 : Int) from congrArg Prod.snd h) (by simp)
  · exact absurd (show _ = (0 : Int) from congrArg Prod.snd h) (by simp)
/-- what a mix with a first pick is -/
theorem mx_tail {N : List Nat} {n h : Nat} {T : List Nat} (m : Mx N n (h :: T)) : h < N.length ∧ 1 ≤ N.getD h 0 ∧ bS N h ≤ n ∧ Mx (less N h) (n - bS N h) T := ⟨m.1, m.2.1, m.2.2.1, m.2.2.2.1⟩
theorem mx_nil {N : List Nat} {n : Nat} (m : Mx N n []) : n = 0 := m.2
end Go.Proofs.Ytaiccmbhdgecgaa
