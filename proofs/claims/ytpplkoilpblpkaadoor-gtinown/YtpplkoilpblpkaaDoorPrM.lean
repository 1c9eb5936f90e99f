/-
  What Print answers of a list.
-/
import Derived.Test.YtpplkoilpblpkaaDoorFault
import Derived.Test.YtpplkoilpblpkaaDoorLone
namespace Go.Proofs.YtpplkoilpblpkaaDoor
open Go.RowKit
set_option maxRecDepth 100000

/-- what is wrong with element i behind those ahead of it -/
def ft (L : List El) (i : Nat) : Int := match L[i]? with
  | some x => ftE (L.take i) x.1.data.toList x.2.data.toList
  | none => 0
theorem ft_at {L : List El} {i : Nat} (h : i < L.length) : ft L i = ftE (L.take i) (L[i]).1.data.toList (L[i]).2.data.toList := by
  unfold ft
  rw [List.getElem?_eq_getElem h]

/-- is a kind's Value one that nothing ends? -/
def plK (k : Int) : Bool := decide (k ≤ 4) || decide (k = 6)
def plB (a : List UInt8) : Bool := plK ((kfind a).getD 13)
/-- the bytes of element i in the scanned string -/
def sg (L : List El) (i : Nat) : List UInt8 := match L[i]? with
  | some x => x.1.data.toList ++ x.2.data.toList ++ (if plB x.1.data.toList = false ∧ i + 1 < L.length then [29] else [])
  | none => []
def scP (L : List El) : Nat → List UInt8
  | 0 => []
  | i + 1 => scP L i ++ sg L i
theorem sg_at {L : List El} {i : Nat} (h : i < L.length) : sg L i = (L[i]).1.data.toList ++ (L[i]).2.data.toList ++ (if plB (L[i]).1.data.toList = false ∧ i + 1 < L.length then [29] else []) := by
  unfold sg
  rw [List.getElem?_eq_getElem h]

theorem nodup_le {α : Type} [DecidableEq α] (l m : List α) (hn : l.Nodup) (hs : ∀ x ∈ l, x ∈ m) : l.length ≤ m.length := by
  induction l generalizing m with
  | nil => simp
  | cons x t ih =>
    rw [List.nodup_cons] at hn
    have h1 : x ∈ m := hs x (by simp)
    have h2 := ih (m.erase x) hn.2 (fun y hy => (List.mem_erase_of_ne (fun (e : y = x) => hn.1 (by rw [← e]; exact hy))).2 (hs y (by simp [hy])))
    rw [List.length_erase_of_mem h1] at h2
    have : 0 < m.length := List.length_pos_of_mem h1
    simp
    omega

theorem plN_has (L : List El) (a : List UInt8) (k : Nat) (x : El) (hx : x ∈ L) (h : x.1.data.toList = a) : 0 ≤ plN L a k := by
  induction L generalizing k with
  | nil => simp at hx
  | cons y t ih =>
    unfold plN
    split
    · omega
    · rename_i hne
      rcases List.mem_cons.1 hx with rfl | h2
      · exact absurd h hne
      · exact ih (k + 1) h2
theorem hsB_none {L : List El} {a : List UInt8} (h : hsB L a = false) (x : El) (hx : x ∈ L) : x.1.data.toList ≠ a := by
  intro e
  have := plN_has L a 0 x hx e
  unfold hsB plc at h
  simp at h
  omega
theorem clE_none {L : List El} {a : List UInt8} (h : clE L a = 0) : hsB L a = false := by
  unfold clE at h
  by_cases e : hsB L a = true
  · rw [if_pos e] at h; cases h
  · simpa using e
theorem ftE_zero {L : List El} {a x : List UInt8} (h : ftE L a x = 0) : ∃ k, kfind a = some k ∧ clE L a = 0 ∧ fltK k x = 0 := by
  unfold ftE at h
  cases hf : kfind a with
  | none => rw [hf] at h; cases h
  | some k =>
    rw [hf] at h
    simp only at h
    by_cases e : clE L a = 0
    · rw [if_neg (by simpa using e)] at h
      exact ⟨k, rfl, e, h⟩
    · rw [if_pos e] at h
      exact absurd h e
theorem kfind_memP {a : List UInt8} {k : Int} (h : kfind a = some k) : a ∈ knl.map (·.1) := by
  unfold kfind at h
  obtain ⟨x, hx, _⟩ := Option.map_eq_some_iff.1 h
  have h1 := List.mem_of_find?_eq_some hx
  have h2 := List.find?_some hx
  exact List.mem_map.2 ⟨x, h1, by simpa using h2⟩
theorem kfind_len {a : List UInt8} {k : Int} (h : kfind a = some k) : a.length ≤ 4 := by
  obtain ⟨x, hx, rfl⟩ := List.mem_map.1 (kfind_memP h)
  have hall : (knl.all fun x => decide (x.1.length ≤ 4)) = true := by decide
  simpa using List.all_eq_true.1 hall x hx

/-- elements that may stand have Ais of their own -/
theorem ais_nodup (L : List El) (i : Nat) (hi : i ≤ L.length) (h : ∀ j, j < i → ft L j = 0) : ((L.take i).map fun x => x.1.data.toList).Nodup ∧ ∀ a ∈ (L.take i).map (fun x => x.1.data.toList), a ∈ knl.map (·.1) := by
  induction i with
  | zero => simp
  | succ i ih =>
    obtain ⟨h1, h2⟩ := ih (by omega) (fun j hj => h j (by omega))
    have h0 := h i (by omega)
    rw [ft_at (by omega)] at h0
    obtain ⟨k, hk, hc, _⟩ := ftE_zero h0
    have hn := hsB_none (clE_none hc)
    rw [List.take_add_one, List.getElem?_eq_getElem (by omega)]
    simp only [Option.toList_some, List.map_append, List.map_cons, List.map_nil]
    refine ⟨?_, fun a ha => ?_⟩
    · rw [List.nodup_append]
      refine ⟨h1, by simp, fun a ha b hb e => ?_⟩
      simp at hb
      subst hb
      obtain ⟨x, hx, hxa⟩ := List.mem_map.1 ha
      exact hn x hx (hxa.trans e)
    · rcases List.mem_append.1 ha with h3 | h3
      · exact h2 a h3
      · simp at h3
        subst h3
        exact kfind_memP hk
theorem few_39 (L : List El) (i : Nat) (hi : i ≤ L.length) (h : ∀ j, j < i → ft L j = 0) : i ≤ 39 := by
  obtain ⟨h1, h2⟩ := ais_nodup L i hi h
  have h3 := nodup_le _ _ h1 h2
  rw [List.length_map, List.length_map, List.length_take] at h3
  have h4 : knl.length = 39 := by decide
  omega
theorem fltE_len {a b : Nat} {P : UInt8 → Int} {q : Int} {x : List UInt8} (h : fltE a b P q x = 0) : a ≤ x.length ∧ x.length ≤ b := by
  unfold fltE at h
  split at h
  · cases h
  · split at h
    · cases h
    · omega
theorem fltK_len {k : Int} {x : List UInt8} (h : fltK k x = 0) : x.length ≤ 90 := by
  unfold fltK at h
  by_cases h0 : k = 0
  · rw [if_pos h0] at h; have := fltE_len h; omega
  rw [if_neg h0] at h
  by_cases h1 : k = 1
  · rw [if_pos h1] at h; have := fltE_len h; omega
  rw [if_neg h1] at h
  by_cases h2 : k = 2
  · rw [if_pos h2] at h; have := fltE_len h; omega
  rw [if_neg h2] at h
  by_cases h3 : k = 3
  · rw [if_pos h3] at h; have := fltE_len h; omega
  rw [if_neg h3] at h
  by_cases h4 : k = 4
  · rw [if_pos h4] at h; have := fltE_len h; omega
  rw [if_neg h4] at h
  by_cases h5 : k = 5
  · rw [if_pos h5] at h; have := fltE_len h; omega
  rw [if_neg h5] at h
  by_cases h6 : k = 6
  · rw [if_pos h6] at h; have := fltE_len h; omega
  rw [if_neg h6] at h
  by_cases h7 : k = 7
  · rw [if_pos h7] at h; have := fltE_len h; omega
  rw [if_neg h7] at h
  by_cases h8 : k = 8
  · rw [if_pos h8] at h; have := fltE_len h; omega
  rw [if_neg h8] at h
  by_cases h9 : k = 9
  · rw [if_pos h9] at h; have := fltE_len h; omega
  rw [if_neg h9] at h
  by_cases h10 : k = 10
  · rw [if_pos h10] at h; have := fltE_len h; omega
  rw [if_neg h10] at h
  by_cases h11 : k = 11
  · rw [if_pos h11] at h; have := fltE_len h; omega
  rw [if_neg h11] at h
  have := fltE_len h
  omega
/-- the scanned string of elements that may stand is short -/
theorem scP_len (L : List El) (i : Nat) (hi : i ≤ L.length) (h : ∀ j, j < i → ft L j = 0) : (scP L i).length ≤ 95 * i := by
  induction i with
  | zero => simp [scP]
  | succ i ih =>
    have h1 := ih (by omega) (fun j hj => h j (by omega))
    have h0 := h i (by omega)
    rw [ft_at (by omega)] at h0
    obtain ⟨k, hk, _, hf⟩ := ftE_zero h0
    have h2 := kfind_len hk
    have h3 := fltK_len hf
    rw [scP, List.length_append, sg_at (by omega), List.length_append, List.length_append]
    split <;> simp only [List.length_cons, List.length_nil] <;> omega

/-- what Print answers -/
def PrA (L : List El) (t : ByteArray) (e n : Int) : Prop :=
  (∃ i, i < L.length ∧ (∀ j, j < i → ft L j = 0) ∧ ft L i ≠ 0 ∧ t = ⟨#[]⟩ ∧ e = ft L i ∧ n = (i : Int)) ∨
  ((∀ j, j < L.length → ft L j = 0) ∧ ((0 ≤ loI L ∧ t = ⟨#[]⟩ ∧ e = 25 ∧ n = loI L) ∨ (loI L < 0 ∧ 512 < (scP L L.length).length ∧ t = ⟨#[]⟩ ∧ e = 1 ∧ n = (L.length : Int)) ∨
    (loI L < 0 ∧ (scP L L.length).length ≤ 512 ∧ t.data.toList = scP L L.length ∧ e = 0 ∧ n = 0)))
theorem PrA.same {L : List El} {t t' : ByteArray} {e e' n n' : Int} (h : PrA L t e n) (h' : PrA L t' e' n') : t' = t ∧ e' = e ∧ n' = n := by
  rcases h with ⟨i, hi, h1, h2, rfl, rfl, rfl⟩ | ⟨hz, h⟩
  · rcases h' with ⟨j, hj, h3, h4, rfl, rfl, rfl⟩ | ⟨hz', _⟩
    · have : i = j := by
        rcases Nat.lt_trichotomy i j with h | h | h
        · exact absurd (h3 i h) h2
        · exact h
        · exact absurd (h1 j h) h4
      subst this
      exact ⟨rfl, rfl, rfl⟩
    · exact absurd (hz' i hi) h2
  · rcases h' with ⟨j, hj, _, h4, _⟩ | ⟨_, h'⟩
    · exact absurd (hz j hj) h4
    · rcases h with ⟨a, rfl, rfl, rfl⟩ | ⟨a, b, rfl, rfl, rfl⟩ | ⟨a, b, c, rfl, rfl⟩ <;> rcases h' with ⟨a', rfl, rfl, rfl⟩ | ⟨a', b', rfl, rfl, rfl⟩ | ⟨a', b', c', rfl, rfl⟩ <;> first | (exact ⟨rfl, rfl, rfl⟩) | omega | (exact ⟨ByteArray.ext (Array.ext' (c'.trans c.symm)), rfl, rfl⟩)
end Go.Proofs.YtpplkoilpblpkaaDoor
