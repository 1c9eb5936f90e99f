/-
  A sector of what a crash leaves: its front and its back.
-/
import Derived.Test.YtdgkhenejjodaaaDoorDkh
namespace Go.Proofs.YtdgkhenejjodaaaDoor
open Go.RowKit
set_option maxRecDepth 100000

theorem sec_spliceG {S X : List UInt8} {n m : Nat} (hS : S.length = 768) (hn : n < 6) (hm : m < 6) (hX : X.length ≤ 128) : sec (splice S (m * 128) X) n = if m = n then X ++ (sec S n).drop X.length else sec S n := by
  have hl : (splice S (m * 128) X).length = 768 := by rw [length_splice _ _ _ (by omega), hS]
  apply List.ext_getElem?
  intro i
  by_cases hi : i < 128
  · unfold sec splice
    rw [List.getElem?_take, if_pos hi, List.getElem?_drop]
    by_cases h : m = n
    · subst h
      rw [if_pos rfl, List.getElem?_append_right (by rw [List.length_take]; omega), List.length_take, show min (m * 128) S.length = m * 128 by omega, show m * 128 + i - m * 128 = i by omega]
      by_cases hx : i < X.length
      · rw [List.getElem?_append_left hx, List.getElem?_append_left hx]
      · rw [List.getElem?_append_right (by omega), List.getElem?_append_right (by omega), List.getElem?_drop, List.getElem?_drop, List.getElem?_take, if_pos (by omega), List.getElem?_drop]
        congr 1
        omega
    · rw [if_neg h, List.getElem?_take, if_pos hi, List.getElem?_drop]
      by_cases hlt : n < m
      · rw [List.getElem?_append_left (by rw [List.length_take]; omega), List.getElem?_take, if_pos (by omega)]
      · have hgt : m < n := by omega
        rw [List.getElem?_append_right (by rw [List.length_take]; omega), List.length_take, show min (m * 128) S.length = m * 128 by omega, List.getElem?_append_right (by omega), List.getElem?_drop]
        congr 1
        omega
  · rw [List.getElem?_eq_none (by rw [sec_len hl hn]; omega)]
    split
    · rw [List.getElem?_eq_none (by rw [List.length_append, List.length_drop, sec_len hS hn]; omega)]
    · rw [List.getElem?_eq_none (by rw [sec_len hS hn]; omega)]
/-- a front of h bytes and a back -/
def mix (a b : UInt8) (h : Nat) : List UInt8 := List.replicate h a ++ List.replicate (128 - h) b
theorem mix_same (a : UInt8) (h : Nat) (hh : h ≤ 128) : mix a a h = one a := by
  unfold mix one
  rw [List.replicate_append_replicate, Nat.add_sub_cancel' hh]
theorem mix_at (a b : UInt8) (h i : Nat) (hi : i < 128) (hh : h ≤ 128) : (mix a b h)[i]? = some (if i < h then a else b) := by
  unfold mix
  by_cases hx : i < h
  · rw [List.getElem?_append_left (by simpa using hx), List.getElem?_replicate, if_pos hx, if_pos hx]
  · rw [List.getElem?_append_right (by simp; omega), List.length_replicate, List.getElem?_replicate, if_pos (by omega), if_neg hx]
/-- front and back of sector s behind j loose writes -/
def fb (P : List Pt) (k s : Nat) (K : List Int) (T : Int) : Nat → UInt8 × UInt8
  | 0 => (lst (P.take k) s, lst (P.take k) s)
  | j + 1 => match P[k + j]? with
    | none => fb P k s K T j
    | some p => if sct p.1 ≠ s then fb P k s K T j else if (j : Int) ∈ K then (p.2.1, p.2.1) else if (j : Int) = T then (p.2.1, (fb P k s K T j).2) else fb P k s K T j
theorem bar_nofl (P : List Pt) : ∀ n j, bar P n ≤ j → j < n → ∀ p, P[j]? = some p → p.2.2 = false := by
  intro n
  induction n with
  | zero => intro j _ h; omega
  | succ n ih =>
    intro j h1 h2 p hp
    unfold bar at h1
    split at h1
    · omega
    · rename_i hne
      by_cases hj : j = n
      · subst hj
        rw [hp] at hne
        simpa using hne
      · exact ih j h1 (by omega) p hp
theorem bar_take (P : List Pt) (n : Nat) : ∀ j, j ≤ n → bar (P.take n) j = bar P j := by
  intro j
  induction j with
  | zero => intro _; rfl
  | succ j ih =>
    intro h
    have e : (P.take n)[j]? = P[j]? := by rw [List.getElem?_take, if_pos (by omega)]
    unfold bar
    rw [e, ih (by omega)]
theorem sec_lay (P : List Pt) (n s h : Nat) (K : List Int) (T : Int) (hs : s < 6) (hh : h ≤ 128) (hn : n ≤ P.length) :
    ∀ j, bar P n + j ≤ n → (layN (seenP (P.take (bar P n))) (((P.map opP).take n).drop (bar P n)) (fun i => (spr K T (h : Int) i).toNat) j).length = 768 ∧
      sec (layN (seenP (P.take (bar P n))) (((P.map opP).take n).drop (bar P n)) (fun i => (spr K T (h : Int) i).toNat) j) s = mix (fb P (bar P n) s K T j).1 (fb P (bar P n) s K T j).2 h := by
  intro j
  induction j with
  | zero =>
    intro _
    refine ⟨seenP_len _, ?_⟩
    change sec (seenP (P.take (bar P n))) s = mix (lst (P.take (bar P n)) s) (lst (P.take (bar P n)) s) h
    rw [mix_same _ _ hh, sec_seen s hs _ _ rfl]
  | succ j ih =>
    intro hj
    obtain ⟨hl, hsec⟩ := ih (by omega)
    have hlen : j < (((P.map opP).take n).drop (bar P n)).length := by rw [List.length_drop, List.length_take, List.length_map]; omega
    have hpj : bar P n + j < P.length := by omega
    have hget : (((P.map opP).take n).drop (bar P n))[j] = opP P[bar P n + j] := by simp
    have hnf := bar_nofl P n (bar P n + j) (by omega) (by omega) P[bar P n + j] (List.getElem?_eq_getElem hpj)
    rw [layN_step hlen, hget]
    generalize layN (seenP (P.take (bar P n))) (((P.map opP).take n).drop (bar P n)) (fun i => (spr K T (h : Int) i).toNat) j = S at *
    have hfb : fb P (bar P n) s K T (j + 1) = (if sct P[bar P n + j].1 ≠ s then fb P (bar P n) s K T j else if (j : Int) ∈ K then (P[bar P n + j].2.1, P[bar P n + j].2.1) else if (j : Int) = T then (P[bar P n + j].2.1, (fb P (bar P n) s K T j).2) else fb P (bar P n) s K T j) := by
      rw [fb, List.getElem?_eq_getElem hpj]
    rw [hfb]
    generalize P[bar P n + j] = p at *
    have hsc := sct_lt p.1
    have hz : (spr K T (h : Int) j).toNat ≤ 128 := by have := spr_le K T (h : Int) j (by omega) (by omega); omega
    have ho : opP p = ((sct p.1 : Int), one p.2.1) := by unfold opP; rw [if_neg (by rw [hnf]; simp)]
    have hlay : lay1 S (opP p) (spr K T (h : Int) j).toNat = splice S (sct p.1 * 128) (List.replicate (spr K T (h : Int) j).toNat p.2.1) := by
      unfold lay1
      rw [if_neg (fun e => by have := (opP_fl p).1 e; rw [hnf] at this; cases this), ho]
      simp only [Int.toNat_natCast, one, List.take_replicate]
      rw [Nat.min_eq_left hz]
    rw [hlay]
    refine ⟨by rw [length_splice _ _ _ (by rw [List.length_replicate]; omega), hl], ?_⟩
    rw [sec_spliceG hl hs hsc (by rw [List.length_replicate]; exact hz), List.length_replicate]
    by_cases hne : sct p.1 = s
    · rw [if_pos hne, if_neg (by simpa using hne), hsec]
      unfold spr
      by_cases hK : (j : Int) ∈ K
      · rw [if_pos hK, if_pos hK, mix_same _ _ hh, List.drop_of_length_le (by simp [mix]; omega)]
        simp [one]
      · rw [if_neg hK, if_neg hK]
        by_cases hT : (j : Int) = T
        · rw [if_pos hT, if_pos hT, Int.toNat_natCast]
          unfold mix
          rw [List.drop_append_of_le_length (by simp), List.drop_of_length_le (by simp), List.nil_append]
        · rw [if_neg hT, if_neg hT]
          rfl
    · rw [if_neg hne, if_pos hne, hsec]
theorem at_sec (P : List Pt) (n s h : Nat) (K : List Int) (T : Int) (hs : s < 6) (hh : h ≤ 128) (hn : n ≤ P.length) :
    sec (atI (zs 768) (P.map opP) n K T (h : Int)) s = mix (fb P (bar P n) s K T (n - bar P n)).1 (fb P (bar P n) s K T (n - bar P n)).2 h := by
  have hb := bar_le P n
  have h1 := layN_seen (P.take (bar P n)) (P.take (bar P n)).length (Nat.le_refl _)
  rw [List.take_length] at h1
  unfold atI
  rw [brr_is, ← List.map_take, List.length_map, h1]
  have hl : (((P.map opP).take n).drop (bar P n)).length = n - bar P n := by rw [List.length_drop, List.length_take, List.length_map]; omega
  rw [hl]
  exact (sec_lay P n s h K T hs hh hn _ (by omega)).2
end Go.Proofs.YtdgkhenejjodaaaDoor
