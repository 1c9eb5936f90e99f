/-
  A span's own text is read as the span.
-/
import Derived.Test.YtjmainmidacmfaaDoorSpk
namespace Go.Proofs.YtjmainmidacmfaaDoor
open Go.RowKit

theorem days_go (t : List UInt8) (f : Nat) (y m d : Int) (r : List UInt8) (ha : 1 ≤ t.length) (h : t.drop 1 = mkL y 89 ++ (mkL m 77 ++ (mkL d 68 ++ r))) (hy : okN y) (hm : okN m) (hd : okN d) (hf : t.length ≤ 1 + f) :
    ∃ a' f' nx', a' ≤ t.length ∧ t.drop a' = r ∧ t.length ≤ a' + f' ∧ spF t f 1 0 4 zs7 = spF t f' a' nx' 4 [y, m, 0, d, 0, 0, 0] := by
  obtain ⟨a1, f1, n1, h1, h2, h3, h4, h5⟩ := part_any' t f 1 0 4 1 zs7 y 89 _ ha h hy (by decide) (by decide) (by decide) (by decide) (by decide) (by decide) hf
  have z2 : slt n1 4 77 = ((2 - n1 : Nat) : Int) := by rcases h4 with rfl | rfl <;> decide
  obtain ⟨a2, f2, n2, g1, g2, g3, g4, g5⟩ := part_any' t f1 a1 n1 4 2 (zs7.set (fld 1) y) m 77 _ h1 h2 hm (by decide) (by decide) (by omega) (by omega) z2 rfl h3
  have hn2 : n2 = 0 ∨ n2 = 2 ∨ n2 = 3 := by omega
  have z3 : slt n2 4 68 = ((3 - n2 : Nat) : Int) := by rcases hn2 with rfl | rfl | rfl <;> decide
  obtain ⟨a3, f3, n3, k1, k2, k3, k4, k5⟩ := part_any' t f2 a2 n2 4 3 ((zs7.set (fld 1) y).set (fld 2) m) d 68 r g1 g2 hd (by decide) (by decide) (by omega) (by omega) z3 rfl g3
  exact ⟨a3, f3, n3, k1, k2, k3, by rw [h5, g5, k5]; rfl⟩

theorem clock_go (t : List UInt8) (f a nx : Nat) (y m d h i s : Int) (ha : a ≤ t.length) (hh : t.drop a = 84 :: (mkL h 72 ++ (mkL i 77 ++ (mkL s 83 ++ [])))) (h1 : okN h) (h2 : okN i) (h3 : okN s) (hf : t.length ≤ a + f) :
    spF t f a nx 4 [y, m, 0, d, 0, 0, 0] = ([y, m, 0, d, h, i, s], t.length) := by
  obtain ⟨hb, hl⟩ := drop_at t a 84 _ hh
  obtain ⟨f', rfl⟩ : ∃ f', f = f' + 1 := ⟨f - 1, by omega⟩
  rw [spF_T hl ⟨hb, rfl⟩]
  have hd := (drop_len t a [84] _ hh ha).2
  obtain ⟨a1, f1, n1, e1, e2, e3, e4, e5⟩ := part_any' t f' (a + 1) 4 7 4 [y, m, 0, d, 0, 0, 0] h 72 _ (by omega) hd h1 (by decide) (by decide) (by decide) (by decide) (by decide) rfl (by omega)
  have hn1 : n1 = 4 ∨ n1 = 5 := by omega
  have z2 : slt n1 7 77 = ((5 - n1 : Nat) : Int) := by rcases hn1 with rfl | rfl <;> decide
  obtain ⟨a2, f2, n2, g1, g2, g3, g4, g5⟩ := part_any' t f1 a1 n1 7 5 ([y, m, 0, d, 0, 0, 0].set (fld 4) h) i 77 _ e1 e2 h2 (by decide) (by decide) (by omega) (by omega) z2 rfl e3
  have hn2 : n2 = 4 ∨ n2 = 5 ∨ n2 = 6 := by omega
  have z3 : slt n2 7 83 = ((6 - n2 : Nat) : Int) := by rcases hn2 with rfl | rfl | rfl <;> decide
  obtain ⟨a3, f3, n3, k1, k2, k3, k4, k5⟩ := part_any' t f2 a2 n2 7 6 (([y, m, 0, d, 0, 0, 0].set (fld 4) h).set (fld 5) i) s 83 [] g1 g2 h3 (by decide) (by decide) (by omega) (by omega) z3 rfl g3
  have ha3 : a3 = t.length := by
    have := congrArg List.length k2
    rw [List.length_drop] at this
    simp at this
    omega
  rw [e5, g5, k5, spF_end (by omega), ha3]
  rfl

theorem mkL_nil (n : Int) (c : UInt8) : mkL n c = [] ↔ n = 0 := by
  unfold mkL
  by_cases h : n = 0
  · simp [h]
  · simp [h]

/-- it ends with a letter, if there is something -/
def EM (l : List UInt8) : Prop := l = [] ∨ ∃ x c, l = x ++ [c] ∧ c ∈ mrk
theorem EM.app {a b : List UInt8} (ha : EM a) (hb : EM b) : EM (a ++ b) := by
  rcases hb with rfl | ⟨x, c, rfl, hc⟩
  · rw [List.append_nil]; exact ha
  · exact .inr ⟨a ++ x, c, by rw [List.append_assoc], hc⟩
theorem EM.mk (n : Int) (c : UInt8) (hc : c ∈ mrk) : EM (mkL n c) := by
  by_cases h : n = 0
  · exact .inl ((mkL_nil n c).2 h)
  · exact .inr ⟨Lib.decDigits n.toNat, c, by unfold mkL; rw [if_neg h], hc⟩
theorem EM.last {l : List UInt8} (h : EM l) (hl : l ≠ []) (x : List UInt8) : bt (x ++ l) ((x ++ l).length - 1) ∈ mrk := by
  rcases h with h | ⟨y, c, rfl, hc⟩
  · exact absurd h hl
  · unfold bt
    have e : (x ++ (y ++ [c])).length - 1 = (x ++ y).length := by simp
    rw [e, ← List.append_assoc, List.getD_eq_getElem?_getD, List.getElem?_append_right (Nat.le_refl _)]
    simpa using hc

theorem spR_P (t : List UInt8) (r : List UInt8) (h : t = 80 :: r) : spR t = spF t 64 1 0 4 zs7 := by
  subst h
  unfold spR
  rw [if_pos ⟨rfl, by simp⟩]

theorem spk (y m v d h i s : Int) (hf : FSx y m v d h i s) (T : List UInt8) (hT : T = psL (dayL y m v d) (clkL h i s)) : spR T = ([y, m, v, d, h, i, s], T.length) ∧ bt T (T.length - 1) ∈ mrk ∧ T.length ≤ 64 ∧ 0 < T.length := by
  obtain ⟨⟨o0, o1, o2, o3, o4, o5, o6⟩, hw⟩ := hf
  have l0 := mkL_len y 89 o0
  have l1 := mkL_len m 77 o1
  have l2 := mkL_len v 87 o2
  have l3 := mkL_len d 68 o3
  have l4 := mkL_len h 72 o4
  have l5 := mkL_len i 77 o5
  have l6 := mkL_len s 83 o6
  have m89 : (89 : UInt8) ∈ mrk := by decide
  have m77 : (77 : UInt8) ∈ mrk := by decide
  have m87 : (87 : UInt8) ∈ mrk := by decide
  have m68 : (68 : UInt8) ∈ mrk := by decide
  have m72 : (72 : UInt8) ∈ mrk := by decide
  have m83 : (83 : UInt8) ∈ mrk := by decide
  by_cases hv : v = 0
  · subst hv
    have eD : dayL y m 0 d = mkL y 89 ++ (mkL m 77 ++ (mkL d 68 ++ [])) := by
      unfold dayL
      rw [(mkL_nil 0 87).2 rfl]
      simp
    have eC : clkL h i s = mkL h 72 ++ (mkL i 77 ++ (mkL s 83 ++ [])) := by unfold clkL; simp
    have EC : EM (clkL h i s) := by unfold clkL; exact ((EM.mk h 72 m72).app (EM.mk i 77 m77)).app (EM.mk s 83 m83)
    have ED : EM (dayL y m 0 d) := by unfold dayL; exact (((EM.mk y 89 m89).app (EM.mk m 77 m77)).app (EM.mk 0 87 m87)).app (EM.mk d 68 m68)
    by_cases hC : clkL h i s = []
    · have h0 : h = 0 ∧ i = 0 ∧ s = 0 := by
        rw [eC] at hC
        simp only [List.append_eq_nil_iff] at hC
        exact ⟨(mkL_nil h 72).1 hC.1, (mkL_nil i 77).1 hC.2.1, (mkL_nil s 83).1 hC.2.2.1⟩
      obtain ⟨rfl, rfl, rfl⟩ := h0
      by_cases hD : dayL y m 0 d = []
      · have h0 : y = 0 ∧ m = 0 ∧ d = 0 := by
          rw [eD] at hD
          simp only [List.append_eq_nil_iff] at hD
          exact ⟨(mkL_nil y 89).1 hD.1, (mkL_nil m 77).1 hD.2.1, (mkL_nil d 68).1 hD.2.2.1⟩
        obtain ⟨rfl, rfl, rfl⟩ := h0
        have e : T = [80, 84, 48, 83] := by rw [hT]; unfold psL; rw [if_neg (by simp [hC]), if_neg (by simp [hD])]
        subst e
        exact ⟨by decide +kernel, by decide +kernel, by decide, by decide⟩
      · have e : T = 80 :: dayL y m 0 d := by rw [hT]; unfold psL; rw [if_neg (by simp [hC]), if_pos hD]
        have hlen : T.length ≤ 64 := by rw [e, eD]; simp; omega
        have hpos : 1 ≤ T.length := by rw [e]; simp
        obtain ⟨a', f', nx', h1, h2, h3, h4⟩ := days_go T 64 y m d [] hpos (by rw [e, eD]; rfl) o0 o1 o3 (by omega)
        have ha : a' = T.length := by
          have := congrArg List.length h2
          rw [List.length_drop] at this
          simp at this
          omega
        refine ⟨?_, ?_, hlen, hpos⟩
        · rw [spR_P T _ e, h4, spF_end (by omega), ha]
        · have := ED.last hD [80]
          rw [e]
          exact this
    · have e : T = 80 :: (dayL y m 0 d ++ 84 :: clkL h i s) := by rw [hT]; unfold psL; rw [if_pos hC]
      have hlen : T.length ≤ 64 := by rw [e, eD, eC]; simp; omega
      have hpos : 1 ≤ T.length := by rw [e]; simp
      obtain ⟨a', f', nx', h1, h2, h3, h4⟩ := days_go T 64 y m d (84 :: clkL h i s) hpos (by rw [e, eD]; simp) o0 o1 o3 (by omega)
      refine ⟨?_, ?_, hlen, hpos⟩
      · rw [spR_P T _ e, h4]
        exact clock_go T f' a' nx' y m d h i s h1 (by rw [h2, eC]) o4 o5 o6 h3
      · have := EC.last hC (80 :: (dayL y m 0 d ++ [84]))
        rw [e]
        simpa using this
  · have h0 : y = 0 ∧ m = 0 ∧ d = 0 ∧ h = 0 ∧ i = 0 ∧ s = 0 := by omega
    obtain ⟨rfl, rfl, rfl, rfl, rfl, rfl⟩ := h0
    have z : ∀ c : UInt8, mkL 0 c = [] := fun c => (mkL_nil 0 c).2 rfl
    have eD : dayL 0 0 v 0 = mkL v 87 := by unfold dayL; rw [z, z, z]; simp
    have eC : clkL 0 0 0 = [] := by unfold clkL; rw [z, z, z]; rfl
    have hD : mkL v 87 ≠ [] := fun q => hv ((mkL_nil v 87).1 q)
    have e : T = 80 :: mkL v 87 := by rw [hT, eD, eC]; unfold psL; rw [if_neg (by simp), if_pos hD]
    have hlen : T.length ≤ 64 := by rw [e]; simp; omega
    have hpos : 1 ≤ T.length := by rw [e]; simp
    obtain ⟨a', h1, h2, h3, h4⟩ := part_go T 63 1 0 4 0 zs7 v 87 [] hpos (by rw [e]; simp) o2 hv (by decide) (by decide) (by decide) (by decide)
    have ha : a' = T.length := by
      have := congrArg List.length h2
      rw [List.length_drop] at this
      simp at this
      omega
    refine ⟨?_, ?_, hlen, hpos⟩
    · rw [spR_P T _ e, h4, spF_end (by omega), ha]
      rfl
    · have := (EM.mk v 87 m87).last hD [80]
      rw [e]
      exact this
end Go.Proofs.YtjmainmidacmfaaDoor
