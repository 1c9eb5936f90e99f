/-
  Sheets: what is read may be printed, and is hardly longer.
-/
import Derived.Test.YtpgpeafmlijfkaaGreatDoorSpt
namespace Go.Proofs.YtpgpeafmlijfkaaGreatDoor
set_option maxRecDepth 100000
set_option linter.unusedVariables false
set_option linter.unusedSimpArgs false

theorem dbl_ge (t : List UInt8) : t.length ≤ (dbl t).length := by
  induction t with
  | nil => simp [dbl]
  | cons c t ih => rw [dbl]; split <;> simp <;> omega
theorem pcl_le (t : List UInt8) : (pcl t).length ≤ (dbl t).length + 2 := by
  unfold pcl
  have := dbl_ge t
  split
  · simp
  · omega
theorem pcl_bare (t : List UInt8) (h : ∀ c ∈ t, nqB c.toNat = false) : pcl t = t := by
  unfold pcl
  rw [if_neg]
  intro hq
  obtain ⟨c, hc, hb⟩ := List.any_eq_true.1 hq
  rw [h c hc] at hb
  exact absurd hb (by decide)
theorem okC.snoc {t : List UInt8} (h : okC t) {c : UInt8} (hc : mayB c.toNat = true) (hl : ¬ t.length = 4096) : okC (t ++ [c]) := by
  refine ⟨by have := h.1; simp; omega, fun d hd => ?_⟩
  rcases List.mem_append.1 hd with hd | hd
  · exact h.2 d hd
  · rw [List.mem_singleton.1 hd]; exact hc
theorem dbl_one_q (t : List UInt8) (c : UInt8) (h : c.toNat = 34) : (dbl (t ++ [c])).length = (dbl t).length + 2 := by
  rw [dbl_app]; simp [dbl, h]
theorem dbl_one_p (t : List UInt8) (c : UInt8) (h : ¬ c.toNat = 34) : (dbl (t ++ [c])).length = (dbl t).length + 1 := by
  rw [dbl_app]; simp [dbl, h]

theorem qd_form (L : List UInt8) (fr : Nat) : ∀ (n i : Nat) (t : List UInt8), L.length - i ≤ n → i ≤ L.length → fr + 1 ≤ i → okC t → (dbl t).length = i - (fr + 1) → (qd L fr i t).2.2.1 = 0 →
    okC (qd L fr i t).1 ∧ (dbl (qd L fr i t).1).length + 2 = (qd L fr i t).2.1 - fr ∧ fr < (qd L fr i t).2.1 ∧ (qd L fr i t).2.1 ≤ L.length := by
  intro n
  induction n with
  | zero =>
    intro i t hn hi hf ht hd h0
    rw [qd_eq, if_neg (by omega)] at h0
    exact absurd h0 (by simp)
  | succ n ih =>
    intro i t hn hi hf ht hd h0
    by_cases h : i < L.length
    · by_cases hq : ch L i = 34
      · by_cases h2 : L.length ≤ i + 1 ∨ ch L (i + 1) ≠ 34
        · have hv : qd L fr i t = (t, i + 1, 0, 0) := by rw [qd_eq]; simp [h, hq, h2]
          rw [hv]
          exact ⟨ht, by simp only; omega, by simp only; omega, by simp only; omega⟩
        · have h2' := not_or.1 h2
          have hlt : i + 1 < L.length := by omega
          have hq2 : ch L (i + 1) = 34 := Decidable.not_not.1 h2'.2
          by_cases h3 : t.length = 4096
          · rw [qd_eq, if_pos h, if_pos hq, if_neg h2, if_pos h3] at h0
            exact absurd h0 (by simp)
          · have hv : qd L fr i t = qd L fr (i + 2) (t ++ [bt L (i + 1)]) := by rw [qd_eq L fr i t]; simp [h, hq, h2, h3]
            rw [hv] at h0 ⊢
            have hq2' : (bt L (i + 1)).toNat = 34 := hq2
            exact ih (i + 2) _ (by omega) (by omega) (by omega) (ht.snoc (by rw [hq2']; rfl) h3) (by rw [dbl_one_q _ _ hq2']; omega) h0
      · by_cases hm : mayB (ch L i) = false
        · rw [qd_eq, if_pos h, if_neg hq, if_pos hm] at h0
          exact absurd h0 (by simp)
        · by_cases h3 : t.length = 4096
          · rw [qd_eq, if_pos h, if_neg hq, if_neg hm, if_pos h3] at h0
            exact absurd h0 (by simp)
          · have hv : qd L fr i t = qd L fr (i + 1) (t ++ [bt L i]) := by rw [qd_eq L fr i t]; simp [h, hq, hm, h3]
            rw [hv] at h0 ⊢
            have hm' : mayB (bt L i).toNat = true := by
              cases hb : mayB (bt L i).toNat
              · exact absurd hb hm
              · rfl
            exact ih (i + 1) _ (by omega) (by omega) (by omega) (ht.snoc hm' h3) (by rw [dbl_one_p _ _ hq]; omega) h0
    · rw [qd_eq, if_neg h] at h0
      exact absurd h0 (by simp)

theorem ql_form (L : List UInt8) (fr : Nat) : ∀ (n i : Nat), L.length - i ≤ n → fr ≤ i → i ≤ L.length → i - fr ≤ 4096 → (∀ c ∈ sub L fr i, mayB c.toNat = true ∧ nqB c.toNat = false) → (ql L fr i).2.1 = 0 →
    i ≤ (ql L fr i).1 ∧ (ql L fr i).1 ≤ L.length ∧ (ql L fr i).1 - fr ≤ 4096 ∧ ∀ c ∈ sub L fr (ql L fr i).1, mayB c.toNat = true ∧ nqB c.toNat = false := by
  intro n
  induction n with
  | zero =>
    intro i hn hf hi hc hs h0
    have hv : ql L fr i = (i, 0, 0) := by rw [ql_eq, if_neg (fun h => by omega)]
    rw [hv]
    exact ⟨Nat.le_refl _, hi, hc, hs⟩
  | succ n ih =>
    intro i hn hf hi hc hs h0
    by_cases h : i < L.length ∧ ch L i ≠ 44 ∧ ch L i ≠ 13
    · rw [ql_eq, if_pos h] at h0
      by_cases h10 : ch L i = 10
      · rw [if_pos h10] at h0; exact absurd h0 (by simp)
      rw [if_neg h10] at h0
      by_cases h34 : ch L i = 34
      · rw [if_pos h34] at h0; exact absurd h0 (by simp)
      rw [if_neg h34] at h0
      by_cases h9 : ch L i = 9 ∨ mayB (ch L i) = false
      · rw [if_pos h9] at h0; exact absurd h0 (by simp)
      rw [if_neg h9] at h0
      by_cases h4 : i - fr = 4096
      · rw [if_pos h4] at h0; exact absurd h0 (by simp)
      rw [if_neg h4] at h0
      have hv : ql L fr i = ql L fr (i + 1) := by rw [ql_eq L fr i, if_pos h, if_neg h10, if_neg h34, if_neg h9, if_neg h4]
      rw [hv]
      have hsn : ∀ c ∈ sub L fr (i + 1), mayB c.toNat = true ∧ nqB c.toNat = false := by
        intro c hcm
        rw [sub_snoc L fr i h.1 hf] at hcm
        rcases List.mem_append.1 hcm with hcm | hcm
        · exact hs c hcm
        · rw [List.mem_singleton.1 hcm]
          have h9' := not_or.1 h9
          refine ⟨by cases hb : mayB (bt L i).toNat; exact absurd hb h9'.2; rfl, ?_⟩
          have e : (bt L i).toNat = ch L i := rfl
          rw [e]
          unfold nqB
          simp [h.2.1, h.2.2, h10, h34, h9'.1]
      have := ih (i + 1) (by omega) (by omega) (by omega) (by omega) hsn h0
      exact ⟨by omega, this.2⟩
    · have hv : ql L fr i = (i, 0, 0) := by rw [ql_eq, if_neg h]
      rw [hv]
      exact ⟨Nat.le_refl _, hi, hc, hs⟩

theorem cel_form (L : List UInt8) (fr : Nat) (hf : fr ≤ L.length) (h0 : (cel L fr).2.2.1 = 0) : okC (cel L fr).1 ∧ (pcl (cel L fr).1).length ≤ (cel L fr).2.1 - fr ∧ fr ≤ (cel L fr).2.1 ∧ (cel L fr).2.1 ≤ L.length := by
  unfold cel at h0 ⊢
  by_cases hq : fr < L.length ∧ ch L fr = 34
  · rw [if_pos hq] at h0 ⊢
    simp only at h0 ⊢
    by_cases hc : (qd L fr (fr + 1) []).2.2.1 ≠ 0 ∨ (qd L fr (fr + 1) []).2.1 = L.length ∨ ch L (qd L fr (fr + 1) []).2.1 = 44 ∨ ch L (qd L fr (fr + 1) []).2.1 = 13
    · rw [if_pos hc] at h0 ⊢
      obtain ⟨a, b, c, d⟩ := qd_form L fr _ (fr + 1) [] (Nat.le_refl _) (by omega) (by omega) ⟨by simp, by simp⟩ (by simp [dbl]) h0
      have := pcl_le (qd L fr (fr + 1) []).1
      exact ⟨a, by omega, by omega, d⟩
    · rw [if_neg hc] at h0
      split at h0
      · exact absurd h0 (by simp)
      · exact absurd h0 (by simp)
  · rw [if_neg hq] at h0 ⊢
    simp only at h0 ⊢
    by_cases hc : (ql L fr fr).2.1 = 0
    · rw [if_pos hc]
      obtain ⟨a, b, c, d⟩ := ql_form L fr _ fr (Nat.le_refl _) (Nat.le_refl _) hf (by omega) (by rw [sub_nil]; simp) hc
      refine ⟨⟨by rw [sub_len _ _ _ b]; exact c, fun x hx => (d x hx).1⟩, ?_, a, b⟩
      rw [pcl_bare _ (fun x hx => (d x hx).2), sub_len _ _ _ b]
      simp
    · rw [if_neg hc] at h0
      exact absurd h0 hc

theorem rowD_form (L : List UInt8) : ∀ (n i : Nat) (acc : List (List UInt8)), i ≤ L.length → L.length - i < n → acc.length < 64 → (∀ T ∈ acc, okC T) → (rowD L n i acc).2.2.1 = 0 →
    1 ≤ (rowD L n i acc).1.length ∧ (rowD L n i acc).1.length ≤ 64 ∧ (∀ T ∈ (rowD L n i acc).1, okC T) ∧ i ≤ (rowD L n i acc).2.1 ∧ (rowD L n i acc).2.1 ≤ L.length ∧ (pcs (rowD L n i acc).1).length ≤ (if acc = [] then 0 else (pcs acc).length + 1) + ((rowD L n i acc).2.1 - i) := by
  intro n
  induction n with
  | zero => intro i acc hi hn; omega
  | succ n ih =>
    intro i acc hi hn hl ha h0
    have hps : ∀ T : List UInt8, (pcs (acc ++ [T])).length = (if acc = [] then 0 else (pcs acc).length + 1) + (pcl T).length := by
      intro T
      by_cases he : acc = []
      · subst he; simp [pcs]
      · rw [pcs_snoc _ _ he, if_neg he]; simp; omega
    have hok : ∀ T : List UInt8, okC T → ∀ U ∈ acc ++ [T], okC U := by
      intro T hT U hU
      rcases List.mem_append.1 hU with hU | hU
      · exact ha U hU
      · rw [List.mem_singleton.1 hU]; exact hT
    rw [rowD] at h0 ⊢
    by_cases h1 : (cel L i).2.2.1 ≠ 0
    · rw [if_pos h1] at h0
      exact absurd h0 h1
    · have h1' : (cel L i).2.2.1 = 0 := Decidable.not_not.1 h1
      obtain ⟨c1, c2, c3, c4⟩ := cel_form L i hi h1'
      rw [if_neg h1] at h0 ⊢
      by_cases h2 : (cel L i).2.1 < L.length ∧ ch L (cel L i).2.1 = 44
      · rw [if_pos h2] at h0 ⊢
        by_cases h3 : acc.length + 1 = 64
        · rw [if_pos h3] at h0
          exact absurd h0 (by simp)
        · rw [if_neg h3] at h0 ⊢
          obtain ⟨d1, d2, d3, d4, d5, d6⟩ := ih ((cel L i).2.1 + 1) (acc ++ [(cel L i).1]) (by omega) (by omega) (by simp; omega) (hok _ c1) h0
          rw [if_neg (by simp), hps] at d6
          exact ⟨d1, d2, d3, by omega, d5, by omega⟩
      · rw [if_neg h2]
        refine ⟨by simp, by simp; omega, hok _ c1, c3, c4, ?_⟩
        rw [hps]
        simp only
        omega

theorem rdD_form (L : List UInt8) : ∀ (n i : Nat) (acc : List (List (List UInt8))), i ≤ L.length → L.length - i < n → okR acc → (prt acc).length ≤ i → (rdD L n i acc).2.2.1 = 0 →
    okR (rdD L n i acc).1 ∧ (prt (rdD L n i acc).1).length ≤ L.length + 2 := by
  intro n
  induction n with
  | zero => intro i acc hi hn; omega
  | succ n ih =>
    intro i acc hi hn ha hp h0
    rw [rdD] at h0 ⊢
    by_cases h : i < L.length
    · rw [if_pos h] at h0 ⊢
      by_cases h4 : acc.length = 4096
      · rw [if_pos h4] at h0
        exact absurd h0 (by simp)
      · rw [if_neg h4] at h0 ⊢
        simp only at h0 ⊢
        by_cases h1 : (rowD L (L.length + 1) i []).2.2.1 ≠ 0
        · rw [if_pos h1] at h0
          exact absurd h0 h1
        · have h1' : (rowD L (L.length + 1) i []).2.2.1 = 0 := Decidable.not_not.1 h1
          obtain ⟨c1, c2, c3, c4, c5, c6⟩ := rowD_form L (L.length + 1) i [] hi (by omega) (by simp) (by simp) h1'
          rw [if_pos rfl] at c6
          rw [if_neg h1] at h0 ⊢
          by_cases h2 : (rowD L (L.length + 1) i []).2.1 < L.length ∧ ((rowD L (L.length + 1) i []).2.1 + 1 = L.length ∨ ch L ((rowD L (L.length + 1) i []).2.1 + 1) ≠ 10)
          · rw [if_pos h2] at h0
            exact absurd h0 (by simp)
          · rw [if_neg h2] at h0 ⊢
            by_cases h3 : 0 < acc.length ∧ (rowD L (L.length + 1) i []).1.length ≠ (acc.headD []).length
            · rw [if_pos h3] at h0
              exact absurd h0 (by simp)
            · rw [if_neg h3] at h0 ⊢
              have hR : okR (acc ++ [(rowD L (L.length + 1) i []).1]) := by
                refine ⟨by have := ha.1; simp; omega, fun cs hcs => ?_⟩
                cases acc with
                | nil =>
                  simp at hcs
                  subst hcs
                  exact ⟨c1, c2, rfl, c3⟩
                | cons a acc =>
                  have hh : (a :: acc ++ [(rowD L (L.length + 1) i []).1]).headD [] = a := rfl
                  rw [hh]
                  rcases List.mem_append.1 hcs with hcs | hcs
                  · exact ha.2 cs hcs
                  · rw [List.mem_singleton.1 hcs]
                    refine ⟨c1, c2, Decidable.byContradiction fun hne => h3 ⟨by simp, hne⟩, c3⟩
              have hL : (prt (acc ++ [(rowD L (L.length + 1) i []).1])).length = (prt acc).length + ((pcs (rowD L (L.length + 1) i []).1).length + 2) := by
                rw [prt_snoc]; simp [prw]
              by_cases h5 : (rowD L (L.length + 1) i []).2.1 = L.length
              · rw [if_pos h5]
                simp only
                exact ⟨hR, by omega⟩
              · rw [if_neg h5] at h0 ⊢
                exact ih _ _ (by omega) (by omega) hR (by omega) h0
    · rw [if_neg h]
      simp only
      exact ⟨ha, by omega⟩
/-- what is read may be printed, and is no longer than it was but for its end -/
theorem read_form (L : List UInt8) (h0 : (rdA L).2.2.1 = 0) : okR (rdA L).1 ∧ (prt (rdA L).1).length ≤ L.length + 2 := by
  unfold rdA at h0 ⊢
  by_cases h : L.length ≤ 262144
  · rw [if_pos h] at h0 ⊢
    exact rdD_form L _ 0 [] (by omega) (by omega) ⟨by simp, by simp⟩ (by simp [prt]) h0
  · rw [if_neg h] at h0
    simp only at h0
    split at h0
    · rename_i hs
      unfold shw at hs
      rw [if_pos (.inl h0)] at hs
      exact absurd hs (by simp)
    · exact absurd h0 (by simp)
theorem read_len (L : List UInt8) (h0 : (rdA L).2.2.1 = 0) : L.length ≤ 262144 := by
  unfold rdA at h0
  by_cases h : L.length ≤ 262144
  · exact h
  · rw [if_neg h] at h0
    simp only at h0
    split at h0
    · rename_i hs
      unfold shw at hs
      rw [if_pos (.inl h0)] at hs
      exact absurd hs (by simp)
    · exact absurd h0 (by simp)
end Go.Proofs.YtpgpeafmlijfkaaGreatDoor
