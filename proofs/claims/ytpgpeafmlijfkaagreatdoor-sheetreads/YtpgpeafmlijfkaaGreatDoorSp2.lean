/-
  Sheets: what the Reader's states come to is what the document reads: cells, rows, all.
-/
import Derived.Test.YtpgpeafmlijfkaaGreatDoorSp1
namespace Go.Proofs.YtpgpeafmlijfkaaGreatDoor
set_option maxRecDepth 100000
set_option linter.unusedVariables false
set_option linter.unusedSimpArgs false

theorem cel_feed (L : List UInt8) (hL : L.length ≤ 262144) (i : Nat) (hi : i ≤ L.length) (o e : Nat × Nat) (rw wd : Nat) (cs : List (List UInt8)) (td : List (List (List UInt8))) :
    ((cel L i).2.2.1 = 0 ∧ i ≤ (cel L i).2.1 ∧ (cel L i).2.1 ≤ L.length ∧ (cel L i).1.length ≤ 4096
        ∧ ((cel L i).2.1 = L.length → ∃ o' m, feed L (st L 2 i o e rw wd [] cs td) i = st L m L.length o' e rw wd (cel L i).1 cs td ∧ (m = 2 ∨ m = 3 ∨ m = 5))
        ∧ ((cel L i).2.1 < L.length → (ch L (cel L i).2.1 = 44 ∨ ch L (cel L i).2.1 = 13) ∧ ∃ o' m, feed L (st L 2 i o e rw wd [] cs td) i = feed L (st L m (cel L i).2.1 o' e rw wd (cel L i).1 cs td) (cel L i).2.1 ∧ (m = 2 ∨ m = 3 ∨ m = 5)))
    ∨ (cel L i = ([], 0, 1, i) ∧ i < L.length ∧ ∃ t', feed L (st L 2 i o e rw wd [] cs td) i = st L 4 L.length (plc L i) e rw wd t' cs td)
    ∨ (((cel L i).2.2.1 = 2 ∨ (cel L i).2.2.1 = 4 ∨ (cel L i).2.2.1 = 5 ∨ ((cel L i).2.2.1 = 3 ∧ ch L (cel L i).2.2.2 = 10)) ∧ (cel L i).2.2.2 < L.length ∧ Bad (feed L (st L 2 i o e rw wd [] cs td) i) (cel L i).2.2.1 (plc L (cel L i).2.2.2) td) := by
  by_cases h : i < L.length ∧ ch L i = 34
  · obtain ⟨h, hq⟩ := h
    have hq' : (bt L i).toNat = 34 := hq
    have e1 : feed L (st L 2 i o e rw wd [] cs td) i = feed L (st L 4 (i + 1) (plc L i) e rw wd [] cs td) (i + 1) := by
      rw [feed_st L _ _ _ _ _ _ _ _ _ h hL]
      simp [st, Rs.next, Rs.beginCell, Rs.gone, plc_succ, hq']
    rw [e1]
    rcases qd_feed L hL i (plc L i) e rw wd cs td _ (i + 1) [] (Nat.le_refl _) (by simp) h with ⟨h0, h1, h2, h3, h4, h5⟩ | ⟨h0, t', h1⟩ | ⟨h0, h1, h2⟩
    · rw [h5]
      by_cases hb : (qd L i (i + 1) []).2.1 = L.length ∨ ch L (qd L i (i + 1) []).2.1 = 44 ∨ ch L (qd L i (i + 1) []).2.1 = 13
      · have hv : cel L i = qd L i (i + 1) [] := by rw [cel, if_pos ⟨h, hq⟩]; exact if_pos (.inr hb)
        rw [hv]
        refine .inl ⟨h0, by omega, h2, h3, fun h6 => ?_, fun h6 => ⟨?_, plc L i, 5, rfl, .inr (.inr rfl)⟩⟩
        · refine ⟨plc L i, 5, ?_, .inr (.inr rfl)⟩
          rw [h6]
          exact feed_end _ _ _ (Nat.le_refl _)
        · rcases hb with hb | hb
          · omega
          · exact hb
      · have hb' := not_or.1 hb
        have hlt : (qd L i (i + 1) []).2.1 < L.length := by omega
        have h44 : ¬ (bt L (qd L i (i + 1) []).2.1).toNat = 44 := fun h => hb'.2 (.inl h)
        have h13 : ¬ (bt L (qd L i (i + 1) []).2.1).toNat = 13 := fun h => hb'.2 (.inr h)
        have h34 : ¬ (bt L (qd L i (i + 1) []).2.1).toNat = 34 := h4 hlt
        have hno : ¬ ((qd L i (i + 1) []).2.2.1 ≠ 0 ∨ (qd L i (i + 1) []).2.1 = L.length ∨ ch L (qd L i (i + 1) []).2.1 = 44 ∨ ch L (qd L i (i + 1) []).2.1 = 13) := fun h' => h'.elim (fun h'' => h'' h0) hb
        by_cases h10 : ch L (qd L i (i + 1) []).2.1 = 10
        · have hv : cel L i = ([], 0, 3, (qd L i (i + 1) []).2.1) := by
            rw [cel, if_pos ⟨h, hq⟩]
            show (if _ then _ else _) = _
            rw [if_neg hno, if_pos h10]
          rw [hv]
          refine .inr (.inr ⟨.inr (.inr (.inr ⟨rfl, h10⟩)), hlt, ?_⟩)
          rw [feed_st L _ _ _ _ _ _ _ _ _ hlt hL]
          refine feed_bad _ _ _ _ _ _ ?_ (by simp)
          have h10' : (bt L (qd L i (i + 1) []).2.1).toNat = 10 := h10
          simp [st, Rs.next, Rs.behindQuote, h10', Rs.gone, Rs.fail, Bad]
        · have hv : cel L i = ([], 0, 2, (qd L i (i + 1) []).2.1) := by
            rw [cel, if_pos ⟨h, hq⟩]
            show (if _ then _ else _) = _
            rw [if_neg hno, if_neg h10]
          rw [hv]
          refine .inr (.inr ⟨.inl rfl, hlt, ?_⟩)
          rw [feed_st L _ _ _ _ _ _ _ _ _ hlt hL]
          refine feed_bad _ _ _ _ _ _ ?_ (by simp)
          have h10' : ¬ (bt L (qd L i (i + 1) []).2.1).toNat = 10 := h10
          simp [st, Rs.next, Rs.behindQuote, h10', h44, h13, h34, Rs.gone, Rs.fail, Bad]
    · have hv : cel L i = ([], 0, 1, i) := by rw [cel, if_pos ⟨h, hq⟩]; rw [h0]; simp
      exact .inr (.inl ⟨hv, h, t', h1⟩)
    · have hc : (qd L i (i + 1) []).2.2.1 ≠ 0 := by omega
      have hv : cel L i = qd L i (i + 1) [] := by rw [cel, if_pos ⟨h, hq⟩]; exact if_pos (.inl hc)
      rw [hv]
      refine .inr (.inr ⟨?_, h1, h2⟩)
      omega
  · have e1 : i < L.length → feed L (st L 2 i o e rw wd [] cs td) i = feed L (st L 3 i o e rw wd (sub L i i) cs td) i := by
      intro hlt
      have hq' : ¬ (bt L i).toNat = 34 := fun hq => h ⟨hlt, hq⟩
      rw [feed_st L _ _ _ _ _ _ _ _ _ hlt hL, feed_st L _ _ _ _ _ _ _ _ _ hlt hL, sub_nil]
      simp [st, Rs.next, Rs.beginCell, hq']
    rcases Nat.lt_or_ge i L.length with hlt | hge
    · rw [e1 hlt]
      rcases ql_feed L hL i o e rw wd cs td _ i (Nat.le_refl _) (Nat.le_refl _) (by omega) hi with ⟨h0, h1, h2, h3, h4, h5⟩ | ⟨h0, h1, h2⟩
      · have hv : cel L i = (sub L i (ql L i i).1, (ql L i i).1, 0, 0) := by rw [cel, if_neg h]; exact if_pos h0
        rw [hv, h5]
        refine .inl ⟨rfl, h1, h2, by rw [sub_len _ _ _ h2]; exact h4, fun h6 => ?_, fun h6 => ⟨h3 h6, o, 3, rfl, .inr (.inl rfl)⟩⟩
        refine ⟨o, 3, ?_, .inr (.inl rfl)⟩
        have h6' : (ql L i i).1 = L.length := h6
        rw [h6']
        exact feed_end _ _ _ (Nat.le_refl _)
      · have hc : (ql L i i).2.1 ≠ 0 := by omega
        have hv : cel L i = ([], 0, (ql L i i).2.1, (ql L i i).2.2) := by rw [cel, if_neg h]; exact if_neg hc
        rw [hv]
        exact .inr (.inr ⟨h0, h1, h2⟩)
    · have he : i = L.length := by omega
      subst he
      have hq : ql L L.length L.length = (L.length, 0, 0) := by rw [ql_eq]; simp
      have hv : cel L L.length = ([], L.length, 0, 0) := by rw [cel, if_neg h]; simp [hq, sub_nil]
      rw [hv]
      exact .inl ⟨rfl, Nat.le_refl _, Nat.le_refl _, by simp, fun _ => ⟨o, 2, feed_end _ _ _ (Nat.le_refl _), .inl rfl⟩, fun h => absurd h (Nat.lt_irrefl _)⟩

/-- behind a cell: the comma, the CR -/
theorem comma_many (L : List UInt8) (hL : L.length ≤ 262144) (m i : Nat) (hi : i < L.length) (hm : m = 2 ∨ m = 3 ∨ m = 5) (o e : Nat × Nat) (rw wd : Nat) (cur : List UInt8) (cs : List (List UInt8)) (td : List (List (List UInt8))) (h : ch L i = 44) (hl : cs.length + 1 = 64) :
    Bad (feed L (st L m i o e rw wd cur cs td) i) 6 (plc L i) td := by
  have h' : (bt L i).toNat = 44 := h
  rw [feed_st L _ _ _ _ _ _ _ _ _ hi hL]
  refine feed_bad _ _ _ _ _ _ ?_ (by simp)
  rcases hm with rfl | rfl | rfl <;> simp [st, Rs.next, Rs.beginCell, Rs.plain, Rs.behindQuote, Rs.endCell, Rs.cel, hl, h', Rs.gone, Rs.fail, Bad]
theorem cr_feed (L : List UInt8) (hL : L.length ≤ 262144) (m i : Nat) (hi : i < L.length) (hm : m = 2 ∨ m = 3 ∨ m = 5) (o e : Nat × Nat) (rw wd : Nat) (cur : List UInt8) (cs : List (List UInt8)) (td : List (List (List UInt8))) (h : ch L i = 13) :
    feed L (st L m i o e rw wd cur cs td) i = feed L (st L 6 (i + 1) o (plc L i) rw wd [] (cs ++ [cur]) td) (i + 1) := by
  have h' : (bt L i).toNat = 13 := h
  rw [feed_st L _ _ _ _ _ _ _ _ _ hi hL]
  rcases hm with rfl | rfl | rfl <;> simp [st, Rs.next, Rs.beginCell, Rs.plain, Rs.behindQuote, Rs.endCell, Rs.cel, h', Rs.gone, plc_succ]

theorem row_feed (L : List UInt8) (hL : L.length ≤ 262144) (e : Nat × Nat) (rw wd : Nat) (td : List (List (List UInt8))) :
    ∀ (n i : Nat) (o : Nat × Nat) (cs : List (List UInt8)), L.length - i < n → i ≤ L.length →
      ((rowD L n i cs).2.2.1 = 0 ∧ i ≤ (rowD L n i cs).2.1 ∧ (rowD L n i cs).2.1 ≤ L.length
        ∧ ((rowD L n i cs).2.1 = L.length → ∃ o' m t cs', feed L (st L 2 i o e rw wd [] cs td) i = st L m L.length o' e rw wd t cs' td ∧ (m = 2 ∨ m = 3 ∨ m = 5) ∧ (rowD L n i cs).1 = cs' ++ [t])
        ∧ ((rowD L n i cs).2.1 < L.length → ch L (rowD L n i cs).2.1 = 13 ∧ ∃ o', feed L (st L 2 i o e rw wd [] cs td) i = feed L (st L 6 ((rowD L n i cs).2.1 + 1) o' (plc L (rowD L n i cs).2.1) rw wd [] (rowD L n i cs).1 td) ((rowD L n i cs).2.1 + 1)))
      ∨ ((rowD L n i cs).2.2.1 = 1 ∧ (rowD L n i cs).2.2.2 < L.length ∧ ∃ t' cs', feed L (st L 2 i o e rw wd [] cs td) i = st L 4 L.length (plc L (rowD L n i cs).2.2.2) e rw wd t' cs' td)
      ∨ (((rowD L n i cs).2.2.1 = 2 ∨ (rowD L n i cs).2.2.1 = 4 ∨ (rowD L n i cs).2.2.1 = 5 ∨ (rowD L n i cs).2.2.1 = 6 ∨ ((rowD L n i cs).2.2.1 = 3 ∧ ch L (rowD L n i cs).2.2.2 = 10)) ∧ (rowD L n i cs).2.2.2 < L.length ∧ Bad (feed L (st L 2 i o e rw wd [] cs td) i) (rowD L n i cs).2.2.1 (plc L (rowD L n i cs).2.2.2) td) := by
  intro n
  induction n with
  | zero => intro i o cs h; omega
  | succ n ih =>
    intro i o cs hn hi
    rcases cel_feed L hL i hi o e rw wd cs td with ⟨h0, h1, h2, h3, h4, h5⟩ | ⟨h0, h1, t', h2⟩ | ⟨h0, h1, h2⟩
    · by_cases hc : (cel L i).2.1 < L.length ∧ ch L (cel L i).2.1 = 44
      · obtain ⟨_, o', m, h6, hm⟩ := h5 hc.1
        rw [h6]
        by_cases hl : cs.length + 1 = 64
        · have hv : rowD L (n + 1) i cs = ([], 0, 6, (cel L i).2.1) := by rw [rowD]; simp [h0, hc, hl]
          rw [hv]
          exact .inr (.inr ⟨.inr (.inr (.inr (.inl rfl))), hc.1, comma_many L hL m _ hc.1 hm o' e rw wd _ cs td hc.2 hl⟩)
        · have hv : rowD L (n + 1) i cs = rowD L n ((cel L i).2.1 + 1) (cs ++ [(cel L i).1]) := by rw [rowD]; simp [h0, hc, hl]
          rw [hv]
          have e2 : feed L (st L m (cel L i).2.1 o' e rw wd (cel L i).1 cs td) (cel L i).2.1 = feed L (st L 2 ((cel L i).2.1 + 1) o' e rw wd [] (cs ++ [(cel L i).1]) td) ((cel L i).2.1 + 1) := by
            have h' : (bt L (cel L i).2.1).toNat = 44 := hc.2
            rw [feed_st L _ _ _ _ _ _ _ _ _ hc.1 hL]
            rcases hm with rfl | rfl | rfl <;> simp [st, Rs.next, Rs.beginCell, Rs.plain, Rs.behindQuote, Rs.endCell, Rs.cel, hl, h', Rs.gone, plc_succ]
          rw [e2]
          have hlt := hc.1
          have b1 : L.length - ((cel L i).2.1 + 1) < n := by clear h4 h5; omega
          have := ih ((cel L i).2.1 + 1) o' (cs ++ [(cel L i).1]) b1 hlt
          rcases this with ⟨a, b, c⟩ | h' | h'
          · exact .inl ⟨a, by omega, c⟩
          · exact .inr (.inl h')
          · exact .inr (.inr h')
      · have hv : rowD L (n + 1) i cs = (cs ++ [(cel L i).1], (cel L i).2.1, 0, 0) := by rw [rowD]; simp [h0, hc]
        rw [hv]
        refine .inl ⟨rfl, h1, h2, fun h6 => ?_, fun h6 => ?_⟩
        · obtain ⟨o', m, h7, hm⟩ := h4 h6
          exact ⟨o', m, _, _, h7, hm, rfl⟩
        · obtain ⟨h8, o', m, h7, hm⟩ := h5 h6
          have h13 : ch L (cel L i).2.1 = 13 := h8.resolve_left (fun h => hc ⟨h6, h⟩)
          refine ⟨h13, o', ?_⟩
          rw [h7]
          exact cr_feed L hL m _ h6 hm o' e rw wd _ cs td h13
    · have hv : rowD L (n + 1) i cs = ([], 0, 1, i) := by rw [rowD]; simp [h0]
      rw [hv]
      exact .inr (.inl ⟨rfl, h1, t', cs, h2⟩)
    · have hc : (cel L i).2.2.1 ≠ 0 := by omega
      have hv : rowD L (n + 1) i cs = ([], 0, (cel L i).2.2.1, (cel L i).2.2.2) := by rw [rowD]; simp [hc]
      rw [hv]
      refine .inr (.inr ⟨?_, h1, h2⟩)
      rcases h0 with h0 | h0 | h0 | h0
      · exact .inl h0
      · exact .inr (.inl h0)
      · exact .inr (.inr (.inl h0))
      · exact .inr (.inr (.inr (.inr h0)))

/-- a row's beginning is a cell's -/
theorem begin_feed (L : List UInt8) (hL : L.length ≤ 262144) (i : Nat) (hi : i < L.length) (o e : Nat × Nat) (rw wd : Nat) (td : List (List (List UInt8))) (h : ¬ rw = 4096) :
    feed L (st L 1 i o e rw wd [] [] td) i = feed L (st L 2 i o e rw wd [] [] td) i := by
  rw [feed_st L _ _ _ _ _ _ _ _ _ hi hL, feed_st L _ _ _ _ _ _ _ _ _ hi hL]
  simp [st, Rs.next, Rs.beginRow, Rs.beginCell, h]

/-- what is read of a text, whole or not -/
def Reads2 (L : List UInt8) (R : Rs) (q : List (List (List UInt8)) × Nat × Nat × Nat) : Prop :=
  q.2.1 ≤ q.1.length ∧ q.2.2.2 ≤ L.length ∧
  ((shw L q.2.2.1 q.2.2.2 = true ∧ Bad R q.2.2.1 (plc L q.2.2.2) (q.1.take q.2.1) ∧ q.2.2.1 ≠ 0 ∧ q.2.2.1 ≤ 8)
   ∨ (shw L q.2.2.1 q.2.2.2 = false ∧ R.er = 0 ∧ R.td = q.1.take q.2.1 ∧ R.sz = L.length ∧ R.hp = plc L L.length ∧ ((q.2.2.1 = 0 ∧ (R.next none).er = 0 ∧ (R.next none).td = q.1) ∨ (q.2.2.1 ≠ 0 ∧ q.2.2.1 ≤ 8 ∧ Bad (R.next none) q.2.2.1 (plc L q.2.2.2) (q.1.take q.2.1)))))

theorem read_feed (L : List UInt8) (hL : L.length ≤ 262144) :
    ∀ (n i : Nat) (o e : Nat × Nat) (wd : Nat) (acc : List (List (List UInt8))), L.length - i < n → i ≤ L.length → (0 < acc.length → wd = (acc.headD []).length) →
      Reads2 L (feed L (st L 1 i o e acc.length wd [] [] acc) i) (rdD L n i acc) := by
  intro n
  induction n with
  | zero => intro i o e wd acc h; omega
  | succ n ih =>
    intro i o e wd acc hn hi hw
    by_cases h : i < L.length
    · by_cases hr : acc.length = 4096
      · have hv : rdD L (n + 1) i acc = (acc, acc.length, 7, i) := by rw [rdD]; simp [h, hr]
        rw [hv]
        refine ⟨Nat.le_refl _, hi, .inl ⟨by simp [shw], ?_, by simp, by simp⟩⟩
        rw [feed_st L _ _ _ _ _ _ _ _ _ h hL]
        refine feed_bad _ _ _ _ _ _ ?_ (by simp)
        simp [st, Rs.next, Rs.beginRow, hr, Rs.gone, Rs.fail, Bad]
        rw [← hr, List.take_length]
      · rw [begin_feed L hL i h o e acc.length wd acc hr]
        rcases row_feed L hL e acc.length wd acc (L.length + 1) i o [] (by omega) hi with ⟨h0, h1, h2, h3, h4⟩ | ⟨h0, h1, t', cs', h2⟩ | ⟨h0, h1, h2⟩
        · by_cases hc : (rowD L (L.length + 1) i []).2.1 < L.length ∧ ((rowD L (L.length + 1) i []).2.1 + 1 = L.length ∨ ch L ((rowD L (L.length + 1) i []).2.1 + 1) ≠ 10)
          · have hv : rdD L (n + 1) i acc = (acc, acc.length, 3, (rowD L (L.length + 1) i []).2.1) := by rw [rdD]; simp only [h, hr, h0, hc, if_true, if_false, ne_eq, not_true_eq_false, and_self]
            rw [hv]
            obtain ⟨h13, o', h5⟩ := h4 hc.1
            rw [h5]
            refine ⟨Nat.le_refl _, h2, ?_⟩
            rcases Nat.lt_or_ge ((rowD L (L.length + 1) i []).2.1 + 1) L.length with hlt | hge
            · have hne : ¬ ch L ((rowD L (L.length + 1) i []).2.1 + 1) = 10 := hc.2.resolve_left (by omega)
              have hne' : ¬ (bt L ((rowD L (L.length + 1) i []).2.1 + 1)).toNat = 10 := hne
              refine .inl ⟨by simp [shw, hlt], ?_, by simp, by simp⟩
              rw [feed_st L _ _ _ _ _ _ _ _ _ hlt hL]
              refine feed_bad _ _ _ _ _ _ ?_ (by simp)
              simp [st, Rs.next, Rs.behindReturn, hne', Rs.gone, Rs.fail, Bad]
            · have he : (rowD L (L.length + 1) i []).2.1 + 1 = L.length := by omega
              refine .inr ⟨?_, ?_⟩
              · simp only [shw, h13]
                simp
                omega
              · rw [feed_end L _ _ hge, he]
                refine ⟨rfl, by simp [st], rfl, rfl, .inr ⟨by simp, by simp, ?_⟩⟩
                simp [st, Rs.next, Rs.behindReturn, Rs.fail, Bad]
          · by_cases hg : 0 < acc.length ∧ (rowD L (L.length + 1) i []).1.length ≠ (acc.headD []).length
            · have hv : rdD L (n + 1) i acc = (acc, acc.length, 8, (rowD L (L.length + 1) i []).2.1) := by rw [rdD]; simp only [h, hr, h0, hc, hg, if_true, if_false, ne_eq, not_true_eq_false, not_false_eq_true, and_self]
              rw [hv]
              have hw' := hw hg.1
              refine ⟨Nat.le_refl _, h2, ?_⟩
              rcases Nat.lt_or_ge (rowD L (L.length + 1) i []).2.1 L.length with hlt | hge
              · obtain ⟨h13, o', h5⟩ := h4 hlt
                rw [h5]
                have hc' : ¬ ((rowD L (L.length + 1) i []).2.1 + 1 = L.length ∨ ch L ((rowD L (L.length + 1) i []).2.1 + 1) ≠ 10) := fun h' => hc ⟨hlt, h'⟩
                have hlt' : (rowD L (L.length + 1) i []).2.1 + 1 < L.length := by
                  have := (not_or.1 hc').1
                  omega
                have h10 : (bt L ((rowD L (L.length + 1) i []).2.1 + 1)).toNat = 10 := Decidable.not_not.1 (not_or.1 hc').2
                refine .inl ⟨by simp [shw, hlt], ?_, by simp, by simp⟩
                rw [feed_st L _ _ _ _ _ _ _ _ _ hlt' hL]
                refine feed_bad _ _ _ _ _ _ ?_ (by simp)
                have hg2 : 0 < acc.length ∧ (rowD L (L.length + 1) i []).1.length ≠ wd := ⟨hg.1, by rw [hw']; exact hg.2⟩
                simp [st, Rs.next, Rs.behindReturn, h10, Rs.endRow, hg2, Rs.gone, Rs.fail, Bad]
              · have he : (rowD L (L.length + 1) i []).2.1 = L.length := by omega
                obtain ⟨o', m, t, cs', h5, hm, h6⟩ := h3 he
                refine .inr ⟨?_, ?_⟩
                · simp only [shw]
                  simp
                  omega
                · rw [h5]
                  refine ⟨rfl, by simp [st], rfl, rfl, .inr ⟨by simp, by simp, ?_⟩⟩
                  have hg2 : 0 < acc.length ∧ cs'.length + 1 ≠ wd := ⟨hg.1, by rw [hw']; have := hg.2; rw [h6] at this; simpa using this⟩
                  rcases hm with rfl | rfl | rfl <;> simp [st, Rs.next, Rs.beginCell, Rs.plain, Rs.behindQuote, Rs.endCell, Rs.cel, Rs.endRow, hg2, Rs.fail, Bad, he]
            · have hrow : ∀ cs : List (List UInt8), cs = (rowD L (L.length + 1) i []).1 → ¬ (0 < acc.length ∧ cs.length ≠ wd) := by
                rintro cs rfl ⟨ha, hb⟩
                exact hg ⟨ha, by rw [← hw ha]; exact hb⟩
              by_cases he : (rowD L (L.length + 1) i []).2.1 = L.length
              · have hv : rdD L (n + 1) i acc = (acc ++ [(rowD L (L.length + 1) i []).1], acc.length, 0, 0) := by
                  rw [rdD]
                  simp only [h, hr, h0, hc, hg, he, if_true, if_false, ne_eq, not_true_eq_false, and_self, false_and, Nat.lt_irrefl]
                rw [hv]
                obtain ⟨o', m, t, cs', h5, hm, h6⟩ := h3 he
                refine ⟨by simp, by simp, .inr ⟨by simp [shw], ?_⟩⟩
                rw [h5]
                refine ⟨rfl, by simp [st], rfl, rfl, .inl ⟨rfl, ?_⟩⟩
                have hg2 := hrow (cs' ++ [t]) h6.symm
                simp only [List.length_append, List.length_cons, List.length_nil] at hg2
                rw [h6]
                rcases hm with rfl | rfl | rfl <;> simp [st, Rs.next, Rs.beginCell, Rs.plain, Rs.behindQuote, Rs.endCell, Rs.cel, Rs.endRow, hg2]
              · have hlt : (rowD L (L.length + 1) i []).2.1 < L.length := by omega
                have hv : rdD L (n + 1) i acc = rdD L n ((rowD L (L.length + 1) i []).2.1 + 2) (acc ++ [(rowD L (L.length + 1) i []).1]) := by
                  rw [rdD]
                  simp only [h, hr, h0, hc, hg, he, if_true, if_false, ne_eq, not_true_eq_false, and_self, false_and, Nat.lt_irrefl]
                rw [hv]
                obtain ⟨h13, o', h5⟩ := h4 hlt
                rw [h5]
                have hc' : ¬ ((rowD L (L.length + 1) i []).2.1 + 1 = L.length ∨ ch L ((rowD L (L.length + 1) i []).2.1 + 1) ≠ 10) := fun h' => hc ⟨hlt, h'⟩
                have hlt' : (rowD L (L.length + 1) i []).2.1 + 1 < L.length := by
                  have := (not_or.1 hc').1
                  omega
                have h10 : (bt L ((rowD L (L.length + 1) i []).2.1 + 1)).toNat = 10 := Decidable.not_not.1 (not_or.1 hc').2
                have hg2 := hrow _ rfl
                have e2 : feed L (st L 6 ((rowD L (L.length + 1) i []).2.1 + 1) o' (plc L (rowD L (L.length + 1) i []).2.1) acc.length wd [] (rowD L (L.length + 1) i []).1 acc) ((rowD L (L.length + 1) i []).2.1 + 1)
                    = feed L (st L 1 ((rowD L (L.length + 1) i []).2.1 + 2) o' (plc L (rowD L (L.length + 1) i []).2.1) (acc ++ [(rowD L (L.length + 1) i []).1]).length (rowD L (L.length + 1) i []).1.length [] [] (acc ++ [(rowD L (L.length + 1) i []).1])) ((rowD L (L.length + 1) i []).2.1 + 2) := by
                  rw [feed_st L _ _ _ _ _ _ _ _ _ hlt' hL]
                  congr 1
                  simp [st, Rs.next, Rs.behindReturn, h10, Rs.endRow, hg2, Rs.gone, plc_succ]
                rw [e2]
                have b1 : L.length - ((rowD L (L.length + 1) i []).2.1 + 2) < n := by clear h3 h4 h5 e2; omega
                refine ih _ _ _ _ _ b1 hlt' (fun _ => ?_)
                cases hacc : acc with
                | nil => simp
                | cons a ac =>
                  have hpos : 0 < acc.length := by rw [hacc]; simp
                  have hw' := hw hpos
                  have : (rowD L (L.length + 1) i []).1.length = wd := Decidable.not_not.1 (fun h' => hg2 ⟨hpos, h'⟩)
                  rw [this, hw', hacc]
                  simp
        · have hv : rdD L (n + 1) i acc = (acc, acc.length, 1, (rowD L (L.length + 1) i []).2.2.2) := by
            rw [rdD]
            simp [h, hr, h0]
          rw [hv, h2]
          refine ⟨Nat.le_refl _, Nat.le_of_lt h1, .inr ⟨by simp [shw], rfl, by simp [st], rfl, rfl, .inr ⟨by simp, by simp, ?_⟩⟩⟩
          simp [st, Rs.next, Rs.quoted, Rs.fail, Bad]
        · have hc : (rowD L (L.length + 1) i []).2.2.1 ≠ 0 := by omega
          have hv : rdD L (n + 1) i acc = (acc, acc.length, (rowD L (L.length + 1) i []).2.2.1, (rowD L (L.length + 1) i []).2.2.2) := by
            rw [rdD]
            simp [h, hr, hc]
          rw [hv]
          refine ⟨Nat.le_refl _, Nat.le_of_lt h1, .inl ⟨?_, by simpa using h2, hc, by simp only; omega⟩⟩
          simp only [shw]
          rcases h0 with h0 | h0 | h0 | h0 | ⟨h0, h10⟩ <;> rw [h0] <;> simp
          exact .inl h10
    · have he : i = L.length := by omega
      subst he
      have hv : rdD L (n + 1) L.length acc = (acc, acc.length, 0, 0) := by rw [rdD]; simp
      rw [hv, feed_end _ _ _ (Nat.le_refl _)]
      refine ⟨Nat.le_refl _, Nat.zero_le _, .inr ⟨by simp [shw], rfl, by simp [st], rfl, rfl, .inl ⟨rfl, ?_⟩⟩⟩
      simp [st, Rs.next, Rs.beginRow]
end Go.Proofs.YtpgpeafmlijfkaaGreatDoor
