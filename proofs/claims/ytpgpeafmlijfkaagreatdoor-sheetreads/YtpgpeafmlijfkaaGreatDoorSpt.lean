/-
  Sheets: rows as they are printed, and what is read of them.
-/
import Derived.Test.YtpgpeafmlijfkaaGreatDoorSg1
namespace Go.Proofs.YtpgpeafmlijfkaaGreatDoor
set_option maxRecDepth 100000
set_option linter.unusedVariables false
set_option linter.unusedSimpArgs false

/-- must a cell with this byte be quoted? -/
def nqB (c : Nat) : Bool := c == 44 || c == 34 || c == 13 || c == 10 || c == 9
/-- a cell as it is printed -/
def pcl (T : List UInt8) : List UInt8 := if T.any (fun c => nqB c.toNat) = true then 34 :: (dbl T ++ [34]) else T
/-- cells as they are printed -/
def pcs : List (List UInt8) → List UInt8
  | [] => []
  | T :: r => pcl T ++ r.flatMap (fun U => 44 :: pcl U)
def prw (cs : List (List UInt8)) : List UInt8 := pcs cs ++ [13, 10]
/-- rows as they are printed -/
def prt (R : List (List (List UInt8))) : List UInt8 := R.flatMap prw
theorem pcs_snoc (cs : List (List UInt8)) (T : List UInt8) (h : cs ≠ []) : pcs (cs ++ [T]) = pcs cs ++ 44 :: pcl T := by
  cases cs with
  | nil => exact absurd rfl h
  | cons U r => simp [pcs, List.flatMap_append]
theorem prt_snoc (R : List (List (List UInt8))) (cs : List (List UInt8)) : prt (R ++ [cs]) = prt R ++ prw cs := by simp [prt, List.flatMap_append]
/-- a cell that may be -/
def okC (T : List UInt8) : Prop := T.length ≤ 4096 ∧ ∀ c ∈ T, mayB c.toNat = true
/-- a row that may be, among rows of so many cells -/
def okW (n : Nat) (cs : List (List UInt8)) : Prop := 1 ≤ cs.length ∧ cs.length ≤ 64 ∧ cs.length = n ∧ ∀ T ∈ cs, okC T
def okR (R : List (List (List UInt8))) : Prop := R.length ≤ 4096 ∧ ∀ cs ∈ R, okW (R.headD []).length cs

/-- where the Reader stands, places apart -/
structure Stt (s : Rs) (md sz rw wd : Nat) (cur : List UInt8) (cs : List (List UInt8)) (td : List (List (List UInt8))) : Prop where
  md : s.md = md
  er : s.er = 0
  sz : s.sz = sz
  rw : s.rw = rw
  wd : s.wd = wd
  cur : s.cur = cur
  cs : s.cs = cs
  td : s.td = td

theorem Stt.one {s : Rs} {md sz rw wd : Nat} {cur : List UInt8} {cs : List (List UInt8)} {td : List (List (List UInt8))} (h : Stt s md sz rw wd cur cs td) (c : UInt8) (hz : sz + 1 ≤ 262144) : runL s [c] = (s.next (some c)).gone c := by
  rw [runL, if_pos h.er, runL, take_ok s c (by rw [h.sz]; omega)]

theorem dbl_go (T : List UInt8) : ∀ (s : Rs) (n rw wd : Nat) (cur : List UInt8) (cs : List (List UInt8)) (td : List (List (List UInt8))), Stt s 4 n rw wd cur cs td → (∀ c ∈ T, mayB c.toNat = true) → cur.length + T.length ≤ 4096 → n + (dbl T).length ≤ 262144 → Stt (runL s (dbl T)) 4 (n + (dbl T).length) rw wd (cur ++ T) cs td := by
  induction T with
  | nil =>
    intro s n rw wd cur cs td h _ _ _
    simpa [dbl, runL] using h
  | cons c t ih =>
    intro s n rw wd cur cs td h hm hl hz
    have hc : mayB c.toNat = true := hm c (by simp)
    have hl4 : ¬ s.cur.length = 4096 := by rw [h.cur]; simp at hl; omega
    by_cases hq : c.toNat = 34
    · have hd : dbl (c :: t) = [c] ++ ([c] ++ dbl t) := by rw [dbl, if_pos hq]; rfl
      rw [hd, runL_app, runL_app]
      rw [hd] at hz
      simp only [List.length_append, List.length_cons, List.length_nil] at hz hl
      have h1 : Stt (runL s [c]) 5 (n + 1) rw wd cur cs td := by
        rw [h.one c (by omega)]
        refine ⟨?_, ?_, ?_, ?_, ?_, ?_, ?_, ?_⟩ <;> simp [Rs.next, h.md, Rs.quoted, hq, Rs.gone, h.er, h.sz, h.rw, h.wd, h.cur, h.cs, h.td]
      have hl5 : ¬ (runL s [c]).cur.length = 4096 := by rw [h1.cur]; omega
      have h2 : Stt (runL (runL s [c]) [c]) 4 (n + 2) rw wd (cur ++ [c]) cs td := by
        rw [h1.one c (by omega)]
        generalize runL s [c] = s1 at *
        refine ⟨?_, ?_, ?_, ?_, ?_, ?_, ?_, ?_⟩ <;> simp [Rs.next, h1.md, Rs.behindQuote, hq, Rs.add, hl5, Rs.gone, h1.er, h1.sz, h1.rw, h1.wd, h1.cur, h1.cs, h1.td]
        all_goals (try (rw [if_neg (by omega)]; try simp))
      have := ih _ _ _ _ _ _ _ h2 (fun d hd => hm d (by simp [hd])) (by simp; omega) (by omega)
      have e1 : n + ([c] ++ ([c] ++ dbl t)).length = n + 2 + (dbl t).length := by simp; omega
      rw [e1]
      simpa using this
    · have hd : dbl (c :: t) = [c] ++ dbl t := by rw [dbl, if_neg hq]; rfl
      rw [hd, runL_app]
      rw [hd] at hz
      simp only [List.length_append, List.length_cons, List.length_nil] at hz hl
      have h1 : Stt (runL s [c]) 4 (n + 1) rw wd (cur ++ [c]) cs td := by
        rw [h.one c (by omega)]
        refine ⟨?_, ?_, ?_, ?_, ?_, ?_, ?_, ?_⟩ <;> simp [Rs.next, h.md, Rs.quoted, hq, hc, Rs.add, hl4, Rs.gone, h.er, h.sz, h.rw, h.wd, h.cur, h.cs, h.td]
        all_goals (try (rw [if_neg (by rw [← h.cur]; exact hl4)]; try simp [h.md, h.er, h.sz, h.rw, h.wd, h.cur, h.cs, h.td]))
      have := ih _ _ _ _ _ _ _ h1 (fun d hd => hm d (by simp [hd])) (by simp; omega) (by omega)
      have e1 : n + ([c] ++ dbl t).length = n + 1 + (dbl t).length := by simp; omega
      rw [e1]
      simpa using this

theorem nq_not {c : Nat} (h : nqB c = false) : c ≠ 44 ∧ c ≠ 34 ∧ c ≠ 13 ∧ c ≠ 10 ∧ c ≠ 9 := by
  unfold nqB at h
  simp at h
  omega
theorem plain_go (T : List UInt8) : ∀ (s : Rs) (n rw wd : Nat) (cur : List UInt8) (cs : List (List UInt8)) (td : List (List (List UInt8))), Stt s 3 n rw wd cur cs td → (∀ c ∈ T, mayB c.toNat = true ∧ nqB c.toNat = false) → cur.length + T.length ≤ 4096 → n + T.length ≤ 262144 → Stt (runL s T) 3 (n + T.length) rw wd (cur ++ T) cs td := by
  induction T with
  | nil =>
    intro s n rw wd cur cs td h _ _ _
    simpa [runL] using h
  | cons c t ih =>
    intro s n rw wd cur cs td h hm hl hz
    obtain ⟨hc, hn⟩ := hm c (by simp)
    obtain ⟨n1, n2, n3, n4, n5⟩ := nq_not hn
    have hl4 : ¬ s.cur.length = 4096 := by rw [h.cur]; simp at hl; omega
    simp only [List.length_cons] at hz hl
    have hd : c :: t = [c] ++ t := rfl
    rw [hd, runL_app]
    have h1 : Stt (runL s [c]) 3 (n + 1) rw wd (cur ++ [c]) cs td := by
      rw [h.one c (by omega)]
      have e : s.next (some c) = s.add c := by simp [Rs.next, h.md, Rs.plain, n1, n2, n3, n4, n5, hc]
      rw [e]
      unfold Rs.add
      rw [if_neg hl4]
      exact ⟨h.md, h.er, by simp [Rs.gone, h.sz], h.rw, h.wd, by simp [Rs.gone, h.cur], h.cs, h.td⟩
    have := ih _ _ _ _ _ _ _ h1 (fun d hd => hm d (by simp [hd])) (by simp; omega) (by omega)
    have e1 : n + ([c] ++ t).length = n + 1 + t.length := by simp; omega
    rw [e1]
    simpa using this

/-- a cell may begin -/
def Bgn (m rw : Nat) : Prop := m = 2 ∨ (m = 1 ∧ rw ≠ 4096)
theorem cell_go (T : List UInt8) (s : Rs) (m n rw wd : Nat) (cs : List (List UInt8)) (td : List (List (List UInt8))) (h : Stt s m n rw wd [] cs td) (hm : Bgn m rw) (hT : okC T) (hz : n + (pcl T).length ≤ 262144) :
    ∃ m', (m' = 3 ∨ m' = 5 ∨ Bgn m' rw) ∧ Stt (runL s (pcl T)) m' (n + (pcl T).length) rw wd T cs td := by
  unfold pcl at hz ⊢
  by_cases hq : T.any (fun c => nqB c.toNat) = true
  · rw [if_pos hq] at hz ⊢
    have hd : (34 : UInt8) :: (dbl T ++ [34]) = [34] ++ (dbl T ++ [34]) := rfl
    rw [hd, runL_app, runL_app]
    rw [hd] at hz
    simp only [List.length_append, List.length_cons, List.length_nil] at hz
    have h1 : Stt (runL s [34]) 4 (n + 1) rw wd [] cs td := by
      rw [h.one 34 (by omega)]
      rcases hm with rfl | ⟨rfl, h4⟩
      · refine ⟨?_, ?_, ?_, ?_, ?_, ?_, ?_, ?_⟩ <;> simp [Rs.next, h.md, Rs.beginCell, Rs.gone, h.er, h.sz, h.rw, h.wd, h.cur, h.cs, h.td]
      · refine ⟨?_, ?_, ?_, ?_, ?_, ?_, ?_, ?_⟩ <;> simp [Rs.next, h.md, Rs.beginRow, h4, Rs.beginCell, Rs.gone, h.er, h.sz, h.rw, h.wd, h.cur, h.cs, h.td]
    have h2 := dbl_go T _ _ _ _ _ _ _ h1 hT.2 (by simpa using hT.1) (by omega)
    refine ⟨5, .inr (.inl rfl), ?_⟩
    rw [h2.one 34 (by omega)]
    rw [List.nil_append] at h2
    have e1 : n + ([34] ++ (dbl T ++ [34])).length = n + 1 + (dbl T).length + 1 := by simp; omega
    rw [e1]
    generalize runL (runL s [34]) (dbl T) = s2 at *
    refine ⟨?_, ?_, ?_, ?_, ?_, ?_, ?_, ?_⟩ <;> simp [Rs.next, h2.md, Rs.quoted, Rs.gone, h2.er, h2.sz, h2.rw, h2.wd, h2.cur, h2.cs, h2.td]
  · rw [if_neg hq] at hz ⊢
    have hq' : ∀ c ∈ T, nqB c.toNat = false := by
      intro c hc
      cases hb : nqB c.toNat
      · rfl
      · exact absurd (List.any_eq_true.2 ⟨c, hc, hb⟩) hq
    cases T with
    | nil => exact ⟨m, .inr (.inr hm), by simpa [runL] using h⟩
    | cons c t =>
      have hd : c :: t = [c] ++ t := rfl
      rw [hd, runL_app]
      simp only [List.length_cons] at hz
      obtain ⟨n1, n2, n3, n4, n5⟩ := nq_not (hq' c (by simp))
      have hc : mayB c.toNat = true := hT.2 c (by simp)
      have h1 : Stt (runL s [c]) 3 (n + 1) rw wd [c] cs td := by
        rw [h.one c (by omega)]
        have e : s.next (some c) = Rs.add { s with md := 3 } c := by
          rcases hm with rfl | ⟨rfl, h4⟩
          · simp [Rs.next, h.md, Rs.beginCell, Rs.plain, n1, n2, n3, n4, n5, hc]
          · simp [Rs.next, h.md, Rs.beginRow, h.rw, h4, Rs.beginCell, Rs.plain, n1, n2, n3, n4, n5, hc]
        rw [e]
        unfold Rs.add
        rw [if_neg (by simp [h.cur])]
        exact ⟨rfl, h.er, by simp [Rs.gone, h.sz], h.rw, h.wd, by simp [Rs.gone, h.cur], h.cs, h.td⟩
      have hTl := hT.1
      simp only [List.length_cons] at hTl
      have h2 := plain_go t _ _ _ _ _ _ _ h1 (fun d hd => ⟨hT.2 d (by simp [hd]), hq' d (by simp [hd])⟩) (by simp; omega) (by omega)
      refine ⟨3, .inl rfl, ?_⟩
      have e1 : n + ([c] ++ t).length = n + 1 + t.length := by simp; omega
      rw [e1]
      exact h2

theorem comma_go (T : List UInt8) (s : Rs) (m n rw wd : Nat) (cs : List (List UInt8)) (td : List (List (List UInt8))) (h : Stt s m n rw wd T cs td) (hm : m = 3 ∨ m = 5 ∨ Bgn m rw) (h64 : cs.length + 1 ≠ 64) (hz : n + 1 ≤ 262144) :
    Stt (runL s [44]) 2 (n + 1) rw wd [] (cs ++ [T]) td := by
  rw [h.one 44 hz]
  have h63 : ¬ cs.length = 63 := by omega
  rcases hm with rfl | rfl | rfl | ⟨rfl, h4⟩
  · refine ⟨?_, ?_, ?_, ?_, ?_, ?_, ?_, ?_⟩ <;> simp [Rs.next, h.md, Rs.plain, Rs.endCell, Rs.cel, Rs.gone, h63, h.er, h.sz, h.rw, h.wd, h.cur, h.cs, h.td]
  · refine ⟨?_, ?_, ?_, ?_, ?_, ?_, ?_, ?_⟩ <;> simp [Rs.next, h.md, Rs.behindQuote, Rs.endCell, Rs.cel, Rs.gone, h63, h.er, h.sz, h.rw, h.wd, h.cur, h.cs, h.td]
  · refine ⟨?_, ?_, ?_, ?_, ?_, ?_, ?_, ?_⟩ <;> simp [Rs.next, h.md, Rs.beginCell, Rs.plain, Rs.endCell, Rs.cel, Rs.gone, h63, h.er, h.sz, h.rw, h.wd, h.cur, h.cs, h.td]
  · refine ⟨?_, ?_, ?_, ?_, ?_, ?_, ?_, ?_⟩ <;> simp [Rs.next, h.md, Rs.beginRow, h4, Rs.beginCell, Rs.plain, Rs.endCell, Rs.cel, Rs.gone, h63, h.er, h.sz, h.rw, h.wd, h.cur, h.cs, h.td]
theorem cr_go (T : List UInt8) (s : Rs) (m n rw wd : Nat) (cs : List (List UInt8)) (td : List (List (List UInt8))) (h : Stt s m n rw wd T cs td) (hm : m = 3 ∨ m = 5 ∨ Bgn m rw) (hz : n + 1 ≤ 262144) :
    Stt (runL s [13]) 6 (n + 1) rw wd [] (cs ++ [T]) td := by
  rw [h.one 13 hz]
  rcases hm with rfl | rfl | rfl | ⟨rfl, h4⟩
  · refine ⟨?_, ?_, ?_, ?_, ?_, ?_, ?_, ?_⟩ <;> simp [Rs.next, h.md, Rs.plain, Rs.endCell, Rs.cel, Rs.gone, h.er, h.sz, h.rw, h.wd, h.cur, h.cs, h.td]
  · refine ⟨?_, ?_, ?_, ?_, ?_, ?_, ?_, ?_⟩ <;> simp [Rs.next, h.md, Rs.behindQuote, Rs.endCell, Rs.cel, Rs.gone, h.er, h.sz, h.rw, h.wd, h.cur, h.cs, h.td]
  · refine ⟨?_, ?_, ?_, ?_, ?_, ?_, ?_, ?_⟩ <;> simp [Rs.next, h.md, Rs.beginCell, Rs.plain, Rs.endCell, Rs.cel, Rs.gone, h.er, h.sz, h.rw, h.wd, h.cur, h.cs, h.td]
  · refine ⟨?_, ?_, ?_, ?_, ?_, ?_, ?_, ?_⟩ <;> simp [Rs.next, h.md, Rs.beginRow, h4, Rs.beginCell, Rs.plain, Rs.endCell, Rs.cel, Rs.gone, h.er, h.sz, h.rw, h.wd, h.cur, h.cs, h.td]
theorem lf_go (s : Rs) (n rw wd : Nat) (cs : List (List UInt8)) (td : List (List (List UInt8))) (h : Stt s 6 n rw wd [] cs td) (hw : 0 < rw → cs.length = wd) (hz : n + 1 ≤ 262144) :
    Stt (runL s [10]) 1 (n + 1) (rw + 1) cs.length [] [] (td ++ [cs]) := by
  rw [h.one 10 hz]
  have hn : ¬ (0 < s.rw ∧ s.cs.length ≠ s.wd) := by rw [h.rw, h.cs, h.wd]; exact fun k => k.2 (hw k.1)
  have e : s.next (some 10) = s.endRow s.ep := by simp [Rs.next, h.md, Rs.behindReturn]
  rw [e]
  unfold Rs.endRow
  rw [if_neg hn]
  exact ⟨rfl, h.er, by simp [Rs.gone, h.sz], by simp [Rs.gone, h.rw], by simp [Rs.gone, h.cs], rfl, rfl, by simp [Rs.gone, h.td, h.cs]⟩

theorem rest_go (r : List (List UInt8)) : ∀ (T : List UInt8) (s : Rs) (m n rw wd : Nat) (cs : List (List UInt8)) (td : List (List (List UInt8))), Stt s m n rw wd T cs td → (m = 3 ∨ m = 5 ∨ Bgn m rw) → (∀ U ∈ r, okC U) → cs.length + 1 + r.length ≤ 64 → (0 < rw → cs.length + 1 + r.length = wd) → n + (r.flatMap (fun U => 44 :: pcl U) ++ [13, 10]).length ≤ 262144 →
    Stt (runL s (r.flatMap (fun U => 44 :: pcl U) ++ [13, 10])) 1 (n + (r.flatMap (fun U => 44 :: pcl U) ++ [13, 10]).length) (rw + 1) (cs.length + 1 + r.length) [] [] (td ++ [cs ++ T :: r]) := by
  induction r with
  | nil =>
    intro T s m n rw wd cs td h hm _ h64 hw hz
    simp only [List.flatMap_nil, List.nil_append, List.length_cons, List.length_nil] at hz ⊢
    have hd : ([13, 10] : List UInt8) = [13] ++ [10] := rfl
    rw [hd, runL_app]
    have h1 := cr_go T s m n rw wd cs td h hm (by omega)
    have h2 := lf_go _ _ _ _ _ _ h1 (by simpa using hw) (by omega)
    simpa using h2
  | cons U r ih =>
    intro T s m n rw wd cs td h hm hr h64 hw hz
    simp only [List.length_cons] at h64 hw
    have hd : ((U :: r).flatMap (fun U => 44 :: pcl U) ++ [13, 10] : List UInt8) = [44] ++ (pcl U ++ (r.flatMap (fun U => 44 :: pcl U) ++ [13, 10])) := by simp
    rw [hd, runL_app, runL_app]
    rw [hd] at hz
    rw [List.length_append, List.length_append, show ([44] : List UInt8).length = 1 from rfl] at hz
    have h1 := comma_go T s m n rw wd cs td h hm (by omega) (by omega)
    obtain ⟨m', hm', h2⟩ := cell_go U _ _ _ _ _ _ _ h1 (.inl rfl) (hr U (by simp)) (by omega)
    have h3 := ih U _ _ _ _ _ _ _ h2 hm' (fun V hV => hr V (by simp [hV])) (by simp; omega) (by intro h0; have := hw h0; simp; omega) (by omega)
    have e1 : n + ([44] ++ (pcl U ++ (r.flatMap (fun U => 44 :: pcl U) ++ [13, 10]))).length = n + 1 + (pcl U).length + (r.flatMap (fun U => 44 :: pcl U) ++ [13, 10]).length := by simp; omega
    have e2 : cs.length + 1 + (U :: r).length = (cs ++ [T]).length + 1 + r.length := by simp; omega
    have e3 : cs ++ T :: U :: r = (cs ++ [T]) ++ U :: r := by simp
    rw [e1, e2, e3]
    exact h3

theorem row_go (cs : List (List UInt8)) (s : Rs) (n rw wd : Nat) (td : List (List (List UInt8))) (h : Stt s 1 n rw wd [] [] td) (h4 : rw ≠ 4096) (k : Nat) (hc : okW k cs) (hw : 0 < rw → k = wd) (hz : n + (prw cs).length ≤ 262144) :
    Stt (runL s (prw cs)) 1 (n + (prw cs).length) (rw + 1) k [] [] (td ++ [cs]) := by
  obtain ⟨h1, h64, hk, hT⟩ := hc
  cases cs with
  | nil => simp at h1
  | cons T r =>
    have hd : prw (T :: r) = pcl T ++ (r.flatMap (fun U => 44 :: pcl U) ++ [13, 10]) := by simp [prw, pcs]
    rw [hd, runL_app]
    rw [hd] at hz
    rw [List.length_append] at hz
    simp only [List.length_cons] at h64 hk
    obtain ⟨m', hm', h2⟩ := cell_go T s 1 n rw wd [] td h (.inr ⟨rfl, h4⟩) (hT T (by simp)) (by omega)
    have h3 := rest_go r T _ _ _ _ _ _ _ h2 hm' (fun U hU => hT U (by simp [hU])) (by simp; omega) (by intro h0; have := hw h0; simp; omega) (by omega)
    have e1 : n + (pcl T ++ (r.flatMap (fun U => 44 :: pcl U) ++ [13, 10])).length = n + (pcl T).length + (r.flatMap (fun U => 44 :: pcl U) ++ [13, 10]).length := by simp; omega
    have e2 : k = ([] : List (List UInt8)).length + 1 + r.length := by simp; omega
    rw [e1, e2]
    simpa using h3
theorem rows_go (R : List (List (List UInt8))) : ∀ (s : Rs) (n rw wd : Nat) (td : List (List (List UInt8))) (k : Nat), Stt s 1 n rw wd [] [] td → rw + R.length ≤ 4096 → (∀ cs ∈ R, okW k cs) → (0 < rw → k = wd) → n + (prt R).length ≤ 262144 →
    Stt (runL s (prt R)) 1 (n + (prt R).length) (rw + R.length) (if R = [] then wd else k) [] [] (td ++ R) := by
  induction R with
  | nil =>
    intro s n rw wd td k h _ _ _ _
    simpa [prt, runL] using h
  | cons cs R ih =>
    intro s n rw wd td k h hl hR hw hz
    have hd : prt (cs :: R) = prw cs ++ prt R := by simp [prt]
    rw [hd, runL_app]
    rw [hd, List.length_append] at hz
    simp only [List.length_cons] at hl
    have h1 := row_go cs s n rw wd td h (by omega) k (hR cs (by simp)) hw (by omega)
    have h2 := ih _ _ _ _ _ k h1 (by omega) (fun d hd => hR d (by simp [hd])) (fun _ => rfl) (by omega)
    have e1 : n + (prw cs ++ prt R).length = n + (prw cs).length + (prt R).length := by simp; omega
    have e2 : rw + (cs :: R).length = rw + 1 + R.length := by simp; omega
    rw [e1, e2, if_neg (by simp)]
    have e3 : (if R = [] then k else k) = k := by split <;> rfl
    rw [e3] at h2
    simpa using h2
/-- what is printed is read -/
theorem print_read (R : List (List (List UInt8))) (h : okR R) (hz : (prt R).length ≤ 262144) : (rdA (prt R)).2.2.1 = 0 ∧ (rdA (prt R)).1 = R := by
  have hc : cut (prt R) = prt R := by unfold cut; rw [List.take_of_length_le (by omega)]
  have hf : fdP (prt R) = runL s0 (prt R) := by unfold fdP feed; rw [hc, List.drop_zero]
  have h0 : Stt s0 1 0 0 0 [] [] [] := ⟨rfl, rfl, rfl, rfl, rfl, rfl, rfl, rfl⟩
  have h1 := rows_go R s0 0 0 0 [] _ h0 (by simpa using h.1) h.2 (fun h => absurd h (by omega)) (by omega)
  rw [← hf] at h1
  have hcl : clP (fdP (prt R)) = { fdP (prt R) with td := [] } := by
    unfold clP
    rw [if_pos h1.er]
    simp [Rs.next, h1.md, Rs.beginRow]
  rcases parse_one (prt R) with ⟨p1, p2, p3, p4⟩ | ⟨p1, p2, p3, p4, p5⟩
  · refine ⟨p1, ?_⟩
    rw [← p4, hcl, h1.td]
    simp
  · rw [hcl] at p3
    exact absurd (p3.symm.trans h1.er) p1
end Go.Proofs.YtpgpeafmlijfkaaGreatDoor
