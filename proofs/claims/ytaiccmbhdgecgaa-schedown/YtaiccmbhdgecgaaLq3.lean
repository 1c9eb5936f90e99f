/-
  SchedLeast: the law's own: are, only, below, alike.
-/
import Derived.Test.YtaiccmbhdgecgaaLq2
import Derived.Deep.QuietTactic
import Derived.BigQuiet
namespace Go.Proofs.Ytaiccmbhdgecgaa
open Go.RowKit
set_option maxRecDepth 100000

def prM (a b : Int) (p : Pr) : Bool := (decide (p.1 = a) && decide (p.2 = b)) || (decide (p.1 = b) && decide (p.2 = a))
theorem arP_eq (P : List Pr) (a b : Int) : arP P a b = (!decide (a = b) && P.any (prM a b)) := rfl
set_option maxHeartbeats 2000000 in
theorem are_any (a b : Int) (vp : Value) (P : List Pr) (w : World) (hp : PL w vp P) (hPl : P.length ≤ 9223372036854775807) :
    Calls Try.prog 49 #[.int .i64 a, .int .i64 b, vp] w fun e w' => e = .returned (.bool (arP P a b)) ∧ w' = w := by
  obtain ⟨ao, cap, rfl, hc, hn0, hcell⟩ := hp
  have HC := hid hcell
  clear hcell hn0
  go_enter Try.func49, Try.ntmps49
  by_cases hab : a = b
  · subst hab
    have HF := hid (arP_irr P a)
    have hb : (a == a) = true := by simp
    go_wp2_with fail
    go_loopw [7] (fun vi wx => vi = .int .i64 0 ∧ wx = w) (fun _ _ => 0)
    case atStart => exact ⟨rfl, rfl⟩
    case round =>
      obtain ⟨rfl, rfl⟩ := hrel
      by_cases h : 0 < P.length
      · have hI : (0 : Int) < (P.length : Int) := by omega
        go_wp2
        go_ret
        rw [HF.out]
        exact ⟨rfl, rfl⟩
      · have hI : ¬ (0 : Int) < (P.length : Int) := by omega
        go_wp2
        go_ret
        rw [HF.out]
        exact ⟨rfl, rfl⟩
  · have hb : (a == b) = false := by simp [hab]
    have HAB := hid hab
    clear hab
    go_wp2_with fail
    go_loopw [7] (fun vi wx => ∃ j : Nat, j ≤ P.length ∧ vi = .int .i64 (j : Int) ∧ (P.take j).any (prM a b) = false ∧ wx = w) (fun vi _ => P.length - (intOf vi).toNat)
    case atStart => exact ⟨0, Nat.zero_le _, rfl, rfl, rfl⟩
    case round =>
      obtain ⟨j, hj, rfl, hno, rfl⟩ := hrel
      have HN := hid hno
      clear hno
      by_cases h : j < P.length
      · have hI : (j : Int) < (P.length : Int) := by omega
        obtain ⟨_, g, off, hao, p0, p1⟩ := HC.out j h
        subst hao
        have HS := hid (show prM a b P[j] = false → (P.take (j + 1)).any (prM a b) = false from fun hx => by
          rw [List.take_add_one, List.getElem?_eq_getElem h, List.any_append, HN.out, Option.toList_some, List.any_cons, hx]
          rfl)
        have HT := hid (show prM a b P[j] = true → arP P a b = true from fun hx => by
          rw [arP_eq, List.any_eq_true.2 ⟨_, List.getElem_mem h, hx⟩, decide_eq_false HAB.out]
          rfl)
        unfold prM at HS HT
        generalize P[j].1 = A at p0 HS HT
        generalize P[j].2 = B at p1 HS HT
        clear HN
        by_cases c1 : A = a ∧ B = b
        · obtain ⟨rfl, rfl⟩ := c1
          have HT2 := hid (show arP P A B = true from HT.out (by simp))
          have d1 : (A == A) = true := by simp
          have d2 : (B == B) = true := by simp
          clear HS HT
          go_wp2
          go_ret
          rw [HT2.out]
          exact ⟨rfl, rfl⟩
        by_cases c2 : A = b ∧ B = a
        · obtain ⟨rfl, rfl⟩ := c2
          have HT2 := hid (show arP P B A = true from HT.out (by simp))
          have d1 : (A == A) = true := by simp
          have d2 : (B == B) = true := by simp
          have d3 : (A == B) = false := by simpa using fun e : A = B => HAB.out e.symm
          clear HS c1 HT
          go_wp2
          go_ret
          rw [HT2.out]
          exact ⟨rfl, rfl⟩
        have HS := hid (HS.out (by
          by_cases e1 : A = a
          · by_cases e2 : B = b
            · exact (c1 ⟨e1, e2⟩).elim
            · by_cases e3 : A = b
              · exact (HAB.out (e1.symm.trans e3)).elim
              · simp [e2, e3]
          · by_cases e3 : A = b
            · by_cases e4 : B = a
              · exact (c2 ⟨e3, e4⟩).elim
              · simp [e1, e4]
            · simp [e1, e3]))
        have DD : (A = a ∧ (A == a) = true ∧ (B == b) = false ∧ (A == b) = false) ∨ ((A == a) = false ∧ (A == b) = true ∧ (B == a) = false) ∨ ((A == a) = false ∧ (A == b) = false) := by
          by_cases e1 : A = a
          · by_cases e2 : B = b
            · exact (c1 ⟨e1, e2⟩).elim
            · have e3 : A ≠ b := fun e3 => HAB.out (e1.symm.trans e3)
              exact .inl ⟨e1, by simp [e1], by simp [e2], by simp [e3]⟩
          · by_cases e3 : A = b
            · by_cases e4 : B = a
              · exact (c2 ⟨e3, e4⟩).elim
              · exact .inr (.inl ⟨by simp [e1], by simp [e3], by simp [e4]⟩)
            · exact .inr (.inr ⟨by simp [e1], by simp [e3]⟩)
        clear c1 c2 HT
        rcases DD with ⟨_, d1, d2, d3⟩ | ⟨d1, d2, d3⟩ | ⟨d1, d2⟩
        all_goals
          go_wp2
          go_roundw
          case rel => exact ⟨j + 1, by omega, by go_num, HS.out, by first | rfl | trivial⟩
          case measure => simp [intOf]; omega
      · have hI : ¬ (j : Int) < (P.length : Int) := by omega
        obtain rfl : j = P.length := by omega
        rw [List.take_length] at HN
        have HF := hid (show arP P a b = false by rw [arP_eq, HN.out, Bool.and_false])
        go_wp2
        go_ret
        rw [HF.out]
        exact ⟨rfl, rfl⟩
theorem onl_take (R : List Int) (a b : Int) (j : Nat) (h : j < R.length) : onl (R.take (j + 1)) a b = onl (R.take j) a b ++ (if R[j] = a ∨ R[j] = b then [R[j]] else []) := by
  unfold onl
  rw [List.take_add_one, List.getElem?_eq_getElem h, List.filter_append]
  congr 1
  by_cases c : R[j] = a ∨ R[j] = b
  · rw [if_pos c]
    rcases c with c | c <;> simp [c]
  · rw [if_neg c]
    simp only [not_or] at c
    simp [c.1, c.2]
theorem onl_len (R : List Int) (a b : Int) : (onl R a b).length ≤ R.length := List.length_filter_le _ _
set_option maxHeartbeats 2000000 in
theorem only_any (a b : Int) (v : Value) (R : List Int) (w : World) (hr : RI w v R) (hl : R.length * 8 ≤ 140737488355328) :
    Calls Try.prog 50 #[v, .int .i64 a, .int .i64 b] w fun e w' => (∃ v', e = .returned v' ∧ OI w' w.heap.size v' (onl R a b)) ∧ Below w.heap.size w w' := by
  obtain ⟨ao, cap, rfl, hc, hn0, hcell⟩ := hr
  have HC := hid hcell
  clear hcell hn0
  go_enter Try.func50, Try.ntmps50
  go_wp2_with fail
  go_loopw [7, 8] (fun vl vi wx => ∃ j : Nat, j ≤ R.length ∧ vi = .int .i64 (j : Int) ∧ OI wx w.heap.size vl (onl (R.take j) a b) ∧ Below w.heap.size w wx) (fun _ vi _ => R.length - (intOf vi).toNat)
  case atStart => exact ⟨0, Nat.zero_le _, rfl, OI.nil _ _, Below.refl _ _⟩
  case round =>
    obtain ⟨j, hj, rfl, ho, hB⟩ := hrel
    have HO := hid ho
    have HB := hid hB
    have hz := hB.size
    clear ho hB
    by_cases h : j < R.length
    · have hI : (j : Int) < (R.length : Int) := by omega
      obtain ⟨g, off, hao, c0⟩ := HC.out j h
      subst hao
      have c0 := below_cells HB.out _ _ c0
      have HT := hid (onl_take R a b j h)
      have hlj := onl_len (R.take j) a b
      rw [List.length_take] at hlj
      generalize R[j] = x at c0 HT
      by_cases c : x = a ∨ x = b
      · have HT := hid (HT.out.trans (by rw [if_pos c]))
        have DD : (x == a) = true ∨ ((x == a) = false ∧ (x == b) = true) := by
          by_cases e : x = a
          · exact .inl (by simp [e])
          · exact .inr ⟨by simp [e], by rcases c with c | c; exact (e c).elim; simp [c]⟩
        clear c
        rcases DD with d1 | ⟨d1, d2⟩
        all_goals
          go_wp2_with (at_builtin; refine wpList_appI rfl _ _ rfl w.heap.size _ (onl (R.take j) a b) rfl (HO.out.alloc _) _ [x] rfl (ri_one _ _) (by simp; omega) (by simp; omega) ?hnext)
          case hnext =>
            intro v2 w2 ho2 hg2
            have HO2 := hid (show OI w2 w.heap.size v2 (onl (R.take (j + 1)) a b) by rw [HT.out]; exact ho2)
            have HB2 := hid ((HB.out.alloc (by omega) _).grown hg2 (by simp; omega) HO.out.block_ge)
            clear ho2 hg2 HO HB
            go_wp2
            go_roundw
            case rel => exact ⟨j + 1, by omega, by go_num, HO2.out, HB2.out⟩
            case measure => simp [intOf]; omega
      · have HT := hid (HT.out.trans (by rw [if_neg c, List.append_nil]))
        simp only [not_or] at c
        have d1 : (x == a) = false := by simp [c.1]
        have d2 : (x == b) = false := by simp [c.2]
        clear c
        go_wp2
        go_roundw
        case rel => exact ⟨j + 1, by omega, by go_num, by rw [HT.out]; exact HO.out, HB.out⟩
        case measure => simp [intOf]; omega
    · have hI : ¬ (j : Int) < (R.length : Int) := by omega
      obtain rfl : j = R.length := by omega
      rw [List.take_length] at HO
      go_wp2
      go_ret
      exact ⟨⟨_, rfl, HO.out⟩, HB.out⟩
theorem bl_drop (X Y : List Int) : ∀ j, j ≤ X.length → j ≤ Y.length → (∀ i (h : i < X.length) (h2 : i < Y.length), i < j → X[i] = Y[i]) → bl X Y = bl (X.drop j) (Y.drop j)
  | 0, _, _, _ => rfl
  | j + 1, h1, h2, h => by
    rw [bl_drop X Y j (by omega) (by omega) (fun i a b c => h i a b (by omega)), List.drop_eq_getElem_cons (show j < X.length by omega), List.drop_eq_getElem_cons (show j < Y.length by omega)]
    rw [show bl (X[j] :: X.drop (j + 1)) (Y[j] :: Y.drop (j + 1)) = if X[j] = Y[j] then bl (X.drop (j + 1)) (Y.drop (j + 1)) else decide (X[j] < Y[j]) from rfl, if_pos (h j (by omega) (by omega) (by omega))]
set_option maxHeartbeats 2000000 in
theorem below_any (v p : Value) (X Y : List Int) (w : World) (hv : RI w v X) (hp : RI w p Y) (hl : X.length ≤ 9223372036854775807) (hl2 : Y.length ≤ 9223372036854775807) :
    Calls Try.prog 13 #[v, p] w fun e w' => e = .returned (.bool (bl X Y)) ∧ Below w.heap.size w w' := by
  obtain ⟨ao, cap, rfl, hc1, hn1, hcell1⟩ := hv
  obtain ⟨bo, cap', rfl, hc2, hn2, hcell2⟩ := hp
  have HC := hid hcell1
  have HP := hid hcell2
  clear hcell1 hcell2 hn1 hn2
  go_enter Try.func13, Try.ntmps13
  go_wp2_with fail
  go_loopw [5] (fun vi wx => ∃ j : Nat, j ≤ X.length ∧ j ≤ Y.length ∧ vi = .int .i64 (j : Int) ∧ (∀ i (h : i < X.length) (h2 : i < Y.length), i < j → X[i] = Y[i]) ∧ Below w.heap.size w wx) (fun vi _ => X.length - (intOf vi).toNat)
  case atStart => exact ⟨0, by omega, by omega, rfl, fun _ _ _ h => by omega, Below.refl _ _⟩
  case round =>
    obtain ⟨j, hj1, hj2, rfl, hin, hB⟩ := hrel
    have HI := hid hin
    have HB := hid hB
    clear hin hB
    have HD := hid (bl_drop X Y j hj1 hj2 HI.out)
    by_cases h : j < X.length
    · have hI : (j : Int) < (X.length : Int) := by omega
      by_cases h2 : j < Y.length
      · have hI2 : (j : Int) < (Y.length : Int) := by omega
        obtain ⟨g, off, hao, c1⟩ := HC.out j h
        obtain ⟨g', off', hbo, c2⟩ := HP.out j h2
        subst hao hbo
        have k1 := hid (fun n => below_cells (below_drewN HB.out n) _ _ c1)
        have k2 := hid (fun n => below_cells (below_drewN HB.out n) _ _ c2)
        have c1 := below_cells HB.out _ _ c1
        have c2 := below_cells HB.out _ _ c2
        have HS := hid (show X[j] = Y[j] → ∀ i (h : i < X.length) (h2 : i < Y.length), i < j + 1 → X[i] = Y[i] from fun hx i hi h2 hij => by
          by_cases e : i = j
          · subst e; exact hx
          · exact HI.out i hi h2 (by omega))
        have HN := hid (show X[j] ≠ Y[j] → bl X Y = decide (X[j] < Y[j]) from fun hx => by
          rw [HD.out, List.drop_eq_getElem_cons h, List.drop_eq_getElem_cons h2]
          show (if X[j] = Y[j] then _ else _) = _
          rw [if_neg hx])
        generalize X[j] = x at c1 HS HN k1
        generalize Y[j] = y at c2 HS HN k2
        by_cases hxy : x = y
        · have hb : (x == y) = true := by simp [hxy]
          have HS := hid (HS.out hxy)
          clear hxy HN HD k1 k2
          go_wp2
          go_quiet (fail)
          go_wp2
          go_roundw
          case rel => exact ⟨j + 1, by omega, by omega, by go_num, HS.out, below_drewN HB.out nq⟩
          case measure => simp [intOf]; omega
        · have HN := hid (HN.out hxy)
          have hb : (x == y) = false := by simp [hxy]
          clear hxy HS HD
          go_wp2
          go_quiet (fail)
          have c1 := k1.out nq
          have c2 := k2.out nq
          have HB2 := hid (below_drewN HB.out nq)
          generalize wr.drewN nq = wz at c1 c2 HB2
          go_wp2
          go_quiet (fail)
          go_wp2
          go_ret
          rw [HN.out]
          exact ⟨rfl, below_drewN HB2.out nq⟩
      · have hI2 : ¬ (j : Int) < (Y.length : Int) := by omega
        have HF := hid (show bl X Y = false by
          rw [HD.out, List.drop_eq_nil_of_le (show Y.length ≤ j by omega), List.drop_eq_getElem_cons h]
          rfl)
        go_wp2
        go_ret
        rw [HF.out]
        exact ⟨rfl, HB.out⟩
    · have hI : ¬ (j : Int) < (X.length : Int) := by omega
      have HF := hid (show bl X Y = false by
        rw [HD.out, List.drop_eq_nil_of_le (show X.length ≤ j by omega)]
        cases Y.drop j <;> rfl)
      go_wp2
      go_ret
      rw [HF.out]
      exact ⟨rfl, HB.out⟩
end Go.Proofs.Ytaiccmbhdgecgaa
