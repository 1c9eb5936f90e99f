/-
  The document's choose, Steps, Count, of any steps.
-/
import Derived.Test.YtaiccmbhdgecgaaMn6
namespace Go.Proofs.Ytaiccmbhdgecgaa
open Go.RowKit
set_option maxRecDepth 100000

/-- choose, as it is reckoned -/
def chd (n : Nat) : Nat → Nat
  | 0 => 1
  | i + 1 => chd n i * (n - i) / (i + 1)
theorem chd_tab : ∀ p : Fin 25, ∀ n : Fin 25, n.1 ≤ p.1 → chd p.1 n.1 * (fac n.1 * fac (p.1 - n.1)) = fac p.1 ∧ chd p.1 n.1 ≤ 2704156 ∧ 0 < chd p.1 n.1 := by decide +kernel
theorem chd_le (p n : Nat) (hp : p ≤ 24) (hn : n ≤ p) : chd p n ≤ 2704156 ∧ 0 < chd p n := (chd_tab ⟨p, by omega⟩ ⟨n, by omega⟩ hn).2
theorem chd_fac (p n : Nat) (hp : p ≤ 24) (hn : n ≤ p) : chd p n * (fac n * fac (p - n)) = fac p := (chd_tab ⟨p, by omega⟩ ⟨n, by omega⟩ hn).1
set_option maxHeartbeats 400000 in
theorem choose_any (p n : Nat) (w : World) (hp : p ≤ 24) (hn : n ≤ p) :
    Calls Try.prog 64 #[.int .i64 (p : Int), .int .i64 (n : Int)] w fun e w' => e = .returned (.int .i64 (chd p n : Int)) ∧ w' = w := by
  go_enter Try.func64, Try.ntmps64
  go_wp2_with fail
  go_loopw [5, 6] (fun vc vi wx => ∃ i : Nat, i ≤ n ∧ vi = .int .i64 (i : Int) ∧ vc = .int .i64 (chd p i : Int) ∧ wx = w) (fun _ vi _ => n - (intOf vi).toNat)
  case atStart => exact ⟨0, Nat.zero_le _, rfl, rfl, rfl⟩
  case round =>
    obtain ⟨i, hi, rfl, rfl, rfl⟩ := hrel
    have hc := (chd_le p i hp (by omega)).1
    by_cases h : i < n
    · have hI : (i : Int) < (n : Int) := by omega
      have HV := hid (show chd p (i + 1) = chd p i * (p - i) / (i + 1) from rfl)
      generalize chd p i = c at *
      have hm : c * (p - i) ≤ 2704156 * 24 := Nat.mul_le_mul hc (by omega)
      have hz : ((i : Int) + 1) ≠ 0 := by omega
      have e1 : (c : Int) * ((p : Int) - (i : Int)) = ((c * (p - i) : Nat) : Int) := by push_cast; rw [show ((p - i : Nat) : Int) = (p : Int) - (i : Int) by omega]
      have e2 : (((c * (p - i) : Nat) : Int)).tdiv ((i : Int) + 1) = ((c * (p - i) / (i + 1) : Nat) : Int) := by
        rw [show ((i : Int) + 1) = ((i + 1 : Nat) : Int) by omega]
        rfl
      have hq : c * (p - i) / (i + 1) ≤ 64899744 := Nat.le_trans (Nat.div_le_self _ _) hm
      go_wp2
      go_roundw
      case rel =>
        refine ⟨i + 1, by omega, by go_num, ?_, by first | rfl | trivial⟩
        rw [HV.out]
        try rw [show ((p - i : Nat) : Int) = (p : Int) - (i : Int) by omega]
        rw [e1]
        generalize c * (p - i) = z at *
        push_cast
        rfl
      case measure => simp [intOf]; omega
    · have hI : ¬ (i : Int) < (n : Int) := by omega
      obtain rfl : i = n := by omega
      go_wp2
      go_ret
      exact ⟨rfl, rfl⟩
/-- the first j ints together -/
def sI (R : List Int) : Nat → Int
  | 0 => 0
  | j + 1 => sI R j + R.getD j 0
theorem sI_iN (N : List Nat) : ∀ j, sI (iN N) j = (sN N j : Int)
  | 0 => rfl
  | j + 1 => by
    show sI (iN N) j + (iN N).getD j 0 = ((sN N j + N.getD j 0 : Nat) : Int)
    rw [sI_iN N j]
    have : (iN N).getD j 0 = ((N.getD j 0 : Nat) : Int) := by
      unfold iN
      rw [List.getD_eq_getElem?_getD, List.getD_eq_getElem?_getD, List.getElem?_map]
      cases N[j]? <;> rfl
    rw [this]
    omega
theorem chk_of : ∀ (T : List Nat) (room : Nat), tN2 T ≤ room → chk (iN T) (room : Int) = true := by
  intro T
  induction T with
  | nil => intro room _; rfl
  | cons x t ih =>
    intro room hr
    have sc : ∀ j, sN (x :: t) (j + 1) = x + sN t j := by
      intro j
      induction j with
      | zero => simp [sN]
      | succ j ihj =>
        show sN (x :: t) (j + 1) + (x :: t).getD (j + 1) 0 = x + (sN t j + t.getD j 0)
        rw [ihj]
        simp
        omega
    have hr2 : x + tN2 t ≤ room := by
      have : tN2 (x :: t) = x + tN2 t := sc t.length
      omega
    show (if (x : Int) < 0 ∨ (room : Int) < (x : Int) then false else chk (iN t) ((room : Int) - (x : Int))) = true
    rw [if_neg (by omega), show (room : Int) - (x : Int) = ((room - x : Nat) : Int) by omega]
    exact ih (room - x) (by omega)
theorem stOk_of {R : List Int} (h : stOk R = true) : okN (R.length : Int) = true ∧ ∃ N, R = iN N ∧ tN2 N ≤ 24 ∧ nats R = N := by
  have h3 : okN (R.length : Int) = true ∧ chk R 24 = true := by
    unfold stOk at h
    simpa using h
  obtain ⟨hR, hT⟩ := chk_nat R 24 h3.2
  exact ⟨h3.1, _, hR, hT, rfl⟩
theorem stOk_mk {N : List Nat} (h : okN (N.length : Int) = true) (h2 : tN2 N ≤ 24) : stOk (iN N) = true := by
  unfold stOk
  rw [iN_len, h, show chk (iN N) 24 = true from chk_of N 24 h2]
  rfl
/-- what Steps answers -/
def StA (R : List Int) (e : Ending) : Prop := ∃ s, e = .returned (.tuple #[.int .i64 s, .bool (stOk R)]) ∧ (stOk R = true → s = (tN2 (nats R) : Int))
set_option maxHeartbeats 1000000 in
theorem steps7_any (v : Value) (R : List Int) (w : World) (hr : RI w v R) (hl : R.length ≤ 9223372036854775807) :
    Calls Try.prog 51 #[v] w fun e w' => StA R e ∧ w' = w := by
  obtain ⟨ao, cap, rfl, hc, hn0, hcell⟩ := hr
  have HC := hid hcell
  clear hcell hn0
  by_cases hk : 1 ≤ R.length ∧ R.length ≤ 16
  · obtain ⟨k1, k2⟩ := hk
    have k1I : ¬ (R.length : Int) < 1 := by omega
    have k2I : ¬ (16 : Int) < (R.length : Int) := by omega
    go_enter Try.func51, Try.ntmps51
    go_wp2_with fail
    go_loopw [4, 5] (fun vs vi wx => ∃ (j : Nat) (N : List Nat), j ≤ R.length ∧ vi = .int .i64 (j : Int) ∧ vs = .int .i64 (tN2 N : Int) ∧ N.length = j ∧ R.take j = iN N ∧ tN2 N ≤ 24 * j ∧ wx = w) (fun _ vi _ => R.length - (intOf vi).toNat)
    case atStart => exact ⟨0, [], Nat.zero_le _, rfl, rfl, rfl, rfl, Nat.le_refl _, rfl⟩
    case round =>
      obtain ⟨j, N, hj, rfl, rfl, hNl, hT, hB, rfl⟩ := hrel
      have HT := hid hT
      have HNl := hid hNl
      clear hT hNl
      by_cases h : j < R.length
      · have hI : (j : Int) < (R.length : Int) := by omega
        obtain ⟨g, off, hao, c0⟩ := HC.out j h
        subst hao
        have HNo := hid (show (R[j] < 0 ∨ 24 < R[j]) → stOk R = false from fun hx => Bool.eq_false_iff.2 fun hy => by
          obtain ⟨_, M, hM, hM2, _⟩ := stOk_of hy
          have e1 : R[j] = ((M.getD j 0 : Nat) : Int) := by
            have h9 : j < M.length := by rw [hM, iN_len] at h; exact h
            rw [gN M j h9, ← iN_at M j (by rw [iN_len]; exact h9) h9]
            simp only [hM]
          have e2 := getD_le M j (by rw [hM, iN_len] at h; exact h)
          omega)
        have HS := hid (show ∀ x : Nat, R[j] = (x : Int) → R.take (j + 1) = iN (N ++ [x]) ∧ tN2 (N ++ [x]) = tN2 N + x from fun x hx => by
          refine ⟨?_, ?_⟩
          · rw [List.take_add_one, List.getElem?_eq_getElem h, HT.out, hx]
            simp [iN]
          · unfold tN2
            rw [List.length_append, List.length_singleton]
            show sN (N ++ [x]) N.length + (N ++ [x]).getD N.length 0 = sN N N.length + x
            have e3 : ∀ i, i ≤ N.length → sN (N ++ [x]) i = sN N i := by
              intro i
              induction i with
              | zero => intro _; rfl
              | succ i ih =>
                intro hi
                show sN (N ++ [x]) i + (N ++ [x]).getD i 0 = sN N i + N.getD i 0
                rw [ih (by omega), List.getD_eq_getElem?_getD, List.getElem?_append_left (by omega), ← List.getD_eq_getElem?_getD]
            rw [e3 _ (Nat.le_refl _), List.getD_eq_getElem?_getD, List.getElem?_append_right (Nat.le_refl _)]
            simp)
        generalize R[j] = x at c0 HNo HS
        by_cases d1 : x < 0
        · have HE := hid (HNo.out (.inl d1))
          clear HS HNo
          go_wp2
          go_ret2
          exact ⟨⟨0, by rw [HE.out]; rfl, fun hy => by rw [HE.out] at hy; cases hy⟩, rfl⟩
        · by_cases d2 : 24 < x
          · have HE := hid (HNo.out (.inr d2))
            clear HS HNo
            go_wp2
            go_ret2
            exact ⟨⟨0, by rw [HE.out]; rfl, fun hy => by rw [HE.out] at hy; cases hy⟩, rfl⟩
          · obtain ⟨y, rfl⟩ : ∃ y : Nat, x = (y : Int) := ⟨x.toNat, by omega⟩
            obtain ⟨s1, s2⟩ := HS.out y rfl
            have H1 := hid s1
            have H2 := hid s2
            clear s1 s2 HS HNo
            have hb2 : (tN2 N : Int) ≤ 24 * 16 := by omega
            generalize hZ : tN2 N = z at *
            go_wp2
            go_roundw
            case rel => exact ⟨j + 1, N ++ [y], by omega, by go_num, by rw [H2.out]; go_num, by rw [List.length_append, HNl.out]; rfl, H1.out, by rw [H2.out]; omega, by first | rfl | trivial⟩
            case measure => simp [intOf]; omega
      · have hI : ¬ (j : Int) < (R.length : Int) := by omega
        obtain rfl : j = R.length := by omega
        have hRN : R = iN N := by have := HT.out; rwa [List.take_length] at this
        have hb2 : (tN2 N : Int) ≤ 24 * 16 := by omega
        have HE := hid (show stOk R = decide (tN2 N ≤ 24) by
          by_cases c : tN2 N ≤ 24
          · rw [decide_eq_true c, hRN]
            exact stOk_mk ((okN_iff _).2 (by rw [HNl.out]; omega)) c
          · rw [decide_eq_false c]
            refine Bool.eq_false_iff.2 fun hy => c ?_
            obtain ⟨_, M, hM, hM2, hM3⟩ := stOk_of hy
            rw [hRN, iN_nats] at hM3
            rw [hM3]
            exact hM2)
        have HF := hid (show nats R = N by rw [hRN, iN_nats])
        clear hRN
        by_cases c : tN2 N ≤ 24
        · have cI : (tN2 N : Int) ≤ 24 := by omega
          have HE2 := hid (show stOk R = true by rw [HE.out]; exact decide_eq_true c)
          clear c
          generalize hZ : tN2 N = z at *
          go_wp2
          go_ret2
          exact ⟨⟨_, by rw [HE2.out]; rfl, fun _ => by rw [HF.out, hZ]⟩, rfl⟩
        · have cI : ¬ (tN2 N : Int) ≤ 24 := by omega
          have HE2 := hid (show stOk R = false by rw [HE.out]; exact decide_eq_false c)
          clear c
          generalize hZ : tN2 N = z at *
          go_wp2
          go_ret2
          exact ⟨⟨_, by rw [HE2.out]; rfl, fun hy => by rw [HE2.out] at hy; cases hy⟩, rfl⟩
  · have HE := hid (show stOk R = false by
      refine Bool.eq_false_iff.2 fun hy => hk ?_
      have := (okN_iff _).1 (stOk_of hy).1
      omega)
    rcases Nat.lt_or_ge R.length 1 with k1 | k1
    · have k1I : (R.length : Int) < 1 := by omega
      clear hk
      go_enter Try.func51, Try.ntmps51
      go_wp2
      go_ret2
      exact ⟨⟨0, by rw [HE.out]; rfl, fun hy => by rw [HE.out] at hy; cases hy⟩, rfl⟩
    · have k1I : ¬ (R.length : Int) < 1 := by omega
      have k2I : (16 : Int) < (R.length : Int) := by omega
      clear hk
      go_enter Try.func51, Try.ntmps51
      go_wp2
      go_ret2
      exact ⟨⟨0, by rw [HE.out]; rfl, fun hy => by rw [HE.out] at hy; cases hy⟩, rfl⟩
end Go.Proofs.Ytaiccmbhdgecgaa
