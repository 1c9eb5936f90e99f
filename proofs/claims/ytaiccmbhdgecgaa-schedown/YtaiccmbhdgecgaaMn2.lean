/-
  Count: of any steps.
-/
import Derived.Test.YtaiccmbhdgecgaaMn1
namespace Go.Proofs.Ytaiccmbhdgecgaa
open Go.RowKit
set_option maxRecDepth 100000

/-- is the number of mixes told -/
def cOk (N : List Nat) : Nat → Bool
  | 0 => true
  | j + 1 => cOk N j && decide (cN N (j + 1) ≤ 4611686018427387904)
def cntA (R : List Int) : Int × Int := if stOk R = true then (if cOk (nats R) (nats R).length = true then ((mN (nats R) : Int), 0) else (0, 26)) else (0, 2)
theorem iN_nats (N : List Nat) : nats (iN N) = N := by
  unfold nats iN
  rw [List.map_map]
  have : Int.toNat ∘ (fun (x : Nat) => (x : Int)) = id := by funext x; simp
  rw [this, List.map_id]
theorem sN_le (N : List Nat) (hs : tN2 N ≤ 24) (j : Nat) (hj : j ≤ N.length) : sN N j ≤ 24 := Nat.le_trans (sN_mono N hj) hs
theorem cN_pos (N : List Nat) (j : Nat) (h : sN N j ≤ 24) : 0 < cN N j := by
  have := cN_pf N j h
  have h2 := fac_pos (sN N j)
  rcases Nat.eq_zero_or_pos (cN N j) with e | e
  · rw [e, Nat.zero_mul] at this; omega
  · exact e
theorem quo_test (c y : Nat) (h1 : 1 ≤ c) : (4611686018427387904 / c < y) ↔ ¬ (c * y ≤ 4611686018427387904) := by
  rw [Nat.div_lt_iff_lt_mul h1, Nat.mul_comm y c]
  omega
theorem cOk_false {N : List Nat} {j : Nat} (h : cOk N j = false) : ∀ i, j ≤ i → cOk N i = false := by
  intro i hi
  induction hi with
  | refl => exact h
  | step _ ih => show (_ && _) = false; rw [ih]; rfl
set_option maxHeartbeats 1000000 in
theorem countR_any (v : Value) (R : List Int) (w : World) (hr : RI w v R) (hl : R.length ≤ 9223372036854775807) :
    Calls Try.prog 9 #[v] w fun e w' => e = .returned (.tuple #[.int .i64 (cntA R).1, .int .i64 (cntA R).2]) ∧ w' = w := by
  have HK := hid (areR_any v R w hr hl)
  unfold cntA
  by_cases hs : stOk R = true
  · rw [if_pos hs]
    rw [hs] at HK
    have h3 : okN (R.length : Int) = true ∧ chk R 24 = true := by
      unfold stOk at hs
      simpa using hs
    obtain ⟨hR, hT⟩ := chk_nat R 24 h3.2
    have hk2 := (okN_iff _).1 h3.1
    generalize nats R = N at *
    subst hR
    obtain ⟨A, hA⟩ : ∃ A, (if cOk N N.length = true then ((mN N : Int), (0 : Int)) else (0, 26)) = A := ⟨_, rfl⟩
    rw [hA]
    have HA := hid hA
    clear hA
    rw [iN_len] at hk2
    obtain ⟨ao, cap, rfl, hc, hn0, hcell⟩ := hr
    rw [iN_len] at hc
    have HC := hid hcell
    have HT := hid hT
    have hl16 : N.length ≤ 16 := by omega
    clear hcell hn0 h3 hs hk2 hT hl
    rw [iN_len] at HK
    rw [iN_len]
    go_enter Try.func9, Try.ntmps9
    go_wp2_with fail
    refine Calls.mono HK.out ?_
    rintro e w1 ⟨rfl, rfl⟩
    clear HK
    go_wp2_with fail
    go_loopw [4, 5, 7, 8, 14] (fun vc vp _ _ vi wx => ∃ j : Nat, j ≤ N.length ∧ vi = .int .i64 (j : Int) ∧ vc = .int .i64 (cN N j : Int) ∧ vp = .int .i64 (sN N j : Int) ∧ cOk N j = true ∧ (cN N j : Int) ≤ 4611686018427387904 ∧ wx = w1) (fun _ _ _ _ vi _ => N.length - (intOf vi).toNat)
    case atStart => exact ⟨0, Nat.zero_le _, rfl, rfl, rfl, rfl, by show ((1 : Nat) : Int) ≤ _; decide, rfl⟩
    case round =>
      obtain ⟨j, hj, rfl, rfl, rfl, hok, hcm, rfl⟩ := hrel
      have HOk := hid hok
      clear hok
      by_cases h : j < N.length
      · have hI : (j : Int) < (N.length : Int) := by omega
        obtain ⟨g, off, hao, c0⟩ := HC.out j (by rw [iN_len]; exact h)
        subst hao
        rw [iN_at N j _ h] at c0
        have HS := hid (show sN N (j + 1) = sN N j + N[j] by rw [← gN N j h]; rfl)
        have HD := hid (show cN N (j + 1) = cN N j * chs (sN N j + N[j]) N[j] N[j] by rw [← gN N j h]; rfl)
        have HO := hid (show cOk N (j + 1) = (cOk N j && decide (cN N (j + 1) ≤ 4611686018427387904)) from rfl)
        have hm := sN_le N HT.out (j + 1) h
        have hc1 := cN_pos N j (sN_le N HT.out j hj)
        rw [HS.out] at hm
        have HCh := hid (chosen24 (sN N j + N[j]) N[j] wr hm (Nat.le_add_left _ _))
        have hcc := (chs_le24 (sN N j + N[j]) N[j] N[j] hm (Nat.le_add_left _ _) (Nat.le_refl _)).1
        rw [HD.out] at HO
        generalize N[j] = x at c0 HS hm HD HCh hcc HO
        generalize sN N j = s at HS hm HD HCh hcc HO
        generalize chs (s + x) x x = y at HD HCh hcc HO
        generalize cN N j = c at HD hc1 hcm HO
        have hcz : (c : Int) ≠ 0 := by omega
        have hqt := quo_test c y hc1
        rw [show ((s + x : Nat) : Int) = (s : Int) + (x : Int) by omega] at HCh
        have E3 : (c : Int) * (y : Int) = ((c * y : Nat) : Int) := by push_cast; rfl
        obtain ⟨Q, hQ⟩ : ∃ Q, 4611686018427387904 / c = Q := ⟨_, rfl⟩
        have hQI : (4611686018427387904 : Int) / (c : Int) = (Q : Int) := by rw [← hQ]; rfl
        have hQb : Q ≤ 4611686018427387904 := by rw [← hQ]; exact Nat.div_le_self _ _
        rw [hQ] at hqt
        have hQb2 : (Q : Int) ≤ 4611686018427387904 := Int.ofNat_le.2 hQb
        have hccI : (y : Int) ≤ 2704156 := Int.ofNat_le.2 hcc
        have HQt := hid hqt
        clear hqt hQ hQb hcc
        by_cases hgt : Q < y
        · have hgI : (Q : Int) < (y : Int) := Int.ofNat_lt.2 hgt
          have HE := hid (show A = (0, 26) by rw [← HA.out, cOk_false (j := j + 1) (by rw [HO.out, decide_eq_false (HQt.out.1 hgt), Bool.and_false]) _ h]; rfl)
          clear hgt
          go_wp2_with fail
          refine Calls.mono HCh.out ?_
          rintro e w2 ⟨rfl, rfl⟩
          clear HCh
          go_wp2
          go_ret2
          exact ⟨by rw [HE.out]; rfl, rfl⟩
        · have hgI : ¬ (Q : Int) < (y : Int) := fun e => hgt (Int.ofNat_lt.1 e)
          have hcy : c * y ≤ 4611686018427387904 := by
            rcases Nat.lt_or_ge 4611686018427387904 (c * y) with h9 | h9
            · exact absurd (HQt.out.2 (Nat.not_le.2 h9)) hgt
            · exact h9
          have HE := hid (show cOk N (j + 1) = true by rw [HO.out, HOk.out, decide_eq_true hcy]; rfl)
          obtain ⟨z, hz⟩ : ∃ z, c * y = z := ⟨_, rfl⟩
          rw [hz] at E3 hcy HD
          have hcyI : (z : Int) ≤ 4611686018427387904 := Int.ofNat_le.2 hcy
          have HCY := hid hcyI
          clear hz hcy hgt
          go_wp2_with fail
          refine Calls.mono HCh.out ?_
          rintro e w2 ⟨rfl, rfl⟩
          clear HCh
          go_wp2
          go_roundw
          case rel => exact ⟨j + 1, by omega, by go_num, by rw [HD.out], by rw [HS.out]; go_num, HE.out, by rw [HD.out]; exact HCY.out, by first | rfl | trivial⟩
          case measure => simp [intOf]; omega
      · have hI : ¬ (j : Int) < (N.length : Int) := by omega
        obtain rfl : j = N.length := by omega
        go_wp2
        go_ret2
        exact ⟨by rw [← HA.out, if_pos HOk.out]; rfl, rfl⟩
  · have hs' : stOk R = false := by simpa using hs
    rw [hs'] at HK
    rw [if_neg hs]
    go_enter Try.func9, Try.ntmps9
    go_wp2_with fail
    refine Calls.mono HK.out ?_
    rintro e w1 ⟨rfl, rfl⟩
    clear HK
    go_wp2
    go_ret2
    exact ⟨rfl, rfl⟩
end Go.Proofs.Ytaiccmbhdgecgaa
