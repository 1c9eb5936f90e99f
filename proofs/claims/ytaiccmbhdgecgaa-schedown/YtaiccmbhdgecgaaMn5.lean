/-
  Nth: every answer.
-/
import Derived.Test.YtaiccmbhdgecgaaMn4
namespace Go.Proofs.Ytaiccmbhdgecgaa
open Go.RowKit
set_option maxRecDepth 100000

theorem cnt_ok {R : List Int} (h : (cntA R).2 = 0) : ∃ N, R = iN N ∧ 1 ≤ N.length ∧ N.length ≤ 16 ∧ tN2 N ≤ 24 ∧ mN N ≤ 4611686018427387904 ∧ cntA R = ((mN N : Int), 0) := by
  unfold cntA at h ⊢
  by_cases hs : stOk R = true
  · rw [if_pos hs] at h ⊢
    have h3 : okN (R.length : Int) = true ∧ chk R 24 = true := by
      unfold stOk at hs
      simpa using hs
    obtain ⟨hR, hT⟩ := chk_nat R 24 h3.2
    have hk2 := (okN_iff _).1 h3.1
    generalize nats R = N at *
    subst hR
    rw [iN_len] at hk2
    by_cases hc : cOk N N.length = true
    · rw [if_pos hc]
      refine ⟨N, rfl, by omega, by omega, hT, ?_, rfl⟩
      obtain ⟨j, hj⟩ : ∃ j, N.length = j + 1 := ⟨N.length - 1, by omega⟩
      unfold mN
      rw [hj] at hc ⊢
      have : (cOk N j && decide (cN N (j + 1) ≤ 4611686018427387904)) = true := hc
      simp only [Bool.and_eq_true, decide_eq_true_eq] at this
      exact this.2
    · rw [if_neg hc] at h
      cases h
  · rw [if_neg hs] at h
    cases h
theorem cnt_err (R : List Int) : (cntA R).2 = 0 ∨ (cntA R).2 = 26 ∨ (cntA R).2 = 2 := by
  unfold cntA
  split
  · split
    · exact .inl rfl
    · exact .inr (.inl rfl)
  · exact .inr (.inr rfl)
/-- what Nth answers -/
def NthA (R : List Int) (n : Int) (w w' : World) (e : Ending) : Prop :=
  ((cntA R).2 ≠ 0 ∧ e = .returned (.tuple #[.slice none 0 0, .int .i64 (cntA R).2])) ∨
  ((cntA R).2 = 0 ∧ (n < 0 ∨ (cntA R).1 ≤ n) ∧ e = .returned (.tuple #[.slice none 0 0, .int .i64 2])) ∨
  ((cntA R).2 = 0 ∧ ∃ N m v' L, R = iN N ∧ n = ((m : Nat) : Int) ∧ m < mN N ∧ cntA R = ((mN N : Int), 0) ∧ 1 ≤ N.length ∧ N.length ≤ 16 ∧ tN2 N ≤ 24 ∧ mN N ≤ 4611686018427387904 ∧ e = .returned (.tuple #[v', .int .i64 0]) ∧ OI w' w.heap.size v' (iN L) ∧ Mx N m L)
set_option maxHeartbeats 1000000 in
theorem nthR_any (v : Value) (R : List Int) (n : Int) (w : World) (hr : RI w v R) (hl : R.length ≤ 9223372036854775807) (hn : -9223372036854775808 ≤ n ∧ n ≤ 9223372036854775807) :
    Calls Try.prog 10 #[v, .int .i64 n] w fun e w' => NthA R n w w' e ∧ Below w.heap.size w w' := by
  have HCo := hid (countR_any v R w hr hl)
  rcases cnt_err R with h0 | h26 | h2
  · obtain ⟨N, rfl, a1, a2, a3, a4, a5⟩ := cnt_ok h0
    by_cases hneg : n < 0
    · have HA := hid (show ∀ w', NthA (iN N) n w w' (.returned (.tuple #[.slice none 0 0, .int .i64 2])) from fun w' => .inr (.inl ⟨h0, .inl hneg, rfl⟩))
      rw [a5] at HCo
      obtain ⟨ao, cap, hv⟩ := hr.len0
      subst hv
      clear hr
      have hm1 : ((mN N : Nat) : Int) ≤ 4611686018427387904 := Int.ofNat_le.2 a4
      generalize mN N = M at *
      clear h0 a5 a4
      have hd : decide (n < 0) = true := decide_eq_true hneg
      go_enter Try.func10, Try.ntmps10
      go_wp2_with fail
      refine Calls.mono HCo.out ?_
      rintro e w1 ⟨rfl, rfl⟩
      clear HCo
      go_wp2
      go_ret2
      exact ⟨HA.out _, Below.refl _ _⟩
    · by_cases hbig : (mN N : Int) ≤ n
      · have HA := hid (show ∀ w', NthA (iN N) n w w' (.returned (.tuple #[.slice none 0 0, .int .i64 2])) from fun w' => .inr (.inl ⟨h0, .inr (by rw [a5]; exact hbig), rfl⟩))
        rw [a5] at HCo
        obtain ⟨ao, cap, hv⟩ := hr.len0
        subst hv
        clear hr
        generalize mN N = M at *
        clear h0 a5 a4
        have hd : decide (n < 0) = false := decide_eq_false hneg
        have hd2 : decide ((M : Int) ≤ n) = true := decide_eq_true hbig
        go_enter Try.func10, Try.ntmps10
        go_wp2_with fail
        refine Calls.mono HCo.out ?_
        rintro e w1 ⟨rfl, rfl⟩
        clear HCo
        go_wp2
        go_ret2
        exact ⟨HA.out _, Below.refl _ _⟩
      · obtain ⟨m, rfl⟩ : ∃ m : Nat, n = (m : Int) := ⟨n.toNat, by omega⟩
        have hm : m < mN N := by omega
        refine (nthX v N m w hr a1 a2 a3 a4 a5 hm).mono ?_
        rintro e w' ⟨⟨v', L, rfl, ho, hx⟩, hb⟩
        exact ⟨.inr (.inr ⟨h0, N, m, v', L, rfl, rfl, hm, a5, a1, a2, a3, a4, rfl, ho, hx⟩), hb⟩
  all_goals
    have hne : (cntA R).2 ≠ 0 := by rw [‹(cntA R).2 = _›]; decide
    have HA := hid (show ∀ w', NthA R n w w' (.returned (.tuple #[.slice none 0 0, .int .i64 (cntA R).2])) from fun w' => .inl ⟨hne, rfl⟩)
    have hhh := ‹(cntA R).2 = _›
    rw [hhh] at HCo HA
    obtain ⟨ao, cap, hv⟩ := hr.len0
    subst hv
    clear hr hne hhh
    go_enter Try.func10, Try.ntmps10
    go_wp2_with fail
    refine Calls.mono HCo.out ?_
    rintro e w1 ⟨rfl, rfl⟩
    clear HCo
    go_wp2
    go_ret2
    exact ⟨HA.out _, Below.refl _ _⟩
end Go.Proofs.Ytaiccmbhdgecgaa
