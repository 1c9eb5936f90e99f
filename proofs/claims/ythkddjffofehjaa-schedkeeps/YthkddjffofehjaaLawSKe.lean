/-
  SchedKeeps: the law's walk.
-/
import Derived.Test.YthkddjffofehjaaSk1
import Derived.Test.YthkddjffofehjaaLawSMi
namespace Go.Proofs.Ythkddjffofehjaa
open Go.RowKit Go.Shelf
set_option maxRecDepth 100000

theorem some_rounds (n : Int) (most : Nat) (hm : most ≤ 65536) : ∃ L : List Int, (okN n = false → L = []) ∧ (∀ m : Nat, okN n = true → n = (m : Int) → L = rdL m most) ∧
    ∀ w1 e, RoE n w1 e → ∃ fn lb, e = .returned (.func (.func fn) #[] lb) ∧ ∀ w2, Below w1.heap.size w1 w2 → Calls Try.prog 15 #[.func (.func fn) #[] lb, .int .i64 (most : Int)] w2 fun e w' => (∃ v, e = .returned v ∧ OI w' w2.heap.size v L) ∧ Below w2.heap.size w2 w' := by
  by_cases hok : okN n = true
  · obtain ⟨n1, n2⟩ := (okN_iff n).1 hok
    obtain ⟨m, rfl⟩ : ∃ m : Nat, n = (m : Int) := ⟨n.toNat, by omega⟩
    refine ⟨rdL m most, fun h => by (rw [hok] at h; cases h), fun m' _ e1 => ?_, ?_⟩
    · have : m = m' := by omega
      subst this
      rfl
    · rintro w1 e (⟨_, g, rfl, h1⟩ | ⟨hno, _⟩)
      · refine ⟨_, _, rfl, fun w2 hb => ?_⟩
        have x1 := h1.later hb
        have := some_any 29 #[.pointer (some ⟨g, 0, none⟩)] (rdL m 65536) most w2 (enters_of Try.func29 (by kernel_rfl) rfl) (rounds_stops 4 (by omega) g w2.heap.size m x1.facts.2.2 ⟨by omega, by omega⟩ w2 x1) (by rw [rdL_len]; exact Nat.le_refl _) (by omega)
        rw [rdL_take m most 65536 hm] at this
        exact this
      · rw [hok] at hno; cases hno
  · refine ⟨[], fun _ => rfl, fun _ h => absurd h hok, ?_⟩
    rintro w1 e (⟨h, _⟩ | ⟨_, rfl⟩)
    · exact absurd h hok
    · refine ⟨_, _, rfl, fun w2 hb => ?_⟩
      have := some_any 28 #[] [] most w2 (enters_of Try.func28 (by kernel_rfl) rfl) (nothing_stops 4 w2.heap.size w2) (by simp) (by omega)
      rw [List.take_nil] at this
      exact this
theorem FaE.yes {R : List Int} {n k : Int} {e : Ending} (h : FaE R n k e) (h' : FaA R n k true 0) : e = .returned (.tuple #[.bool true, .int .i64 0]) := by
  obtain ⟨b, p, rfl, ha⟩ := h
  obtain ⟨rfl, rfl⟩ := ha.same h'
  rfl

set_option maxHeartbeats 1000000 in
theorem keeps_any (s n k most : Int) (w : World) (hn0 : -9223372036854775808 ≤ n ∧ n ≤ 9223372036854775807) (hk0 : -9223372036854775808 ≤ k ∧ k ≤ 9223372036854775807) :
    Calls Try.prog 5 #[.int .u64 s, .int .i64 n, .int .i64 k, .int .i64 most] w fun e w' => e = .returned (.bool true) ∧ Below w.heap.size w w' := by
  have HBd := hid (bounded_any most 4000)
  obtain ⟨nn, hnn, hn6⟩ : ∃ nn : Nat, bnd most 4000 = (nn : Int) ∧ nn ≤ 4000 := ⟨(bnd most 4000).toNat, by unfold bnd; omega, by unfold bnd; omega⟩
  rw [hnn] at HBd
  have HX := hid (fun w => mixed_any s n k w hk0)
  obtain ⟨L, hLl, hL1, hL2, hL3⟩ := some_mixed s n k nn (by omega)
  obtain ⟨M, hM1, hM2, hM3⟩ := some_rounds n nn (by omega)
  have HL3 := hid hL3
  have HM3 := hid hM3
  have HR := hid (fun w => rounds_any n w)
  clear hL3 hM3 hnn hLl
  have hni : (nn : Int) ≤ 4000 := by omega
  by_cases hok : okN n = true
  · obtain ⟨n1, n2⟩ := (okN_iff n).1 hok
    obtain ⟨m, rfl⟩ : ∃ m : Nat, n = (m : Int) := ⟨n.toNat, by omega⟩
    have hMe := hM2 m hok rfl
    subst hMe
    have HF1 := hid (rounds_fair m nn ⟨by omega, by omega⟩ (by omega))
    have hRl := rdL_len m nn
    generalize rdL m nn = M at *
    clear hM1 hM2 hok
    go_enter Try.func5, Try.ntmps5
    go_wp2_with fail
    refine (HBd.out _).mono ?_
    rintro e w0 ⟨rfl, rfl⟩
    go_wp2_with fail
    refine (HR.out _).mono ?_
    rintro e w1 ⟨hmx, hb1⟩
    obtain ⟨fn, lb, rfl, hso⟩ := HM3.out w1 e hmx
    have HSo := hid hso
    have B1 := hid hb1
    clear hmx hso hb1 HBd HR HM3
    go_wp2_with fail
    refine (HSo.out _ (Below.refl _ _)).mono ?_
    rintro e w2 ⟨⟨v, rfl, ho⟩, hb2⟩
    have HFa := hid (fair_any v M (m : Int) (m : Int) w2 ho.reads (by omega) (by omega) (by omega))
    obtain ⟨ao, cap, hv⟩ := ho.reads.len0
    rw [hRl] at hv
    subst hv
    have B2 := hid (B1.out.trans (hb2.mono B1.out.size))
    clear ho hb2 HSo
    go_wp2_with fail
    refine HFa.out.mono ?_
    rintro e w3 ⟨he, hb3⟩
    obtain rfl := he.yes HF1.out
    have B3 := hid (B2.out.trans (hb3.mono B2.out.size))
    have hnb : ((nn : Int) == (nn : Int)) = true := by simp
    clear he hb3 HFa
    go_wp2_with fail
    refine (HX.out _).mono ?_
    rintro e w4 ⟨hmx, hb4⟩
    obtain ⟨fn2, lb2, rfl, hso⟩ := HL3.out w4 e hmx
    have HSo := hid hso
    have B4 := hid (B3.out.trans (hb4.mono B3.out.size))
    clear hmx hso hb4 HX HL3
    go_wp2_with fail
    refine (HSo.out _ (Below.refl _ _)).mono ?_
    rintro e w5 ⟨⟨v5, rfl, ho5⟩, hb5⟩
    have B5 := hid (B4.out.trans (hb5.mono B4.out.size))
    by_cases hk1 : 2 * (m : Int) - 1 ≤ k
    · by_cases hk2 : k ≤ 1024
      · obtain ⟨kk, rfl⟩ : ∃ kk : Nat, k = (kk : Int) := ⟨k.toNat, by omega⟩
        have hLe := hL2 kk m ((kk + 1) / 2) ((okM_iff _ _).2 ⟨n1, n2, hk1, hk2⟩) rfl rfl rfl
        rw [mxL_take _ _ _ nn 65536 (by omega)] at hLe
        subst hLe
        have HF2 := hid (mixed_fair s m ((kk + 1) / 2) kk nn ⟨by omega, by omega⟩ (by omega) rfl (by omega))
        have HFa := hid (fair_any v5 _ (m : Int) (kk : Int) w5 ho5.reads (by rw [mxL_len]; omega) (by omega) (by omega))
        obtain ⟨ao5, cap5, hv5⟩ := ho5.reads.len0
        rw [mxL_len] at hv5
        subst hv5
        clear ho5 hb5 HSo hL1 hL2
        go_wp2_with fail
        refine HFa.out.mono ?_
        rintro e w6 ⟨he, hb6⟩
        obtain rfl := he.yes HF2.out
        have B6 := hid (B5.out.trans (hb6.mono B5.out.size))
        clear he hb6 HFa HF2
        go_wp2
        go_ret
        exact ⟨rfl, B6.out⟩
      · have hLe := hL1 (okM_no (by omega))
        subst hLe
        obtain ⟨ao5, cap5, hv5⟩ := ho5.reads.len0
        rw [List.length_nil] at hv5
        subst hv5
        clear ho5 hb5 HSo hL1 hL2
        go_wp2
        go_ret
        exact ⟨rfl, B5.out⟩
    · have hLe := hL1 (okM_no (by omega))
      subst hLe
      obtain ⟨ao5, cap5, hv5⟩ := ho5.reads.len0
      rw [List.length_nil] at hv5
      subst hv5
      clear ho5 hb5 HSo hL1 hL2
      go_wp2
      go_ret
      exact ⟨rfl, B5.out⟩
  · have hMe := hM1 (Bool.eq_false_iff.2 hok)
    subst hMe
    have hLe := hL1 (okM_no (fun h => hok ((okN_iff n).2 ⟨h.1, h.2.1⟩)))
    subst hLe
    have hcs : n < 1 ∨ (1 ≤ n ∧ (16 : Int) < n) := by
      have : ¬ (1 ≤ n ∧ n ≤ 16) := fun h => hok ((okN_iff n).2 h)
      omega
    clear hM1 hM2 hok hL1 hL2
    go_enter Try.func5, Try.ntmps5
    go_wp2_with fail
    refine (HBd.out _).mono ?_
    rintro e w0 ⟨rfl, rfl⟩
    go_wp2_with fail
    refine (HR.out _).mono ?_
    rintro e w1 ⟨hmx, hb1⟩
    obtain ⟨fn, lb, rfl, hso⟩ := HM3.out w1 e hmx
    have HSo := hid hso
    have B1 := hid hb1
    clear hmx hso hb1 HBd HR HM3
    go_wp2_with fail
    refine (HSo.out _ (Below.refl _ _)).mono ?_
    rintro e w2 ⟨⟨v, rfl, ho⟩, hb2⟩
    have B2 := hid (B1.out.trans (hb2.mono B1.out.size))
    clear ho hb2 HSo
    rcases hcs with h1 | ⟨h0, h1⟩
    all_goals
      go_wp2_with fail
      refine (HX.out _).mono ?_
      rintro e w4 ⟨hmx, hb4⟩
      obtain ⟨fn2, lb2, rfl, hso⟩ := HL3.out w4 e hmx
      have HSo := hid hso
      have B4 := hid (B2.out.trans (hb4.mono B2.out.size))
      clear hmx hso hb4 HX HL3
      go_wp2_with fail
      refine (HSo.out _ (Below.refl _ _)).mono ?_
      rintro e w5 ⟨⟨v5, rfl, ho5⟩, hb5⟩
      have B5 := hid (B4.out.trans (hb5.mono B4.out.size))
      obtain ⟨ao5, cap5, hv5⟩ := ho5.reads.len0
      rw [List.length_nil] at hv5
      subst hv5
      clear ho5 hb5 HSo
      go_wp2
      go_ret
      exact ⟨rfl, B5.out⟩
end Go.Proofs.Ythkddjffofehjaa
