/-
  SchedMixed: the law's walk.
-/
import Derived.Test.YthkddjffofehjaaSm7
import Derived.Test.YthkddjffofehjaaLawSRo
namespace Go.Proofs.Ythkddjffofehjaa
open Go.RowKit Go.Shelf
set_option maxRecDepth 100000

/-- what some answers of what Mixed answers -/
theorem some_mixed (s n k : Int) (most : Nat) (hm : most ≤ 65537) : ∃ L : List Int, L.length ≤ 65536 ∧ (okM n k = false → L = []) ∧ (∀ kk m len : Nat, okM n k = true → n = (m : Int) → k = (kk : Int) → (kk + 1) / 2 = len → L = (mxL s m len 65536).take most) ∧
    ∀ w1 e, MxE s n k w1 e → ∃ fn lb, e = .returned (.func (.func fn) #[] lb) ∧ ∀ w2, Below w1.heap.size w1 w2 → Calls Try.prog 15 #[.func (.func fn) #[] lb, .int .i64 (most : Int)] w2 fun e w' => (∃ v, e = .returned v ∧ OI w' w2.heap.size v L) ∧ Below w2.heap.size w2 w' := by
  by_cases hok : okM n k = true
  · obtain ⟨n1, n2, k1, k2⟩ := (okM_iff n k).1 hok
    obtain ⟨m, rfl⟩ : ∃ m : Nat, n = (m : Int) := ⟨n.toNat, by omega⟩
    obtain ⟨kk, rfl⟩ : ∃ kk : Nat, k = (kk : Int) := ⟨k.toNat, by omega⟩
    refine ⟨(mxL s m ((kk + 1) / 2) 65536).take most, by rw [List.length_take, mxL_len]; omega, fun h => by (rw [hok] at h; cases h), fun kk' m' len' _ e1 e2 e3 => ?_, ?_⟩
    · have : m = m' := by omega
      subst this
      have : kk = kk' := by omega
      subst this
      rw [e3]
    · rintro w1 e (⟨_, gs, gk, gn, rfl, h1, h2, h3⟩ | ⟨hno, _⟩)
      · refine ⟨_, _, rfl, fun w2 hb => ?_⟩
        have x1 := h1.later hb
        have x2 := h2.later hb
        have x3 := h3.later hb
        exact some_w 30 _ 2 _ most w2 (enters_of Try.func30 (by kernel_rfl) rfl) (mixed_seq gs gk gn w2.heap.size m ((kk + 1) / 2) kk s w2 (by omega) (by omega) (by omega) (by omega) rfl x1.facts.2.2 x2.facts.2.2 x3.facts.2.2 x1 x2 x3) (by rw [mxL_len]; exact Nat.le_refl _) hm
      · rw [hok] at hno; cases hno
  · refine ⟨[], by simp, fun _ => rfl, fun _ _ _ h => absurd h hok, ?_⟩
    rintro w1 e (⟨h, _⟩ | ⟨_, rfl⟩)
    · exact absurd h hok
    · refine ⟨_, _, rfl, fun w2 hb => ?_⟩
      have := some_w 28 #[] 0 [] most w2 (enters_of Try.func28 (by kernel_rfl) rfl) (nothing_seq w2.heap.size w2) (by simp) hm
      rw [List.take_nil] at this
      exact this

theorem rmixed_all (s n k : Int) (most : Nat) (w : World) (hm : most ≤ 65537) (L : List Int) (h1 : okM n k = false → L = []) (h2 : ∀ kk m len : Nat, okM n k = true → n = (m : Int) → k = (kk : Int) → (kk + 1) / 2 = len → L = (mxL s m len 65536).take most) :
    Calls Try.prog 23 #[.int .u64 s, .int .i64 n, .int .i64 k, .int .i64 (most : Int)] w fun e w' => (∃ v, e = .returned v ∧ RI w' v L) ∧ Below w.heap.size w w' := by
  by_cases hok : okM n k = true
  · obtain ⟨n1, n2, k1, k2⟩ := (okM_iff n k).1 hok
    obtain ⟨m, rfl⟩ : ∃ m : Nat, n = (m : Int) := ⟨n.toNat, by omega⟩
    obtain ⟨kk, rfl⟩ : ∃ kk : Nat, k = (kk : Int) := ⟨k.toNat, by omega⟩
    rw [h2 kk m _ hok rfl rfl rfl]
    exact rmixed_any s m _ kk most w (by omega) (by omega) (by omega) (by omega) rfl hok hm
  · rw [h1 (Bool.eq_false_iff.2 hok)]
    exact rmixed_no s n k _ w (Bool.eq_false_iff.2 hok)

set_option maxHeartbeats 1000000 in
theorem mixeds_any (s n k most : Int) (w : World) (hk0 : -9223372036854775808 ≤ k ∧ k ≤ 9223372036854775807) :
    Calls Try.prog 7 #[.int .u64 s, .int .i64 n, .int .i64 k, .int .i64 most] w fun e w' => e = .returned (.bool true) ∧ Below w.heap.size w w' := by
  have HBd := hid (bounded_any most 65537)
  obtain ⟨nn, hnn, hn6⟩ : ∃ nn : Nat, bnd most 65537 = (nn : Int) ∧ nn ≤ 65537 := ⟨(bnd most 65537).toNat, by unfold bnd; omega, by unfold bnd; omega⟩
  rw [hnn] at HBd
  have HX := hid (mixed_any s n k w hk0)
  obtain ⟨L, hLl, hL1, hL2, hL3⟩ := some_mixed s n k nn hn6
  have HL3 := hid hL3
  have HLl := hid hLl
  have HR := hid (fun w => rmixed_all s n k nn w hn6 L hL1 hL2)
  clear hL1 hL2 hL3 hnn hn6 hLl
  go_enter Try.func7, Try.ntmps7
  go_wp2_with fail
  refine (HBd.out _).mono ?_
  rintro e w0 ⟨rfl, rfl⟩
  go_wp2_with fail
  refine HX.out.mono ?_
  rintro e w1 ⟨hmx, hb1⟩
  obtain ⟨fn, lb, rfl, hso⟩ := HL3.out w1 e hmx
  have HSo := hid hso
  have B1 := hid hb1
  have hnl := seq_notnil (.func fn) #[] lb
  clear hmx hso hb1 HBd HX HL3
  go_wp2_with fail
  refine (HSo.out _ (Below.refl _ _)).mono ?_
  rintro e w2 ⟨⟨v, rfl, ho⟩, hb2⟩
  have HO := hid ho.reads
  have B2 := hid (B1.out.trans (hb2.mono B1.out.size))
  have B12 := hid hb2
  clear ho hb2
  go_wp2_with fail
  refine (HR.out _).mono ?_
  rintro e w3 ⟨⟨v3, rfl, ho3⟩, hb3⟩
  have HSm := hid (same_any v v3 L L w3 (HO.out.below hb3) ho3 (by have := HLl.out; omega) (by have := HLl.out; omega))
  have B3 := hid (B2.out.trans (hb3.mono B2.out.size))
  have B13 := hid (B12.out.trans (hb3.mono B12.out.size))
  have HO3 := hid (HO.out.below hb3)
  clear ho3 hb3 HR HO
  go_wp2_with fail
  refine HSm.out.mono ?_
  rintro e w4 ⟨⟨b, rfl, hbt⟩, hb4⟩
  obtain rfl : b = true := by simpa using hbt
  have B4 := hid (B3.out.trans (hb4.mono B3.out.size))
  have B14 := hid (B13.out.trans (hb4.mono B13.out.size))
  have HO4 := hid (HO3.out.below hb4)
  clear hb4 hbt HSm HO3
  go_wp2_with fail
  refine (HSo.out _ B14.out).mono ?_
  rintro e w5 ⟨⟨v5, rfl, ho5⟩, hb5⟩
  have HSm := hid (same_any v5 v L L w5 ho5.reads (HO4.out.below hb5) (by have := HLl.out; omega) (by have := HLl.out; omega))
  have B5 := hid (B4.out.trans (hb5.mono B4.out.size))
  clear ho5 hb5 HO4
  go_wp2_with fail
  refine HSm.out.mono ?_
  rintro e w6 ⟨⟨b, rfl, hbt⟩, hb6⟩
  obtain rfl : b = true := by simpa using hbt
  have B6 := hid (B5.out.trans (hb6.mono B5.out.size))
  clear hb6 hbt HSm
  go_wp2
  go_ret
  exact ⟨rfl, B6.out⟩
end Go.Proofs.Ythkddjffofehjaa
