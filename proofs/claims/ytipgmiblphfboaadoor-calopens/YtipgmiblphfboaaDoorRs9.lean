/-
  The document's rules: Count.
-/
import Derived.Test.YtipgmiblphfboaaDoorRs8
namespace Go.Proofs.YtipgmiblphfboaaDoor
open Go.RowKit
set_option maxRecDepth 100000
attribute [local go_sem ↓] rlLd_op

set_option maxHeartbeats 4000000 in
theorem refCount_any (wk : Nat → Bool) (D E : List (Int × Int × Int)) (v1 v2 : Value) (y m d y' m' d' : Int) (w : World) (h1 : RL eD 3 w v1 D) (h2 : RL eD 3 w v2 E) :
    Calls Tryd.prog 22 #[rlV wk v1 v2, dV y m d, dV y' m' d'] w fun e w' => (∃ c er, e = .returned (.tuple #[.int .i64 c, .int .i64 er]) ∧ CntR wk D E y m d y' m' d' c er) ∧ Below w.heap.size w w' := by
  obtain ⟨W3, hW3⟩ : ∃ W3, ((w.alloc (.cells (rlC wk v1 v2) 26)).alloc (.cells #[.int .i64 y, .int .i64 m, .int .i64 d] 33)).alloc (.cells #[.int .i64 y', .int .i64 m', .int .i64 d'] 33) = W3 := ⟨_, rfl⟩
  have hB3 : Below w.heap.size w W3 := by
    rw [← hW3]
    exact (((Below.refl _ _).alloc (Nat.le_refl _) _).alloc (by simp) _).alloc (by simp; omega) _
  have hR : RZ W3 w.heap.size wk v1 v2 := by
    rw [← hW3]
    exact ((alloc_below _ _).block _ (by simp; omega)).trans (((alloc_below _ _).block _ (by simp)).trans (heap_alloc_new _ _))
  have hD : Box W3 (w.heap.size + 1) y m d := by
    rw [← hW3]
    have h := Box.new (w.alloc (.cells (rlC wk v1 v2) 26)) y m d
    rw [World.size_alloc] at h
    exact h.later (alloc_below _ _)
  have hD' : Box W3 (w.heap.size + 2) y' m' d' := by
    rw [← hW3]
    have h := Box.new ((w.alloc (.cells (rlC wk v1 v2) 26)).alloc (.cells #[.int .i64 y, .int .i64 m, .int .i64 d] 33)) y' m' d'
    rw [World.size_alloc, World.size_alloc] at h
    exact h
  have hld := run_rlLd hR
  have HB0 := hid hB3
  have HR0 := hid hR
  have HD0 := hid hD
  have HE0 := hid hD'
  clear hB3 hR hD hD'
  have H1 := hid h1
  have H2 := hid h2
  have RA := hid (fun wx (h : Below w.heap.size w wx) => right_any wk D E v1 v2 wx (H1.out.below h) (H2.out.below h))
  have DA := hid (fun wx => refDays_any y m d wx)
  have DB := hid (fun wx => refDays_any y' m' d' wx)
  have OA := hid (fun A hA a b ha hab hb wx (h : Below w.heap.size w wx) => between_any wk D E A hA v1 v2 a b ha hab hb wx (H1.out.below h) (H2.out.below h))
  clear h1 h2
  unfold rlV dV at *
  unfold rlC at hW3 RA OA ⊢
  go_enter Tryd.func22, Tryd.ntmps22
  go_wp2_with fail
  refine (RA.out _ HB0.out).mono ?_
  rintro e w1 ⟨⟨rfl, hA⟩ | ⟨rfl, hN⟩, hb1⟩
  · have HB1 := hid (HB0.out.trans (hb1.mono HB0.out.size))
    have HR1 := hid (HR0.out.later hb1)
    have HD1 := hid (HD0.out.later hb1)
    have HE1 := hid (HE0.out.later hb1)
    obtain ⟨A, hA⟩ := hA
    have HA := hid hA
    obtain ⟨d0, d1, d2, _⟩ := HD1.out.facts
    clear hA hb1 hld hW3 HR0 HD0 HE0
    go_wp2_with fail
    refine (DA.out _).mono ?_
    rintro e w2 ⟨rfl, hb2⟩
    have HB2 := hid (HB1.out.trans (hb2.mono HB1.out.size))
    have HR2 := hid (HR1.out.later hb2)
    obtain ⟨e0, e1, e2, _⟩ := (HE1.out.later hb2).facts
    clear hb2 HB1 HR1 HD1 HE1 d0 d1 d2
    obtain ⟨x1, hx1⟩ : ∃ x1, (if VD y m d then nb y m d else 0) = x1 := ⟨_, rfl⟩
    obtain ⟨x2, hx2⟩ : ∃ x2, (if VD y m d then (0 : Int) else 30) = x2 := ⟨_, rfl⟩
    rw [hx1, hx2]
    have HX := hid (And.intro hx1 hx2)
    clear hx1 hx2
    go_wp2_with fail
    refine (DB.out _).mono ?_
    rintro e w3 ⟨rfl, hb3⟩
    have HB3 := hid (HB2.out.trans (hb3.mono HB2.out.size))
    have hld := run_rlLd (HR2.out.later hb3)
    clear hb3 HB2 HR2 e0 e1 e2
    unfold rlC at hld
    obtain ⟨z1, hz1⟩ : ∃ z1, (if VD y' m' d' then nb y' m' d' else 0) = z1 := ⟨_, rfl⟩
    obtain ⟨z2, hz2⟩ : ∃ z2, (if VD y' m' d' then (0 : Int) else 30) = z2 := ⟨_, rfl⟩
    rw [hz1, hz2]
    have HZ := hid (And.intro hz1 hz2)
    clear hz1 hz2
    by_cases hv : VD y m d
    · obtain ⟨hx1, hx2⟩ := HX.out
      rw [if_pos hv] at hx1 hx2
      subst hx2
      have HV := hid hv
      have hn := nb_range y m d hv
      rw [hx1] at hn
      have HX1 := hid hx1
      clear hv hx1 HX
      by_cases hv' : VD y' m' d'
      · obtain ⟨hz1, hz2⟩ := HZ.out
        rw [if_pos hv'] at hz1 hz2
        subst hz2
        have HV' := hid hv'
        have hn' := nb_range y' m' d' hv'
        rw [hz1] at hn'
        have HZ1 := hid hz1
        clear hv' hz1 HZ
        by_cases hlt : z1 < x1
        · go_wp2
          go_ret2
          exact ⟨⟨_, _, rfl, .inr ⟨A, HA.out, .inr (.inl ⟨HV.out, HV'.out, by rw [HX1.out, HZ1.out]; exact hlt, rfl, rfl⟩)⟩⟩, HB3.out⟩
        · have OB := hid (OA.out A HA.out x1 z1 hn.1 (by omega) (by omega) _ HB3.out)
          go_wp2_with fail
          refine OB.out.mono ?_
          rintro e w4 ⟨rfl, hb4⟩
          have HB4 := hid (HB3.out.trans (hb4.mono HB3.out.size))
          clear hb4
          go_wp2
          go_ret2
          exact ⟨⟨_, _, rfl, .inr ⟨A, HA.out, .inr (.inr ⟨HV.out, HV'.out, by rw [HX1.out, HZ1.out]; omega, rfl, by rw [HX1.out, HZ1.out]⟩)⟩⟩, HB4.out⟩
      · obtain ⟨hz1, hz2⟩ := HZ.out
        rw [if_neg hv'] at hz1 hz2
        subst hz2
        have HV' := hid hv'
        clear hv' hz1 HZ
        go_wp2
        go_ret2
        exact ⟨⟨_, _, rfl, .inr ⟨A, HA.out, .inl ⟨fun h => HV'.out h.2, rfl, rfl⟩⟩⟩, HB3.out⟩
    · obtain ⟨hx1, hx2⟩ := HX.out
      rw [if_neg hv] at hx1 hx2
      subst hx2
      have HV := hid hv
      clear hv hx1 HX
      go_wp2
      go_ret2
      exact ⟨⟨_, _, rfl, .inr ⟨A, HA.out, .inl ⟨fun h => HV.out h.1, rfl, rfl⟩⟩⟩, HB3.out⟩
  · have HN := hid hN
    have HB1 := hid (HB0.out.trans (hb1.mono HB0.out.size))
    clear hN hb1 hld hW3
    go_wp2
    go_ret2
    exact ⟨⟨_, _, rfl, .inl ⟨HN.out, rfl, rfl⟩⟩, HB1.out⟩
end Go.Proofs.YtipgmiblphfboaaDoor
