/-
  Move, by no day.
-/
import Derived.Test.YtipgmiblphfboaaDoorShp
namespace Go.Proofs.YtipgmiblphfboaaDoor
open Go.RowKit Go.Shelf
set_option maxRecDepth 100000
attribute [local go_sem] Oper.semAt_some
attribute [local go_sem ↓] shLd_op shSt_op rlLd_op

set_option maxHeartbeats 40000000 in
theorem move_zero (wk : Nat → Bool) (D E : List (Int × Int × Int)) (v1 v2 : Value) (y m d n : Int) (hsg : n = 0) (w : World) (h1 : RL eD 3 w v1 D) (h2 : RL eD 3 w v2 E) (hA : HasAh w) :
    Calls Tryd.prog 10 #[rlV wk v1 v2, dV y m d, .int .i64 n] w fun e w' => (∃ X er, e = .returned (.tuple #[dV X.1 X.2.1 X.2.2, .int .i64 er]) ∧ MovR wk D E y m d n X er) ∧ Below w.heap.size w w' := by
  obtain ⟨W4, hW4⟩ : ∃ W4, (((w.alloc (.cells (rlC wk v1 v2) 26)).alloc (.cells #[.int .i64 y, .int .i64 m, .int .i64 d] 33)).alloc (.cells #[.int .i64 0, .int .i64 0, .int .i64 0] 33)).alloc (.cells #[.int .i64 0] 29) = W4 := ⟨_, rfl⟩
  have hB4 : Below w.heap.size w W4 := by
    rw [← hW4]
    exact ((((Below.refl _ _).alloc (Nat.le_refl _) _).alloc (by simp) _).alloc (by simp; omega) _).alloc (by simp; omega) _
  have hz4 : W4.heap.size = w.heap.size + 4 := by rw [← hW4]; simp
  have hR : RZ W4 w.heap.size wk v1 v2 := by
    rw [← hW4]
    exact ((alloc_below _ _).block _ (by simp; omega)).trans (((alloc_below _ _).block _ (by simp; omega)).trans (((alloc_below _ _).block _ (by simp)).trans (heap_alloc_new _ _)))
  have hD : Box W4 (w.heap.size + 1) y m d := by
    rw [← hW4]
    have h := Box.new (w.alloc (.cells (rlC wk v1 v2) 26)) y m d
    rw [World.size_alloc] at h
    exact (h.later (alloc_below _ _)).later (alloc_below _ _)
  have hX : Box W4 (w.heap.size + 1 + 1) 0 0 0 := by
    rw [← hW4]
    have h := Box.new ((w.alloc (.cells (rlC wk v1 v2) 26)).alloc (.cells #[.int .i64 y, .int .i64 m, .int .i64 d] 33)) 0 0 0
    simp only [World.size_alloc] at h
    exact h.later (alloc_below _ _)
  have hE : EBox W4 (w.heap.size + 1 + 1 + 1) 0 := by
    rw [← hW4]
    have h := Boxed.new (((w.alloc (.cells (rlC wk v1 v2) 26)).alloc (.cells #[.int .i64 y, .int .i64 m, .int .i64 d] 33)).alloc (.cells #[.int .i64 0, .int .i64 0, .int .i64 0] 33)) 29 (.int .i64 0)
    simp only [World.size_alloc] at h
    exact h
  have HS := hid (shopOn_any wk D E v1 v2 y m d W4 (h1.below hB4) (h2.below hB4) (hA.below hB4))
  have hld := run_rlLd hR
  obtain ⟨d0, d1, d2, _⟩ := hD.facts
  have HB := hid hB4
  have HD := hid hD
  have HX := hid hX
  have HE0 := hid hE
  have HA := hid hA
  have HG : 1 < w.heap.size := hA.lt
  obtain ⟨x1, hx1⟩ : ∃ x1, (if VD y m d then nb y m d else 0) = x1 := ⟨_, rfl⟩
  obtain ⟨x2, hx2⟩ : ∃ x2, (if VD y m d then (0 : Int) else 30) = x2 := ⟨_, rfl⟩
  rw [hx1, hx2] at HS
  have hv : (VD y m d ∧ x1 = nb y m d ∧ x2 = 0) ∨ (¬ VD y m d ∧ x2 = 30) := by
    by_cases h : VD y m d
    · rw [if_pos h] at hx1 hx2; exact .inl ⟨h, hx1.symm, hx2.symm⟩
    · rw [if_neg h] at hx1 hx2; exact .inr ⟨h, hx2.symm⟩
  have HV := hid hv
  clear h1 h2 hA hR hD hX hE hB4 hx1 hx2 hv
  unfold rlV dV
  unfold rlC at hW4 ⊢
  unfold rlV dV rlC shV shC at HS
  refine (callsIn_wide (n := 5)).1 ?_
  refine callsIn_of_wp_marks Tryd.func10 rfl trivial ?_ rfl
  simp only [Tryd.ntmps10, List.size_toArray, List.length_cons, List.length_nil, Nat.reduceAdd, Nat.reduceSub, Array.replicate_succ, Array.replicate_zero, List.push_toArray, List.append_toArray, List.nil_append, List.cons_append]
  gi_wp2_with fail
  refine ⟨trivial, ?_⟩
  refine (callsIn_wide.2 HS.out).mono ?_
  rintro e w3 ⟨hres, hb3⟩
  have HB3 := hid (HB.out.trans (hb3.mono HB.out.size))
  have HD3 := hid (HD.out.later hb3)
  have HX3 := hid (HX.out.later hb3)
  have HE3 := hid (show EBox w3 (w.heap.size + 1 + 1 + 1) 0 from (hb3.block _ HE0.out.lt).trans HE0.out)
  have hz3 : w.heap.size + 4 ≤ w3.heap.size := by have := hb3.size; omega
  clear hb3 hld d0 d1 d2 hW4 HS HB HD HX HE0
  rcases hres with ⟨A, ad, cap, hA, hl, rfl, hr⟩ | ⟨hA, rfl⟩
  · have hst := run_shSt (wk' := wk) (v' := .slice (some ad) A.length cap) (SZ.new w3) rfl
    have HSZ := hid ((SZ.new w3).put wk (.slice (some ad) A.length cap))
    have BN := hid (new_put (w := w3) (wk := wk) (v := .slice (some ad) A.length cap) (o := .cells #[.bool false, .bool false, .bool false, .bool false, .bool false, .bool false, .bool false, .slice none 0 0] 46))
    have HAA := hid hA
    have HR := hid hr
    have hzS : (putS (w3.alloc (.cells #[.bool false, .bool false, .bool false, .bool false, .bool false, .bool false, .bool false, .slice none 0 0] 46)) w3.heap.size wk (.slice (some ad) A.length cap)).heap.size = w3.heap.size + 1 := by simp
    generalize putS (w3.alloc (.cells #[.bool false, .bool false, .bool false, .bool false, .bool false, .bool false, .bool false, .slice none 0 0] 46)) w3.heap.size wk (.slice (some ad) A.length cap) = wS at *
    have HBQ := hid (HB3.out.trans (BN.out.mono HB3.out.size))
    have HD4 := hid (HD3.out.later BN.out)
    have HXQ := hid (HX3.out.later BN.out)
    have HEQ := hid (show EBox wS (w.heap.size + 1 + 1 + 1) 0 from (BN.out.block _ HE3.out.lt).trans HE3.out)
    have HRS := hid (HR.out.below BN.out)
    clear hA hr HR HX3 HE3 HD3 HB3
    rcases HV.out with ⟨hvd, hx1, hx2⟩ | ⟨hvd, hx2⟩
    · have HVD := hid hvd
      have HN := hid hx1
      subst hx2
      have hr1 : 0 ≤ x1 ∧ x1 ≤ 3652424 := by rw [hx1]; exact nb_range _ _ _ hvd
      clear hvd hx1 HV
      have HUP := hid (rlA_up HAA.out)
      by_cases hbig : -100000 ≤ n ∧ n ≤ 100000
      · have hb1 : ¬ n < -100000 := by omega
        have hb2 : ¬ 100000 < n := by omega
        rcases (show n = 0 ∨ 0 < n ∨ n < 0 by omega) with hn0 | hn0 | hn0
        · subst hn0
          have hld := run_shLd HSZ.out
          have HC := hid (along_any wk A ad cap x1 1 wS HRS.out hl (.inl rfl))
          unfold shV shC at HC
          rw [if_neg (by omega)] at HC
          gi_wp2_with fail
          refine ⟨trivial, ?_⟩
          refine (callsIn_wide.2 HC.out).mono ?_
          rintro e w5 ⟨⟨gl, gd, gs, gh, rfl, l1, l2, l3, l4, hal⟩, hb5⟩
          have HO := hid (open_up wk A x1 gl gd gs gh w5 (by omega) HUP.out.2.2 HUP.out.1 hal.as)
          have HB5 := hid (HBQ.out.trans (hb5.mono HBQ.out.size))
          have HD5 := hid (HD4.out.later hb5)
          have HX5 := hid (HXQ.out.later hb5)
          have HE5 := hid (show EBox w5 (w.heap.size + 1 + 1 + 1) 0 from (hb5.block _ HEQ.out.lt).trans HEQ.out)
          clear hb5 hal HC hld HD4 HXQ HEQ HBQ
          gi_wp2_with fail
          refine ⟨trivial, ?_⟩
          refine (callsIn_wide.2 HO.out).mono ?_
          rintro e w6 ⟨rfl, _, hk6⟩
          have HBQ := hid (hk6.below HB5.out HB5.out.size (by omega) (by omega))
          have HD6 := hid (show Box w6 (w.heap.size + 1) y m d from (hk6.block _ HD5.out.facts.2.2.2.2.2.2 (by omega) (by omega)).trans HD5.out)
          have HXQ := hid (show Box w6 (w.heap.size + 1 + 1) 0 0 0 from (hk6.block _ HX5.out.facts.2.2.2.2.2.2 (by omega) (by omega)).trans HX5.out)
          have HEQ := hid (show EBox w6 (w.heap.size + 1 + 1 + 1) 0 from (hk6.block _ HE5.out.lt (by omega) (by omega)).trans HE5.out)
          obtain ⟨d0, d1, d2, _⟩ := HD6.out.facts
          clear hk6 HD5 HX5 HE5 HO
          by_cases hop : isOp wk A x1 = true
          · rw [hop]
            obtain ⟨_, _, _, fx0, fx1, fx2, _⟩ := HXQ.out.facts
            have fe := HEQ.out.frozen
            have ce := HEQ.out.cell
            obtain ⟨cx0, cx1, cx2, _⟩ := HXQ.out.facts
            have HRT := hid (ret_two (x0 := y) (x1 := m) (x2 := d) (er := 0) HXQ.out HEQ.out (by omega) HBQ.out (by omega) (by omega))
            gi_wp2
            obtain ⟨rx0, rx1, rx2, _⟩ := HRT.out.1.facts
            have re := HRT.out.2.1.cell
            refine ⟨_, by (simp only [results, Tryd.results10]; simp [go_sem, rx0, rx1, rx2, re]; try rfl), ?_⟩
            exact ⟨⟨(y, m, d), 0, rfl, .inr ⟨A, HAA.out, .inr ⟨HVD.out, .inr (.inl ⟨rfl, .inl ⟨by rw [← HN.out]; exact hop, rfl, rfl⟩⟩)⟩⟩⟩, HRT.out.2.2⟩
          · have hop2 : isOp wk A x1 = false := by simpa using hop
            rw [hop2]
            obtain ⟨_, _, _, fx0, fx1, fx2, _⟩ := HXQ.out.facts
            have fe := HEQ.out.frozen
            have ce := HEQ.out.cell
            obtain ⟨cx0, cx1, cx2, _⟩ := HXQ.out.facts
            have HRT := hid (ret_two (x0 := 0) (x1 := 0) (x2 := 0) (er := 37) HXQ.out HEQ.out (by omega) HBQ.out (by omega) (by omega))
            gi_wp2
            obtain ⟨rx0, rx1, rx2, _⟩ := HRT.out.1.facts
            have re := HRT.out.2.1.cell
            refine ⟨_, by (simp only [results, Tryd.results10]; simp [go_sem, rx0, rx1, rx2, re]; try rfl), ?_⟩
            exact ⟨⟨(0, 0, 0), 37, rfl, .inr ⟨A, HAA.out, .inr ⟨HVD.out, .inr (.inl ⟨rfl, .inr ⟨by rw [← HN.out]; exact hop2, rfl, rfl⟩⟩)⟩⟩⟩, HRT.out.2.2⟩
        · exact absurd hsg (by omega)
        · exact absurd hsg (by omega)
      · exact absurd (show -100000 ≤ n ∧ n ≤ 100000 by omega) hbig
    · have HVD := hid hvd
      subst hx2
      clear hvd HV
      obtain ⟨_, _, _, fx0, fx1, fx2, _⟩ := HXQ.out.facts
      have fe := HEQ.out.frozen
      have ce := HEQ.out.cell
      obtain ⟨cx0, cx1, cx2, _⟩ := HXQ.out.facts
      have HRT := hid (ret_two (x0 := 0) (x1 := 0) (x2 := 0) (er := 30) HXQ.out HEQ.out (by omega) HBQ.out (by omega) (by omega))
      gi_wp2
      obtain ⟨rx0, rx1, rx2, _⟩ := HRT.out.1.facts
      have re := HRT.out.2.1.cell
      refine ⟨_, by (simp only [results, Tryd.results10]; simp [go_sem, rx0, rx1, rx2, re]; try rfl), ?_⟩
      exact ⟨⟨(0, 0, 0), 30, rfl, .inr ⟨A, HAA.out, .inl ⟨HVD.out, rfl, rfl⟩⟩⟩, HRT.out.2.2⟩
  · have hst := run_shSt (wk' := fun _ => false) (v' := .slice none 0 0) (SZ.new w3) rfl
    have BN := hid (new_put (w := w3) (wk := fun _ => false) (v := .slice none 0 0) (o := .cells #[.bool false, .bool false, .bool false, .bool false, .bool false, .bool false, .bool false, .slice none 0 0] 46))
    have HAA := hid hA
    generalize putS (w3.alloc (.cells #[.bool false, .bool false, .bool false, .bool false, .bool false, .bool false, .bool false, .slice none 0 0] 46)) w3.heap.size (fun _ => false) (.slice none 0 0) = wS at *
    have HB4 := hid (HB3.out.trans (BN.out.mono HB3.out.size))
    have HXQ := hid (HX3.out.later BN.out)
    have HEQ := hid (show EBox wS (w.heap.size + 1 + 1 + 1) 0 from (BN.out.block _ HE3.out.lt).trans HE3.out)
    clear hA
    have HBQ := HB4
    obtain ⟨_, _, _, fx0, fx1, fx2, _⟩ := HXQ.out.facts
    have fe := HEQ.out.frozen
    have ce := HEQ.out.cell
    obtain ⟨cx0, cx1, cx2, _⟩ := HXQ.out.facts
    have HRT := hid (ret_two (x0 := 0) (x1 := 0) (x2 := 0) (er := 36) HXQ.out HEQ.out (by omega) HBQ.out (by omega) (by omega))
    gi_wp2
    obtain ⟨rx0, rx1, rx2, _⟩ := HRT.out.1.facts
    have re := HRT.out.2.1.cell
    refine ⟨_, by (simp only [results, Tryd.results10]; simp [go_sem, rx0, rx1, rx2, re]; try rfl), ?_⟩
    exact ⟨⟨(0, 0, 0), 36, rfl, .inl ⟨HAA.out, rfl, rfl⟩⟩, HRT.out.2.2⟩
end Go.Proofs.YtipgmiblphfboaaDoor
