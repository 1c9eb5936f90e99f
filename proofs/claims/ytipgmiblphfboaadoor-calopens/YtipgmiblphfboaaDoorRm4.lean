/-
  The document's rules: Move.
-/
import Derived.Test.YtipgmiblphfboaaDoorRm3
import Derived.Deep.LoopGhost
namespace Go.Proofs.YtipgmiblphfboaaDoor
open Go.RowKit
set_option maxRecDepth 100000
attribute [local go_sem ↓] rlLd_op

/-- what Move leans on: the rule, the day, the answer's day, no day -/
def MV (w0 : World) (wk : Nat → Bool) (v1 v2 : Value) (y m d : Int) (w : World) : Prop := RZ w w0.heap.size wk v1 v2 ∧ Box w (w0.heap.size + 1) y m d ∧ Box w (w0.heap.size + 1 + 1) 0 0 0 ∧ Box w (w0.heap.size + 1 + 1 + 1) 0 0 0 ∧ Below w0.heap.size w0 w
theorem MV.later {w0 w w' : World} {wk : Nat → Bool} {v1 v2 : Value} {y m d : Int} (h : MV w0 wk v1 v2 y m d w) (hb : Below w.heap.size w w') : MV w0 wk v1 v2 y m d w' := ⟨h.1.later hb, h.2.1.later hb, h.2.2.1.later hb, h.2.2.2.1.later hb, h.2.2.2.2.trans (hb.mono h.2.2.2.2.size)⟩
theorem putX_below {w0 w : World} {B b : Nat} {x y z : Value} (h : Below B w0 w) (hb : B ≤ b) : Below B w0 (((w.setCell ⟨b, 0, none⟩ x).setCell ⟨b, 1, none⟩ y).setCell ⟨b, 2, none⟩ z) := ((h.setCell hb _).setCell hb _).setCell hb _
theorem mid_in {a b : Int} (h : 0 ≤ a) (hab : a < b) : (a + b).tdiv 2 = (a + b) / 2 ∧ a ≤ (a + b) / 2 ∧ (a + b) / 2 < b := by
  rw [Int.tdiv_eq_ediv_of_nonneg (by omega)]
  omega
theorem mid_up {a b : Int} (h : 0 ≤ a) (hab : a < b) : (a + b + 1).tdiv 2 = (a + b + 1) / 2 ∧ a < (a + b + 1) / 2 ∧ (a + b + 1) / 2 ≤ b := by
  rw [Int.tdiv_eq_ediv_of_nonneg (by omega)]
  omega

set_option maxHeartbeats 4000000 in
theorem refMove_any (wk : Nat → Bool) (D E : List (Int × Int × Int)) (v1 v2 : Value) (y m d n : Int) (w : World) (h1 : RL eD 3 w v1 D) (h2 : RL eD 3 w v2 E) :
    Calls Tryd.prog 21 #[rlV wk v1 v2, dV y m d, .int .i64 n] w fun e w' => (∃ X er, e = .returned (.tuple #[dV X.1 X.2.1 X.2.2, .int .i64 er]) ∧ MovR wk D E y m d n X er) ∧ Below w.heap.size w w' := by
  obtain ⟨W4, hW4⟩ : ∃ W4, (((w.alloc (.cells (rlC wk v1 v2) 26)).alloc (.cells #[.int .i64 y, .int .i64 m, .int .i64 d] 33)).alloc (.cells #[.int .i64 0, .int .i64 0, .int .i64 0] 33)).alloc (.cells #[.int .i64 0, .int .i64 0, .int .i64 0] 33) = W4 := ⟨_, rfl⟩
  have hB4 : Below w.heap.size w W4 := by
    rw [← hW4]
    exact ((((Below.refl _ _).alloc (Nat.le_refl _) _).alloc (by simp) _).alloc (by simp; omega) _).alloc (by simp; omega) _
  have hR : RZ W4 w.heap.size wk v1 v2 := by
    rw [← hW4]
    exact ((alloc_below _ _).block _ (by simp; omega)).trans (((alloc_below _ _).block _ (by simp; omega)).trans (((alloc_below _ _).block _ (by simp)).trans (heap_alloc_new _ _)))
  have hD : Box W4 (w.heap.size + 1) y m d := by
    rw [← hW4]
    have h := Box.new (w.alloc (.cells (rlC wk v1 v2) 26)) y m d
    rw [World.size_alloc] at h
    exact (h.later (alloc_below _ _)).later (alloc_below _ _)
  have hX : Box W4 (w.heap.size + 1 + 1) 0 0 0 := by
    rw [← hW4]
    have h := Box.new ((w.alloc (.cells (rlC wk v1 v2) 26)).alloc (.cells #[.int .i64 y, .int .i64 m, .int .i64 d] 33)) 0 0 0
    simp only [World.size_alloc] at h
    exact h.later (alloc_below _ _)
  have hE : Box W4 (w.heap.size + 1 + 1 + 1) 0 0 0 := by
    rw [← hW4]
    have h := Box.new (((w.alloc (.cells (rlC wk v1 v2) 26)).alloc (.cells #[.int .i64 y, .int .i64 m, .int .i64 d] 33)).alloc (.cells #[.int .i64 0, .int .i64 0, .int .i64 0] 33)) 0 0 0
    simp only [World.size_alloc] at h
    exact h
  have hld := run_rlLd hR
  have HM0 := hid (show MV w wk v1 v2 y m d W4 from ⟨hR, hD, hX, hE, hB4⟩)
  clear hB4 hR hD hX hE
  have H1 := hid h1
  have H2 := hid h2
  have RA := hid (fun wx (h : Below w.heap.size w wx) => right_any wk D E v1 v2 wx (H1.out.below h) (H2.out.below h))
  have DA := hid (fun wx => refDays_any y m d wx)
  have OA := hid (fun A hA n hn wx (h : Below w.heap.size w wx) => refopen_any wk D E A hA v1 v2 n hn wx (H1.out.below h) (H2.out.below h))
  have TA := hid (fun A hA a b ha hab hb wx (h : Below w.heap.size w wx) => between_any wk D E A hA v1 v2 a b ha hab hb wx (H1.out.below h) (H2.out.below h))
  clear h1 h2
  rw [← hW4] at hld
  have HW4 := hid hW4
  clear hW4
  unfold rlV dV at *
  unfold rlC at HW4 RA OA TA hld ⊢
  go_enter Tryd.func21, Tryd.ntmps21
  go_wp2_with fail
  rw [HW4.out]
  refine (RA.out _ HM0.out.2.2.2.2).mono ?_
  rintro e w1 ⟨⟨rfl, hA⟩ | ⟨rfl, hN⟩, hb1⟩
  · obtain ⟨A, hA⟩ := hA
    have HA := hid hA
    have HM1 := hid (HM0.out.later hb1)
    obtain ⟨d0, d1, d2, _⟩ := HM1.out.2.1.facts
    clear hA hb1 hld HW4 HM0
    go_wp2_with fail
    refine (DA.out _).mono ?_
    rintro e w2 ⟨rfl, hb2⟩
    have HM2 := hid (HM1.out.later hb2)
    clear hb2 HM1 d0 d1 d2
    obtain ⟨a, hx1⟩ : ∃ x1, (if VD y m d then nb y m d else 0) = x1 := ⟨_, rfl⟩
    obtain ⟨x2, hx2⟩ : ∃ x2, (if VD y m d then (0 : Int) else 30) = x2 := ⟨_, rfl⟩
    rw [hx1, hx2]
    by_cases hv : VD y m d
    · rw [if_pos hv] at hx1 hx2
      subst hx2
      have ha := nb_range y m d hv
      rw [hx1] at ha
      have HV := hid hv
      have HX1 := hid hx1
      clear hv hx1
      by_cases hb1 : n < -100000
      · obtain ⟨n0, n1, n2, _⟩ := HM2.out.2.2.2.1.facts
        obtain ⟨x0, x1, x2, f0, f1, f2, _⟩ := HM2.out.2.2.1.facts
        obtain ⟨p0, p1, p2, _⟩ := (HM2.out.2.2.1.put 0 0 0).facts
        go_wp2
        refine bodyPost_ret (by simp [results, Tryd.results21, go_sem, p0, p1, p2]; try rfl) rfl ?_
        exact ⟨⟨(0, 0, 0), 2, rfl, .inr ⟨A, HA.out, .inr ⟨HV.out, .inl ⟨by omega, rfl, rfl⟩⟩⟩⟩, putX_below HM2.out.2.2.2.2 (by omega)⟩
      · by_cases hb2 : 100000 < n
        · obtain ⟨n0, n1, n2, _⟩ := HM2.out.2.2.2.1.facts
          obtain ⟨x0, x1, x2, f0, f1, f2, _⟩ := HM2.out.2.2.1.facts
          obtain ⟨p0, p1, p2, _⟩ := (HM2.out.2.2.1.put 0 0 0).facts
          go_wp2
          refine bodyPost_ret (by simp [results, Tryd.results21, go_sem, p0, p1, p2]; try rfl) rfl ?_
          exact ⟨⟨(0, 0, 0), 2, rfl, .inr ⟨A, HA.out, .inr ⟨HV.out, .inl ⟨by omega, rfl, rfl⟩⟩⟩⟩, putX_below HM2.out.2.2.2.2 (by omega)⟩
        · by_cases hn0 : n = 0
          · subst hn0
            have hld := run_rlLd HM2.out.1
            have OB := hid (OA.out A HA.out a ha _ HM2.out.2.2.2.2)
            unfold rlC at hld
            go_wp2_with fail
            refine OB.out.mono ?_
            rintro e w3 ⟨rfl, hb3⟩
            have HM3 := hid (HM2.out.later hb3)
            clear hb3 hld HM2 OB
            by_cases hop : isOp wk A a = true
            · rw [hop]
              obtain ⟨n0, n1, n2, _⟩ := HM3.out.2.1.facts
              obtain ⟨x0, x1, x2, f0, f1, f2, _⟩ := HM3.out.2.2.1.facts
              obtain ⟨p0, p1, p2, _⟩ := (HM3.out.2.2.1.put y m d).facts
              go_wp2
              refine bodyPost_ret (by simp [results, Tryd.results21, go_sem, p0, p1, p2]; try rfl) rfl ?_
              exact ⟨⟨(y, m, d), 0, rfl, .inr ⟨A, HA.out, .inr ⟨HV.out, .inr (.inl ⟨rfl, .inl ⟨by rw [HX1.out]; exact hop, rfl, rfl⟩⟩)⟩⟩⟩, putX_below HM3.out.2.2.2.2 (by omega)⟩
            · have hop2 : isOp wk A a = false := by simpa using hop
              rw [hop2]
              obtain ⟨n0, n1, n2, _⟩ := HM3.out.2.2.2.1.facts
              obtain ⟨x0, x1, x2, f0, f1, f2, _⟩ := HM3.out.2.2.1.facts
              obtain ⟨p0, p1, p2, _⟩ := (HM3.out.2.2.1.put 0 0 0).facts
              go_wp2
              refine bodyPost_ret (by simp [results, Tryd.results21, go_sem, p0, p1, p2]; try rfl) rfl ?_
              exact ⟨⟨(0, 0, 0), 37, rfl, .inr ⟨A, HA.out, .inr ⟨HV.out, .inr (.inl ⟨rfl, .inr ⟨by rw [HX1.out]; exact hop2, rfl, rfl⟩⟩)⟩⟩⟩, putX_below HM3.out.2.2.2.2 (by omega)⟩
          · have hn0' : (n == 0) = false := by simp [hn0]
            by_cases hpos : 0 < n
            · obtain ⟨c0, hc0⟩ : ∃ c0 : Int, (cntO wk A (a + 1) 3652425 : Int) = c0 := ⟨_, rfl⟩
              have TB := hid (TA.out A HA.out (a + 1) 3652425 (by omega) (by omega) (by omega) _ HM2.out.2.2.2.2)
              rw [hc0] at TB
              have HC0 := hid hc0
              have hld := run_rlLd HM2.out.1
              unfold rlC at hld
              clear hc0
              go_wp2_with fail
              refine TB.out.mono ?_
              rintro e w3 ⟨rfl, hb3⟩
              have HM3 := hid (HM2.out.later hb3)
              clear hb3 hld HM2 TB
              by_cases hlt : c0 < n
              · obtain ⟨n0, n1, n2, _⟩ := HM3.out.2.2.2.1.facts
                obtain ⟨x0, x1, x2, f0, f1, f2, _⟩ := HM3.out.2.2.1.facts
                obtain ⟨p0, p1, p2, _⟩ := (HM3.out.2.2.1.put 0 0 0).facts
                go_wp2
                refine bodyPost_ret (by simp [results, Tryd.results21, go_sem, p0, p1, p2]; try rfl) rfl ?_
                exact ⟨⟨(0, 0, 0), 35, rfl, movR_upno HA.out HV.out HX1.out hpos (by omega) (by rw [HC0.out]; exact hlt)⟩, putX_below HM3.out.2.2.2.2 (by omega)⟩
              · have hmx : a + 1 ≤ 3652424 := by
                  apply Int.not_lt.1
                  intro h
                  have h1 := cntO_none wk A (a + 1) 3652425 (by omega)
                  have h2 := HC0.out
                  omega
                go_wp2
                go_loopg [12, 13] 3652424 (fun g s12 s13 wr => ∃ lo hi : Int, a + 1 ≤ lo ∧ lo ≤ hi ∧ hi ≤ 3652424 ∧ hi - lo ≤ (g : Int) ∧ s12 = .int .i64 lo ∧ s13 = .int .i64 hi ∧ Hid ((cntO wk A (a + 1) lo : Int) < n ∧ n ≤ cntO wk A (a + 1) (hi + 1)) ∧ Hid (MV w wk v1 v2 y m d wr))
                case atStart => exact ⟨a + 1, 3652424, by omega, hmx, by omega, by omega, by first | rfl | go_num, rfl, hid ⟨by rw [cntO_none _ _ _ _ (Int.le_refl _)]; omega, by rw [show (3652424 + 1 : Int) = 3652425 from rfl, HC0.out]; omega⟩, HM3⟩
                case round =>
                  obtain ⟨lo, hi, h1, h2, h3, h4, rfl, rfl, HI, HMr⟩ := hrel
                  clear HM3 HC0 hlt hmx
                  by_cases hlh : lo < hi
                  · obtain ⟨e1, e2, e3⟩ := mid_in (a := lo) (b := hi) (by omega) hlh
                    obtain ⟨mm, hmm⟩ : ∃ mm, (lo + hi) / 2 = mm := ⟨_, rfl⟩
                    rw [hmm] at e1 e2 e3
                    have TB := hid (TA.out A HA.out (a + 1) (mm + 1) (by omega) (by omega) (by omega) _ HMr.out.2.2.2.2)
                    obtain ⟨c1, hc1⟩ : ∃ c1 : Int, (cntO wk A (a + 1) (mm + 1) : Int) = c1 := ⟨_, rfl⟩
                    rw [hc1] at TB
                    have HC1 := hid hc1
                    have hld := run_rlLd HMr.out.1
                    unfold rlC at hld
                    clear hc1 hmm
                    go_wp2_with fail
                    refine TB.out.mono ?_
                    rintro e w4 ⟨rfl, hb4⟩
                    have HM4 := hid (HMr.out.later hb4)
                    clear hb4 hld HMr TB e1
                    by_cases hge : n ≤ c1
                    · go_wp2
                      go_roundg (gk - 1)
                      case measure => omega
                      case rel => exact ⟨lo, mm, h1, e2, by omega, by omega, rfl, rfl, hid ⟨HI.out.1, by rw [HC1.out]; exact hge⟩, HM4⟩
                    · go_wp2
                      go_roundg (gk - 1)
                      case measure => omega
                      case rel => exact ⟨mm + 1, hi, by omega, by omega, h3, by omega, by first | rfl | go_num, rfl, hid ⟨by rw [HC1.out]; omega, HI.out.2⟩, HM4⟩
                  · have hlo : lo = hi := by omega
                    subst hlo
                    have HF := hid (movR_up HA.out HV.out HX1.out hpos (by omega) lo h1 h3 HI.out.1 HI.out.2)
                    have HT := hid (fun wx => refDate_any lo (by omega) (by omega) wx)
                    clear HI
                    generalize dY lo = ty at *
                    generalize dM lo = tm at *
                    generalize dD lo = td at *
                    unfold dV at HT
                    go_wp2_with fail
                    refine (HT.out _).mono ?_
                    rintro e w4 ⟨rfl, hb4⟩
                    have HM4 := hid (HMr.out.later hb4)
                    clear hb4 HMr HT
                    obtain ⟨x0, x1, x2, f0, f1, f2, _⟩ := HM4.out.2.2.1.facts
                    obtain ⟨p0, p1, p2, _⟩ := (HM4.out.2.2.1.put ty tm td).facts
                    go_wp2
                    refine bodyPost_ret (by simp [results, Tryd.results21, go_sem, p0, p1, p2]; try rfl) rfl ?_
                    exact ⟨⟨(ty, tm, td), 0, rfl, HF.out⟩, putX_below HM4.out.2.2.2.2 (by omega)⟩
            · have hneg : n < 0 := by omega
              obtain ⟨c0, hc0⟩ : ∃ c0 : Int, (cntO wk A 0 a : Int) = c0 := ⟨_, rfl⟩
              have TB := hid (TA.out A HA.out 0 a (by omega) (by omega) (by omega) _ HM2.out.2.2.2.2)
              rw [hc0] at TB
              have HC0 := hid hc0
              have hld := run_rlLd HM2.out.1
              unfold rlC at hld
              clear hc0
              go_wp2_with fail
              refine TB.out.mono ?_
              rintro e w3 ⟨rfl, hb3⟩
              have HM3 := hid (HM2.out.later hb3)
              clear hb3 hld HM2 TB
              by_cases hlt : c0 < -n
              · obtain ⟨n0, n1, n2, _⟩ := HM3.out.2.2.2.1.facts
                obtain ⟨x0, x1, x2, f0, f1, f2, _⟩ := HM3.out.2.2.1.facts
                obtain ⟨p0, p1, p2, _⟩ := (HM3.out.2.2.1.put 0 0 0).facts
                go_wp2
                refine bodyPost_ret (by simp [results, Tryd.results21, go_sem, p0, p1, p2]; try rfl) rfl ?_
                exact ⟨⟨(0, 0, 0), 35, rfl, movR_dnno HA.out HV.out HX1.out hneg (by omega) (by rw [HC0.out]; exact hlt)⟩, putX_below HM3.out.2.2.2.2 (by omega)⟩
              · have hmx : 1 ≤ a := by
                  apply Int.not_lt.1
                  intro h
                  have h1 := cntO_none wk A 0 a (by omega)
                  have h2 := HC0.out
                  omega
                go_wp2
                go_loopg [15, 16] 3652424 (fun g s15 s16 wr => ∃ lo hi : Int, 0 ≤ lo ∧ lo ≤ hi ∧ hi ≤ a - 1 ∧ hi - lo ≤ (g : Int) ∧ s15 = .int .i64 lo ∧ s16 = .int .i64 hi ∧ Hid ((cntO wk A (hi + 1) a : Int) < -n ∧ -n ≤ cntO wk A lo a) ∧ Hid (MV w wk v1 v2 y m d wr))
                case atStart => exact ⟨0, a - 1, by omega, by omega, by omega, by omega, rfl, by first | rfl | go_num, hid ⟨by rw [show a - 1 + 1 = a by omega, cntO_none _ _ _ _ (Int.le_refl _)]; omega, by rw [HC0.out]; omega⟩, HM3⟩
                case round =>
                  obtain ⟨lo, hi, h1, h2, h3, h4, rfl, rfl, HI, HMr⟩ := hrel
                  clear HM3 HC0 hlt hmx
                  by_cases hlh : lo < hi
                  · obtain ⟨e1, e2, e3⟩ := mid_up (a := lo) (b := hi) (by omega) hlh
                    obtain ⟨mm, hmm⟩ : ∃ mm, (lo + hi + 1) / 2 = mm := ⟨_, rfl⟩
                    rw [hmm] at e1 e2 e3
                    have TB := hid (TA.out A HA.out mm a (by omega) (by omega) (by omega) _ HMr.out.2.2.2.2)
                    obtain ⟨c1, hc1⟩ : ∃ c1 : Int, (cntO wk A mm a : Int) = c1 := ⟨_, rfl⟩
                    rw [hc1] at TB
                    have HC1 := hid hc1
                    have hld := run_rlLd HMr.out.1
                    unfold rlC at hld
                    clear hc1 hmm
                    go_wp2_with fail
                    refine TB.out.mono ?_
                    rintro e w4 ⟨rfl, hb4⟩
                    have HM4 := hid (HMr.out.later hb4)
                    clear hb4 hld HMr TB e1
                    by_cases hge : -n ≤ c1
                    · go_wp2
                      go_roundg (gk - 1)
                      case measure => omega
                      case rel => exact ⟨mm, hi, by omega, e3, h3, by omega, rfl, rfl, hid ⟨HI.out.1, by rw [HC1.out]; exact hge⟩, HM4⟩
                    · go_wp2
                      go_roundg (gk - 1)
                      case measure => omega
                      case rel => exact ⟨lo, mm - 1, h1, by omega, by omega, by omega, rfl, by first | rfl | go_num, hid ⟨by rw [show mm - 1 + 1 = mm by omega, HC1.out]; omega, HI.out.2⟩, HM4⟩
                  · have hlo : lo = hi := by omega
                    subst hlo
                    have HF := hid (movR_dn HA.out HV.out HX1.out hneg (by omega) lo (by omega) h1 HI.out.1 HI.out.2)
                    have HT := hid (fun wx => refDate_any lo (by omega) (by omega) wx)
                    clear HI
                    generalize dY lo = ty at *
                    generalize dM lo = tm at *
                    generalize dD lo = td at *
                    unfold dV at HT
                    go_wp2_with fail
                    refine (HT.out _).mono ?_
                    rintro e w4 ⟨rfl, hb4⟩
                    have HM4 := hid (HMr.out.later hb4)
                    clear hb4 HMr HT
                    obtain ⟨x0, x1, x2, f0, f1, f2, _⟩ := HM4.out.2.2.1.facts
                    obtain ⟨p0, p1, p2, _⟩ := (HM4.out.2.2.1.put ty tm td).facts
                    go_wp2
                    refine bodyPost_ret (by simp [results, Tryd.results21, go_sem, p0, p1, p2]; try rfl) rfl ?_
                    exact ⟨⟨(ty, tm, td), 0, rfl, HF.out⟩, putX_below HM4.out.2.2.2.2 (by omega)⟩
    · rw [if_neg hv] at hx2
      subst hx2
      have HV := hid hv
      clear hv hx1
      obtain ⟨n0, n1, n2, _⟩ := HM2.out.2.2.2.1.facts
      obtain ⟨x0, x1, x2, f0, f1, f2, _⟩ := HM2.out.2.2.1.facts
      obtain ⟨p0, p1, p2, _⟩ := (HM2.out.2.2.1.put 0 0 0).facts
      go_wp2
      refine bodyPost_ret (by simp [results, Tryd.results21, go_sem, p0, p1, p2]; try rfl) rfl ?_
      exact ⟨⟨(0, 0, 0), 30, rfl, .inr ⟨A, HA.out, .inl ⟨HV.out, rfl, rfl⟩⟩⟩, putX_below HM2.out.2.2.2.2 (by omega)⟩
  · have HN := hid hN
    have HM1 := hid (HM0.out.later hb1)
    clear hN hb1 hld HW4 HM0
    obtain ⟨n0, n1, n2, _⟩ := HM1.out.2.2.2.1.facts
    obtain ⟨x0, x1, x2, f0, f1, f2, _⟩ := HM1.out.2.2.1.facts
    obtain ⟨p0, p1, p2, _⟩ := (HM1.out.2.2.1.put 0 0 0).facts
    go_wp2
    refine bodyPost_ret (by simp [results, Tryd.results21, go_sem, p0, p1, p2]; try rfl) rfl ?_
    exact ⟨⟨(0, 0, 0), 36, rfl, .inl ⟨HN.out, rfl, rfl⟩⟩, putX_below HM1.out.2.2.2.2 (by omega)⟩
end Go.Proofs.YtipgmiblphfboaaDoor
