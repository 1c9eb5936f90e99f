/-
  Move, back.
-/
import Derived.Test.YtipgmiblphfboaaDoorShp
namespace Go.Proofs.YtipgmiblphfboaaDoor
open Go.RowKit Go.Shelf
set_option maxRecDepth 100000
attribute [local go_sem] Oper.semAt_some
attribute [local go_sem ↓] shLd_op shSt_op rlLd_op

set_option maxHeartbeats 40000000 in
theorem move_back (wk : Nat → Bool) (D E : List (Int × Int × Int)) (v1 v2 : Value) (y m d n : Int) (hsg : n < 0) (w : World) (h1 : RL eD 3 w v1 D) (h2 : RL eD 3 w v2 E) (hA : HasAh w) :
    Calls Tryd.prog 10 #[rlV wk v1 v2, dV y m d, .int .i64 n] w fun e w' => (∃ X er, e = .returned (.tuple #[dV X.1 X.2.1 X.2.2, .int .i64 er]) ∧ MovR wk D E y m d n X er) ∧ Below w.heap.size w w' := by
  obtain ⟨W4, hW4⟩ : ∃ W4, (((w.alloc (.cells (rlC wk v1 v2) 26)).alloc (.cells #[.int .i64 y, .int .i64 m, .int .i64 d] 33)).alloc (.cells #[.int .i64 0, .int .i64 0, .int .i64 0] 33)).alloc (.cells #[.int .i64 0] 29) = W4 := ⟨_, rfl⟩
  have hB4 : Below w.heap.size w W4 := by
    rw [← hW4]
    exact ((((Below.refl _ _).alloc (Nat.le_refl _) _).alloc (by simp) _).alloc (by simp; omega) _).alloc (by simp; omega) _
  have hz4 : W4.heap.size = w.heap.size + 4 := by rw [← hW4]; simp
  have hR : RZ W4 w.heap.size wk v1 v2 := by
    rw [← hW4]
    exact ((alloc_below _ _).block _ (by simp; omega)).trans (((alloc_below _ _).block _ (by simp; omega)).trans (((alloc_below _ _).block _ (by simp)).trans (heap_alloc_new _ _)))
  have hD : Box W4 (w.heap.size + 1) y m d := by
    rw [← hW4]
    have h := Box.new (w.alloc (.cells (rlC wk v1 v2) 26)) y m d
    rw [World.size_alloc] at h
    exact (h.later (alloc_below _ _)).later (alloc_below _ _)
  have hX : Box W4 (w.heap.size + 1 + 1) 0 0 0 := by
    rw [← hW4]
    have h := Box.new ((w.alloc (.cells (rlC wk v1 v2) 26)).alloc (.cells #[.int .i64 y, .int .i64 m, .int .i64 d] 33)) 0 0 0
    simp only [World.size_alloc] at h
    exact h.later (alloc_below _ _)
  have hE : EBox W4 (w.heap.size + 1 + 1 + 1) 0 := by
    rw [← hW4]
    have h := Boxed.new (((w.alloc (.cells (rlC wk v1 v2) 26)).alloc (.cells #[.int .i64 y, .int .i64 m, .int .i64 d] 33)).alloc (.cells #[.int .i64 0, .int .i64 0, .int .i64 0] 33)) 29 (.int .i64 0)
    simp only [World.size_alloc] at h
    exact h
  have HS := hid (shopOn_any wk D E v1 v2 y m d W4 (h1.below hB4) (h2.below hB4) (hA.below hB4))
  have hld := run_rlLd hR
  obtain ⟨d0, d1, d2, _⟩ := hD.facts
  have HB := hid hB4
  have HD := hid hD
  have HX := hid hX
  have HE0 := hid hE
  have HA := hid hA
  have HG : 1 < w.heap.size := hA.lt
  obtain ⟨x1, hx1⟩ : ∃ x1, (if VD y m d then nb y m d else 0) = x1 := ⟨_, rfl⟩
  obtain ⟨x2, hx2⟩ : ∃ x2, (if VD y m d then (0 : Int) else 30) = x2 := ⟨_, rfl⟩
  rw [hx1, hx2] at HS
  have hv : (VD y m d ∧ x1 = nb y m d ∧ x2 = 0) ∨ (¬ VD y m d ∧ x2 = 30) := by
    by_cases h : VD y m d
    · rw [if_pos h] at hx1 hx2; exact .inl ⟨h, hx1.symm, hx2.symm⟩
    · rw [if_neg h] at hx1 hx2; exact .inr ⟨h, hx2.symm⟩
  have HV := hid hv
  clear h1 h2 hA hR hD hX hE hB4 hx1 hx2 hv
  unfold rlV dV
  unfold rlC at hW4 ⊢
  unfold rlV dV rlC shV shC at HS
  refine (callsIn_wide (n := 5)).1 ?_
  refine callsIn_of_wp_marks Tryd.func10 rfl trivial ?_ rfl
  simp only [Tryd.ntmps10, List.size_toArray, List.length_cons, List.length_nil, Nat.reduceAdd, Nat.reduceSub, Array.replicate_succ, Array.replicate_zero, List.push_toArray, List.append_toArray, List.nil_append, List.cons_append]
  gi_wp2_with fail
  refine ⟨trivial, ?_⟩
  refine (callsIn_wide.2 HS.out).mono ?_
  rintro e w3 ⟨hres, hb3⟩
  have HB3 := hid (HB.out.trans (hb3.mono HB.out.size))
  have HD3 := hid (HD.out.later hb3)
  have HX3 := hid (HX.out.later hb3)
  have HE3 := hid (show EBox w3 (w.heap.size + 1 + 1 + 1) 0 from (hb3.block _ HE0.out.lt).trans HE0.out)
  have hz3 : w.heap.size + 4 ≤ w3.heap.size := by have := hb3.size; omega
  clear hb3 hld d0 d1 d2 hW4 HS HB HD HX HE0
  rcases hres with ⟨A, ad, cap, hA, hl, rfl, hr⟩ | ⟨hA, rfl⟩
  · have hst := run_shSt (wk' := wk) (v' := .slice (some ad) A.length cap) (SZ.new w3) rfl
    have HSZ := hid ((SZ.new w3).put wk (.slice (some ad) A.length cap))
    have BN := hid (new_put (w := w3) (wk := wk) (v := .slice (some ad) A.length cap) (o := .cells #[.bool false, .bool false, .bool false, .bool false, .bool false, .bool false, .bool false, .slice none 0 0] 46))
    have HAA := hid hA
    have HR := hid hr
    have hzS : (putS (w3.alloc (.cells #[.bool false, .bool false, .bool false, .bool false, .bool false, .bool false, .bool false, .slice none 0 0] 46)) w3.heap.size wk (.slice (some ad) A.length cap)).heap.size = w3.heap.size + 1 := by simp
    generalize putS (w3.alloc (.cells #[.bool false, .bool false, .bool false, .bool false, .bool false, .bool false, .bool false, .slice none 0 0] 46)) w3.heap.size wk (.slice (some ad) A.length cap) = wS at *
    have HBQ := hid (HB3.out.trans (BN.out.mono HB3.out.size))
    have HD4 := hid (HD3.out.later BN.out)
    have HXQ := hid (HX3.out.later BN.out)
    have HEQ := hid (show EBox wS (w.heap.size + 1 + 1 + 1) 0 from (BN.out.block _ HE3.out.lt).trans HE3.out)
    have HRS := hid (HR.out.below BN.out)
    clear hA hr HR HX3 HE3 HD3 HB3
    rcases HV.out with ⟨hvd, hx1, hx2⟩ | ⟨hvd, hx2⟩
    · have HVD := hid hvd
      have HN := hid hx1
      subst hx2
      have hr1 : 0 ≤ x1 ∧ x1 ≤ 3652424 := by rw [hx1]; exact nb_range _ _ _ hvd
      clear hvd hx1 HV
      have HUP := hid (rlA_up HAA.out)
      by_cases hbig : -100000 ≤ n ∧ n ≤ 100000
      · have hb1 : ¬ n < -100000 := by omega
        have hb2 : ¬ 100000 < n := by omega
        rcases (show n = 0 ∨ 0 < n ∨ n < 0 by omega) with hn0 | hn0 | hn0
        · exact absurd hsg (by omega)
        · exact absurd hsg (by omega)
        · have hnn0 : n < 0 := by omega
          have hne0 : ¬ n = 0 := by omega
          have CD := hid (dateOf_any 3652424 (by omega) (by omega) wS (HA.out.below HBQ.out))
          have EV := dt_is 0 (by omega)
          have CD0 := hid (fun w h => dateOf_any 0 (by omega) (by omega) w h)
          generalize dY 3652424 = ey0 at *
          generalize dM 3652424 = em0 at *
          generalize dD 3652424 = ed0 at *
          generalize dY 0 = ey at *
          generalize dM 0 = em at *
          generalize dD 0 = ed at *
          unfold dV at CD0
          have HEV := hid EV
          clear EV
          unfold dV at CD
          gi_wp2_with fail
          refine ⟨trivial, ?_⟩
          refine (callsIn_wide.2 CD.out).mono ?_
          rintro e w5 ⟨rfl, hb5⟩
          have hz5 : wS.heap.size ≤ w5.heap.size := hb5.size
          obtain ⟨w7, hw7⟩ : ∃ w7, (w5.alloc (.cells #[.int .i64 n] 3)).alloc (.cells #[.int .i64 ey0, .int .i64 em0, .int .i64 ed0] 33) = w7 := ⟨_, rfl⟩
          have b57 : Below w5.heap.size w5 w7 := by rw [← hw7]; exact (alloc_below _ _).alloc (by simp) _
          have b7 := hb5.trans (b57.mono hb5.size)
          have HC7 := hid (show IBox w7 w5.heap.size n by
            rw [← hw7]
            exact IBox.later (show IBox (w5.alloc (.cells #[.int .i64 n] 3)) w5.heap.size n from heap_alloc_new _ _) (alloc_below _ _))
          have HN7 := hid (show Box w7 (w5.heap.size + 1) ey0 em0 ed0 by
            rw [← hw7]
            have h := Box.new (w5.alloc (.cells #[.int .i64 n] 3)) ey0 em0 ed0
            rw [World.size_alloc] at h
            exact h)
          have hz7 : w7.heap.size = w5.heap.size + 2 := by rw [← hw7]; simp
          have C8 := hid (CD0.out w7 (HA.out.below (HBQ.out.trans (b7.mono HBQ.out.size))))
          clear hb5 b57
          gi_wp2_with fail
          refine ⟨trivial, ?_⟩
          refine (callsIn_wide.2 C8.out).mono ?_
          rintro e w8 ⟨rfl, hb8⟩
          obtain ⟨wE, hwE⟩ : ∃ wE, (((w8.setCell ⟨w5.heap.size, 0, none⟩ (.int .i64 (-n))).setCell ⟨w5.heap.size + 1, 0, none⟩ (.int .i64 ey)).setCell ⟨w5.heap.size + 1, 1, none⟩ (.int .i64 em)).setCell ⟨w5.heap.size + 1, 2, none⟩ (.int .i64 ed) = wE := ⟨_, rfl⟩
          have I8 := HC7.out.later hb8
          have N8 := HN7.out.later hb8
          have N8' : Box (w8.setCell ⟨w5.heap.size, 0, none⟩ (.int .i64 (-n))) (w5.heap.size + 1) ey0 em0 ed0 := by
            unfold Box
            rw [Below.heap_setCell _ _ _ _ (by show w5.heap.size + 1 ≠ w5.heap.size; omega)]
            exact N8
          have f8 := I8.facts.2.1
          have c8 := I8.facts.1
          obtain ⟨n80, n81, n82, g80, g81, g82, _⟩ := N8.facts
          have bE : Below wS.heap.size wS wE := by
            rw [← hwE]
            exact ((((b7.trans (hb8.mono b7.size)).setCell (by show wS.heap.size ≤ w5.heap.size; omega) _).setCell (by show wS.heap.size ≤ w5.heap.size + 1; omega) _).setCell (by show wS.heap.size ≤ w5.heap.size + 1; omega) _).setCell (by show wS.heap.size ≤ w5.heap.size + 1; omega) _
          have HCE := hid (show IBox wE w5.heap.size (-n) by
            rw [← hwE]
            unfold IBox
            rw [Below.heap_setCell _ _ _ _ (by show w5.heap.size ≠ w5.heap.size + 1; omega), Below.heap_setCell _ _ _ _ (by show w5.heap.size ≠ w5.heap.size + 1; omega), Below.heap_setCell _ _ _ _ (by show w5.heap.size ≠ w5.heap.size + 1; omega)]
            exact I8.put (-n))
          have HNE := hid (show Box wE (w5.heap.size + 1) ey em ed by rw [← hwE]; exact N8'.put ey em ed)
          have hzE : w5.heap.size + 2 ≤ wE.heap.size := by rw [← hwE]; have := hb8.size; simp; omega
          have HB8 := hid hb8
          clear hb8 I8 N8 N8'
          have HBE := hid (HBQ.out.trans (bE.mono HBQ.out.size))
          have HDE := hid (HD4.out.later bE)
          have HXE := hid (HXQ.out.later bE)
          have HEE := hid (show EBox wE (w.heap.size + 1 + 1 + 1) 0 from (bE.block _ HEQ.out.lt).trans HEQ.out)
          have hld := run_shLd (HSZ.out.later bE)
          have HC := hid (along_any wk A ad cap x1 (-1) wE (HRS.out.below bE) hl (.inr rfl))
          unfold shV shC at HC
          rw [if_pos (by omega)] at HC
          clear bE
          gi_wp2_with fail
          refine ⟨trivial, ?_⟩
          refine (callsIn_wide.2 HC.out).mono ?_
          rintro e w10 ⟨⟨gl, gd, gs, gh, rfl, l1, l2, l3, l4, hal⟩, hb10⟩
          obtain ⟨F, hF⟩ : ∃ F, Value.func (.func 30) #[] #[.pointer (some ⟨gl, 0, none⟩), .pointer (some ⟨gd, 0, none⟩), .pointer (some ⟨gs, 0, none⟩), .pointer (some ⟨gh, 0, none⟩)] = F := ⟨_, rfl⟩
          have HFF := hid hF
          obtain ⟨w11, hw11⟩ : ∃ w11, w10.alloc (.cells #[.func (.func 30) #[] #[.pointer (some ⟨gl, 0, none⟩), .pointer (some ⟨gd, 0, none⟩), .pointer (some ⟨gs, 0, none⟩), .pointer (some ⟨gh, 0, none⟩)]] 50) = w11 := ⟨_, rfl⟩
          have b11 : Below w10.heap.size w10 w11 := by rw [← hw11]; exact alloc_below _ _
          have HF11 := hid (show Boxed w11 w10.heap.size 50 F by rw [← hw11, ← hF]; exact Boxed.new _ _ _)
          have hb := hb10.trans (b11.mono hb10.size)
          have HB11 := hid (HBE.out.trans (hb.mono HBE.out.size))
          have HC11 := hid (HCE.out.later hb)
          have HD11 := hid (HDE.out.later hb)
          have HN11 := hid (HNE.out.later hb)
          have HX11 := hid (HXE.out.later hb)
          have HE11 := hid (show EBox w11 (w.heap.size + 1 + 1 + 1) 0 from (hb.block _ HEE.out.lt).trans HEE.out)
          have HAL := hid (hal.as.later b11)
          have hlt10 := hal.lt
          have hz11 : w11.heap.size = w10.heap.size + 1 := by rw [← hw11]; simp
          have hz10 : wE.heap.size ≤ w10.heap.size := hb10.size
          obtain ⟨p0, p1, p2, _⟩ := HD11.out.facts
          obtain ⟨q0, q1, q2, _⟩ := HN11.out.facts
          have CE := hid (each_any y m d ey em ed (-1) w11 (HA.out.below HB11.out))
          unfold dV at CE
          have e1 : dn y m d = x1 := by unfold dn; rw [if_pos HVD.out, HN.out]
          have e2 : dn ey em ed = 0 := by unfold dn; rw [if_pos HEV.out.1, HEV.out.2]
          have e3 : stE y m d ey em ed (-1) = -1 := by unfold stE; rw [if_pos ⟨HVD.out, HEV.out.1⟩]; decide
          rw [e1, e2, e3] at CE
          clear hF hb10 b11 hb hal hld HC HBE HDE HNE HXE HEE HCE e1 e2 e3 hst
          gi_wp2_with fail
          refine ⟨trivial, ?_⟩
          refine (callsIn_wide.2 CE.out).mono ?_
          rintro e w12 ⟨⟨g1, g2, g3, rfl, m1, m2, m3, i1, i2, i3⟩, hb12⟩
          have HC0 := hid (show CS w (w.heap.size + 1) w5.heap.size gl gd gs gh w10.heap.size g1 g2 g3 F wk (-1) A.reverse y m d x1 0 (-1) (-n) x1 w12 from
            ⟨HC11.out.later hb12, HAL.out.later hb12, (hb12.block _ HF11.out.lt).trans HF11.out, HD11.out.later hb12, i1, i2, i3, HA.out.below (HB11.out.trans (hb12.mono HB11.out.size)), HB11.out.trans (hb12.mono HB11.out.size), ⟨HG, by omega, by omega⟩, ⟨by omega, by omega, by omega, by omega⟩, ⟨by omega, by omega, by omega, by omega⟩, ⟨by omega, by omega, by omega⟩⟩)
          have HX12 := hid (HX11.out.later hb12)
          have HE12 := hid (show EBox w12 (w.heap.size + 1 + 1 + 1) 0 from (hb12.block _ HE11.out.lt).trans HE11.out)
          have hz12 : w11.heap.size ≤ w12.heap.size := hb12.size
          clear hb12 i1 i2 i3 HC11 HAL HF11 HD11 HN11 HX11 HE11 HB11 CE p0 p1 p2 q0 q1 q2 hw11
          have hnn := each_notnil (.func 32) #[] #[.pointer (some ⟨g1, 0, none⟩), .pointer (some ⟨g3, 0, none⟩), .pointer (some ⟨g2, 0, none⟩)]
          gi_wp2_with fail
          refine rangeR (px := 58) (bx := 15) (show 1 ≤ 5 by omega) rfl (enters_of Tryd.func32 (by kernel_rfl) rfl)
            (each_stops 4 (by omega) g1 g3 g2 x1 0 (-1) hr1 (by omega) (by omega) w12 HC0.out.i1 HC0.out.i2 HC0.out.i3 HC0.out.ah) KpE.trans ?kb (Below.refl _ _)
            (fun pre W => CS w (w.heap.size + 1) w5.heap.size gl gd gs gh w10.heap.size g1 g2 g3 F wk (-1) A.reverse y m d x1 0 (-1) ((-n) - ((cC (fun i => isOp wk A.reverse (x1 + i * (-1))) (fun x => !decide (dY x = y ∧ dM x = m ∧ dD x = d)) pre : Nat) : Int)) (x1 + pre.length * (-1)) W ∧ ((cC (fun i => isOp wk A.reverse (x1 + i * (-1))) (fun x => !decide (dY x = y ∧ dM x = m ∧ dD x = d)) pre : Nat) : Int) < (-n) ∧ Box W (w.heap.size + 1 + 1) 0 0 0 ∧ EBox W (w.heap.size + 1 + 1 + 1) 0)
            (fun pre W => ((cC (fun i => isOp wk A.reverse (x1 + i * (-1))) (fun x => !decide (dY x = y ∧ dM x = m ∧ dD x = d)) pre : Nat) : Int) = (-n) ∧ (∃ x p, pre = p ++ [x] ∧ Box W (w.heap.size + 1 + 1) (dY x) (dM x) (dD x) ∧ ((cC (fun i => isOp wk A.reverse (x1 + i * (-1))) (fun x => !decide (dY x = y ∧ dM x = m ∧ dD x = d)) p : Nat) : Int) < (-n)) ∧ EBox W (w.heap.size + 1 + 1 + 1) 0 ∧ Below w.heap.size w W)
            (fun s X Y row hs hg hr => ⟨hs.1.own (B := w12.heap.size) (by omega) hg hr, hs.2.1, heap_own hs.2.2.1 hg (fun r e => (hr r e).2), heap_own hs.2.2.2 hg (fun r e => (hr r e).2)⟩)
            (fun s X Y row hs hg hr => ⟨hs.1, (by
              obtain ⟨x, p, h1, h2, h3⟩ := hs.2.1
              exact ⟨x, p, h1, heap_own h2 hg (fun r e => (hr r e).2), h3⟩), heap_own hs.2.2.1 hg (fun r e => (hr r e).2), hs.2.2.2.trans ⟨hg.os, hg.tape, hg.output, hg.size, fun k hk => hg.block k (by have := hs.2.2.2.size; omega) (fun e => by have := (hr k e.symm).1; omega)⟩⟩)
            (by refine ⟨?_, ?_, HX12.out, HE12.out⟩; (simpa [cC_nil] using HC0.out); (simp [cC_nil]; omega)) ?assign ?body ?done ?stop
          case kb =>
            intro W l o o' hl hW _ _ k hk
            refine World.putObj_heap_other ?_
            have := HC0.out.i1.facts.2.2; have := HC0.out.i2.facts.2.2; have := HC0.out.i3.facts.2.2; have := HC0.out.ah.lt
            rcases hk with rfl | rfl | rfl | rfl <;> omega
          case assign =>
            rintro l pre x W K ⟨hi, hi2, hi3, hi4⟩ hK
            have HKK := hid hK
            have HI := hid hi
            have HI2 := hid hi2
            have HI3 := hid (hi3.later (alloc_below W (.cells #[.int .i64 (dY x), .int .i64 (dM x), .int .i64 (dD x)] 33)))
            have HI4 := hid (hi4.alloc (.cells #[.int .i64 (dY x), .int .i64 (dM x), .int .i64 (dD x)] 33))
            clear hK hi hi2 hi3 hi4
            unfold dV
            gi_wp2
            exact HKK.out _ _ ((KeepsOthers.alloc _ _).from _) (HI.out.kp (HI.out.later (alloc_below _ _))) ⟨HI.out.later (alloc_below _ _), HI2.out, HI3.out, HI4.out⟩ ⟨W.heap.size, Box.new W _ _ _, rfl⟩
          case body =>
            rintro l pre x Bx W ⟨hi, hi2, hi3, hi4⟩ bX hlt
            have hF := HFF.out
            subst hF
            have hpl : 0 ≤ x1 - (pre.length : Int) := by have := (cn_neg (a := x1) (b := 0) (s := -1) (by omega) pre.length).1 hlt; omega
            have HO := hid (open_dn wk A.reverse (x1 + pre.length * (-1)) gl gd gs gh W (by omega) (fun x hx => HUP.out.2.2 x (List.mem_reverse.1 hx)) HUP.out.2.1 hi.als)
            have HX := hid bX
            have HCN := hid (cC_snoc (fun i => isOp wk A.reverse (x1 + i * (-1))) (fun x => !decide (dY x = y ∧ dM x = m ∧ dD x = d)) pre x)
            obtain ⟨cn, hcn⟩ : ∃ cn : Nat, cC (fun i => isOp wk A.reverse (x1 + i * (-1))) (fun x => !decide (dY x = y ∧ dM x = m ∧ dD x = d)) pre = cn := ⟨_, rfl⟩
            rw [hcn] at hi hi2 HCN
            have HCP := hid hcn
            clear hcn
            obtain ⟨lf, hlf⟩ : ∃ lf : Int, (-n) - (cn : Int) = lf := ⟨_, rfl⟩
            rw [hlf] at hi
            have hlf1 : 1 ≤ lf := by omega
            have HLF := hid hlf
            have HI := hid hi
            have HI2 := hid hi2
            have cf := hi.fn.cell
            have HXR := hid hi3
            have HER := hid hi4
            have hlfb : lf ≤ 100000 := by omega
            clear hi hi2 hi3 hi4 bX hlf HC0 HX12 HE12
            gi_wp2_with fail
            refine ⟨trivial, ?_⟩
            refine (CallsIn.inRound l (callsIn_wide.2 HO.out)).mono ?_
            rintro e W1 ⟨rfl, has1, hk1⟩
            have H1 := hid (HI.out.step hk1 has1)
            have HK1 := hid (HI.out.keeps hk1)
            have HX1 := hid (show Box W1 Bx (dY x) (dM x) (dD x) by
              obtain ⟨_, _, _, _, ⟨v, b1, _⟩, i1, _⟩ := HI.out.als
              exact HX.out.kt hk1 b1 i1)
            obtain ⟨X0, X1, X2, hXX⟩ : ∃ X0 X1 X2, dY x = X0 ∧ dM x = X1 ∧ dD x = X2 := ⟨_, _, _, rfl, rfl, rfl⟩
            rw [hXX.1, hXX.2.1, hXX.2.2] at HX1
            have HXX := hid hXX
            have HXR1 := hid (show Box W1 (w.heap.size + 1 + 1) 0 0 0 from (hk1.block _ HXR.out.facts.2.2.2.2.2.2 (by omega) (by omega)).trans HXR.out)
            have HER1 := hid (show EBox W1 (w.heap.size + 1 + 1 + 1) 0 from (hk1.block _ HER.out.lt (by omega) (by omega)).trans HER.out)
            obtain ⟨c1, f1, _⟩ := H1.out.cnt.facts
            obtain ⟨t0, t1, t2, _⟩ := H1.out.dto.facts
            obtain ⟨u0, u1, u2, _⟩ := HX1.out.facts
            have FIN := hid (show ∀ (k : Nat) (W' : World), (if (isOp wk A.reverse (x1 + (pre.length : Int) * (-1)) && !decide (X0 = y ∧ X1 = m ∧ X2 = d)) = true then 1 else 0) = k → CS w (w.heap.size + 1) w5.heap.size gl gd gs gh w10.heap.size g1 g2 g3 (.func (.func 30) #[] #[.pointer (some ⟨gl, 0, none⟩), .pointer (some ⟨gd, 0, none⟩), .pointer (some ⟨gs, 0, none⟩), .pointer (some ⟨gh, 0, none⟩)]) wk (-1) A.reverse y m d x1 0 (-1) (lf - (k : Int)) (x1 + pre.length * (-1) + (-1)) W' → ((cC (fun i => isOp wk A.reverse (x1 + i * (-1))) (fun x => !decide (dY x = y ∧ dM x = m ∧ dD x = d)) (pre ++ [x]) : Nat) : Int) = (-n) - (lf - k) ∧ CS w (w.heap.size + 1) w5.heap.size gl gd gs gh w10.heap.size g1 g2 g3 (.func (.func 30) #[] #[.pointer (some ⟨gl, 0, none⟩), .pointer (some ⟨gd, 0, none⟩), .pointer (some ⟨gs, 0, none⟩), .pointer (some ⟨gh, 0, none⟩)]) wk (-1) A.reverse y m d x1 0 (-1) ((-n) - ((cC (fun i => isOp wk A.reverse (x1 + i * (-1))) (fun x => !decide (dY x = y ∧ dM x = m ∧ dD x = d)) (pre ++ [x]) : Nat) : Int)) (x1 + (pre ++ [x]).length * (-1)) W' from fun k W' hk h => by
              have e : cC (fun i => isOp wk A.reverse (x1 + i * (-1))) (fun x => !decide (dY x = y ∧ dM x = m ∧ dD x = d)) (pre ++ [x]) = cn + k := by rw [HCN.out]; simp only [hXX.1, hXX.2.1, hXX.2.2]; exact congrArg (cn + ·) hk
              have e1 : ((cC (fun i => isOp wk A.reverse (x1 + i * (-1))) (fun x => !decide (dY x = y ∧ dM x = m ∧ dD x = d)) (pre ++ [x]) : Nat) : Int) = (-n) - (lf - k) := by rw [e, ← HLF.out]; omega
              refine ⟨e1, ?_⟩
              rw [e1, show (((pre ++ [x]).length : Nat) : Int) = (pre.length : Int) + 1 by simp, show (-n) - ((-n) - (lf - (k : Int))) = lf - k by omega, show x1 + ((pre.length : Int) + 1) * (-1) = x1 + pre.length * (-1) + (-1) by omega]
              exact h)
            clear has1 hk1 cf HO HCN hXX
            have hlf0 : ¬ lf = 0 := by omega
            have hlfb0 : (lf == 0) = false := by simp [hlf0]
            by_cases hop : isOp wk A.reverse (x1 + (pre.length : Int) * (-1)) = true
            · rw [hop] at FIN ⊢
              by_cases hq : X0 = y ∧ X1 = m ∧ X2 = d
              · have F0 := hid (FIN.out 0 W1 (by simp [hq]) (by simpa using H1.out))
                obtain ⟨hq1, hq2, hq3⟩ := hq
                clear FIN
                gi_wp2
                exact ⟨HK1.out.from _, HI.out.kp H1.out, F0.out.2, by rw [F0.out.1]; omega, HXR1.out, HER1.out⟩
              · obtain ⟨ld, hld⟩ : ∃ ld : Int, lf - 1 = ld := ⟨_, rfl⟩
                have H2 := hid (H1.out.put ld)
                have HK2 := hid (HK1.out.trans (H1.out.keeps2 (.int .i64 ld)))
                have F1 := hid (FIN.out 1 (W1.setCell ⟨w5.heap.size, 0, none⟩ (.int .i64 ld)) (by simp [hq]) (by rw [show lf - ((1 : Nat) : Int) = ld by omega]; exact H2.out))
                have HXR2 := hid (show Box (W1.setCell ⟨w5.heap.size, 0, none⟩ (.int .i64 ld)) (w.heap.size + 1 + 1) 0 0 0 by
                  unfold Box
                  rw [Below.heap_setCell _ _ _ _ (by show w.heap.size + 1 + 1 ≠ w5.heap.size; omega)]
                  exact HXR1.out)
                have HER2 := hid (show EBox (W1.setCell ⟨w5.heap.size, 0, none⟩ (.int .i64 ld)) (w.heap.size + 1 + 1 + 1) 0 from HER1.out.other (by omega) _)
                have HX2 := hid (show Box (W1.setCell ⟨w5.heap.size, 0, none⟩ (.int .i64 ld)) Bx X0 X1 X2 by
                  unfold Box
                  rw [Below.heap_setCell _ _ _ _ (by
                    show Bx ≠ w5.heap.size
                    intro e
                    have h1 := HX1.out
                    have h2 := H1.out.cnt
                    unfold Box at h1
                    unfold IBox at h2
                    rw [e, h2] at h1
                    simp at h1)]
                  exact HX1.out)
                have HRT := hid (ret_two (x0 := X0) (x1 := X1) (x2 := X2) (er := 0) HXR2.out HER2.out (by omega) H2.out.below (by omega) (by omega))
                have HR1 := hid (show Box (((((W1.setCell ⟨w5.heap.size, 0, none⟩ (.int .i64 ld)).setCell ⟨w.heap.size + 1 + 1, 0, none⟩ (.int .i64 X0)).setCell ⟨w.heap.size + 1 + 1, 1, none⟩ (.int .i64 X1)).setCell ⟨w.heap.size + 1 + 1, 2, none⟩ (.int .i64 X2)).setCell ⟨w.heap.size + 1 + 1 + 1, 0, none⟩ (.int .i64 0)) (w.heap.size + 1 + 1) (dY x) (dM x) (dD x) by rw [HXX.out.1, HXX.out.2.1, HXX.out.2.2]; exact HRT.out.1)
                have HR2 := hid HRT.out.2.1
                have HR3 := hid HRT.out.2.2
                clear HRT
                have HKT := hid (HK2.out.trans (keeps_two (x0 := X0) (x1 := X1) (x2 := X2) (er := 0) HXR2.out HER2.out (by omega)))
                have hq3 : ¬ X0 = y ∨ (X0 = y ∧ ¬ X1 = m) ∨ (X0 = y ∧ X1 = m ∧ ¬ X2 = d) := by
                  by_cases a1 : X0 = y
                  · by_cases a2 : X1 = m
                    · exact .inr (.inr ⟨a1, a2, fun a3 => hq ⟨a1, a2, a3⟩⟩)
                    · exact .inr (.inl ⟨a1, a2⟩)
                  · exact .inl a1
                have c2 := H2.out.cnt.facts.1
                obtain ⟨z0, z1, z2, y0, y1, y2, _⟩ := HXR2.out.facts
                have y3 := HER2.out.frozen
                have z3 := HER2.out.cell
                obtain ⟨s0, s1, s2, _⟩ := HX2.out.facts
                clear FIN hq
                by_cases hl1 : ld = 0
                · subst hl1
                  have EXT := hid (show ((cC (fun i => isOp wk A.reverse (x1 + i * (-1))) (fun x => !decide (dY x = y ∧ dM x = m ∧ dD x = d)) (pre ++ [x]) : Nat) : Int) = (-n) by rw [F1.out.1]; omega)
                  have EXP := hid (show ((cC (fun i => isOp wk A.reverse (x1 + i * (-1))) (fun x => !decide (dY x = y ∧ dM x = m ∧ dD x = d)) pre : Nat) : Int) < (-n) by rw [HCP.out]; exact HI2.out)
                  rcases hq3 with hq1 | ⟨hq1, hq2⟩ | ⟨hq1, hq2, hq3⟩
                  rotate_left
                  subst hq1
                  rotate_left
                  subst hq1 hq2
                  rotate_left
                  all_goals
                    gi_wp2
                    refine ⟨?_, rfl, EXT.out, ⟨x, pre, rfl, ?_, EXP.out⟩, ?_, ?_⟩
                    · exact HKT.out.from _
                    · exact HR1.out
                    · exact HR2.out
                    · exact HR3.out
                · have hlb : (ld == 0) = false := by simp [hl1]
                  have NRM := hid (show ((cC (fun i => isOp wk A.reverse (x1 + i * (-1))) (fun x => !decide (dY x = y ∧ dM x = m ∧ dD x = d)) (pre ++ [x]) : Nat) : Int) < (-n) by rw [F1.out.1]; omega)
                  rcases hq3 with hq1 | ⟨hq1, hq2⟩ | ⟨hq1, hq2, hq3⟩
                  rotate_left
                  subst hq1
                  rotate_left
                  subst hq1 hq2
                  rotate_left
                  all_goals
                    gi_wp2
                    refine ⟨?_, ?_, ?_, NRM.out, ?_, ?_⟩
                    · exact HK2.out.from _
                    · exact HI.out.kp H2.out
                    · exact F1.out.2
                    · exact HXR2.out
                    · exact HER2.out
            · have hop2 : isOp wk A.reverse (x1 + (pre.length : Int) * (-1)) = false := by simpa using hop
              rw [hop2] at FIN ⊢
              have F0 := hid (FIN.out 0 W1 (by simp) (by simpa using H1.out))
              clear FIN
              gi_wp2
              exact ⟨HK1.out.from _, HI.out.kp H1.out, F0.out.2, by rw [F0.out.1]; omega, HXR1.out, HER1.out⟩
          case done =>
            rintro D xs W hD rfl ⟨hi, hi2, hi3, hi4⟩ hK
            have HXQ := hid hi3
            have HEQ := hid hi4
            have HBQ := hid hi.below
            have HI2 := hid (mv_all wk A.reverse y m d (-1) 0 (-n) (.inr ⟨rfl, rfl⟩) HVD.out (by rw [← HN.out]; exact hi2))
            clear hi hi2 hi3 hi4 HC0 HX12 HE12 HFF
            obtain ⟨_, _, _, fx0, fx1, fx2, _⟩ := HXQ.out.facts
            have fe := HEQ.out.frozen
            have ce := HEQ.out.cell
            obtain ⟨cx0, cx1, cx2, _⟩ := HXQ.out.facts
            have HRT := hid (ret_two (x0 := 0) (x1 := 0) (x2 := 0) (er := 35) HXQ.out HEQ.out (by omega) HBQ.out (by omega) (by omega))
            have HKD := hid (show ((((W.setCell ⟨w.heap.size + 1 + 1, 0, none⟩ (.int .i64 0)).setCell ⟨w.heap.size + 1 + 1, 1, none⟩ (.int .i64 0)).setCell ⟨w.heap.size + 1 + 1, 2, none⟩ (.int .i64 0)).setCell ⟨w.heap.size + 1 + 1 + 1, 0, none⟩ (.int .i64 35)).heap[D]? = some (.deferred (some [])) by
              rw [Below.heap_setCell _ _ _ _ (by show D ≠ w.heap.size + 1 + 1 + 1; omega), Below.heap_setCell _ _ _ _ (by show D ≠ w.heap.size + 1 + 1; omega), Below.heap_setCell _ _ _ _ (by show D ≠ w.heap.size + 1 + 1; omega), Below.heap_setCell _ _ _ _ (by show D ≠ w.heap.size + 1 + 1; omega)]
              exact hK)
            have PX := hid (fun o' => (show Box (((((W.setCell ⟨w.heap.size + 1 + 1, 0, none⟩ (.int .i64 0)).setCell ⟨w.heap.size + 1 + 1, 1, none⟩ (.int .i64 0)).setCell ⟨w.heap.size + 1 + 1, 2, none⟩ (.int .i64 0)).setCell ⟨w.heap.size + 1 + 1 + 1, 0, none⟩ (.int .i64 35)).putObj D o') (w.heap.size + 1 + 1) 0 0 0 from (World.putObj_heap_other (by omega)).trans HRT.out.1))
            have PE := hid (fun o' => (show EBox (((((W.setCell ⟨w.heap.size + 1 + 1, 0, none⟩ (.int .i64 0)).setCell ⟨w.heap.size + 1 + 1, 1, none⟩ (.int .i64 0)).setCell ⟨w.heap.size + 1 + 1, 2, none⟩ (.int .i64 0)).setCell ⟨w.heap.size + 1 + 1 + 1, 0, none⟩ (.int .i64 35)).putObj D o') (w.heap.size + 1 + 1 + 1) 35 from (World.putObj_heap_other (by omega)).trans HRT.out.2.1))
            have PB := hid (fun o' => HRT.out.2.2.trans (belowK_b (w := w) (Nat.le_refl _) _ D _ o' (by omega) HKD.out rfl rfl))
            clear HRT hK
            gi_wp2
            refine ⟨by simp, .inl ⟨_, _, rfl, run_takeDeferred HKD.out, ?_⟩⟩
            have rx0 := fun o' => (PX.out o').facts.1
            have rx1 := fun o' => (PX.out o').facts.2.1
            have rx2 := fun o' => (PX.out o').facts.2.2.1
            have re := fun o' => (PE.out o').cell
            refine ⟨_, by (simp only [results, Tryd.results10]; simp [go_sem, rx0, rx1, rx2, re]; try rfl), ?_⟩
            refine ⟨⟨(0, 0, 0), 35, rfl, .inr ⟨A, HAA.out, .inr ⟨HVD.out, .inr (.inr ⟨-1, .inr ⟨hn0, hbig.1, rfl⟩, .inr ⟨?_, rfl, rfl⟩⟩)⟩⟩⟩, PB.out _⟩
            intro j h1 h2
            have := HI2.out j h1 h2
            rw [isOp_mcn] at this
            omega
          case stop =>
            rintro D pre W hD ⟨k, hk, rfl⟩ ⟨h1, ⟨x, p, hp, hbx, h2⟩, he, hB⟩ hK
            have HM := hid (mv_hit wk A.reverse y m d (-1) 0 (-n) (.inr ⟨rfl, rfl⟩) HVD.out k (by rw [← HN.out]; exact hk) x p (by rw [← HN.out]; exact hp) (by rw [← HN.out]; exact h1) (by rw [← HN.out]; exact h2))
            have PX := hid (fun o' => (show Box (W.putObj D o') (w.heap.size + 1 + 1) (dY x) (dM x) (dD x) from (World.putObj_heap_other (by omega)).trans hbx))
            have PE := hid (fun o' => (show EBox (W.putObj D o') (w.heap.size + 1 + 1 + 1) 0 from (World.putObj_heap_other (by omega)).trans he))
            have PB := hid (fun o' => hB.trans (belowK_b (w := w) (Nat.le_refl _) W D _ o' (by omega) hK rfl rfl))
            have HK := hid hK
            clear h1 hp hbx h2 he hB hK HC0 HX12 HE12 HFF
            gi_wp2
            refine ⟨by simp, .inl ⟨_, _, rfl, run_takeDeferred HK.out, ?_⟩⟩
            have rx0 := fun o' => (PX.out o').facts.1
            have rx1 := fun o' => (PX.out o').facts.2.1
            have rx2 := fun o' => (PX.out o').facts.2.2.1
            have re := fun o' => (PE.out o').cell
            refine ⟨_, by (simp only [results, Tryd.results10]; simp [go_sem, rx0, rx1, rx2, re]; try rfl), ?_⟩
            refine ⟨⟨(dY x, dM x, dD x), 0, rfl, .inr ⟨A, HAA.out, .inr ⟨HVD.out, .inr (.inr ⟨-1, .inr ⟨hn0, hbig.1, rfl⟩, .inl ?_⟩)⟩⟩⟩, PB.out _⟩
            obtain ⟨j, e1, e2, e3, e4, e5, e6⟩ := HM.out
            subst e1
            exact ⟨j, e2, e3, e4, by rw [isOp_mcn] at e5; omega, by rw [isOp_rev] at e6; exact e6, rfl, rfl⟩
      · have hbb : n < -100000 ∨ 100000 < n := by omega
        rcases hbb with hbb | hbb
        · obtain ⟨_, _, _, fx0, fx1, fx2, _⟩ := HXQ.out.facts
          have fe := HEQ.out.frozen
          have ce := HEQ.out.cell
          obtain ⟨cx0, cx1, cx2, _⟩ := HXQ.out.facts
          have HRT := hid (ret_two (x0 := 0) (x1 := 0) (x2 := 0) (er := 2) HXQ.out HEQ.out (by omega) HBQ.out (by omega) (by omega))
          gi_wp2
          obtain ⟨rx0, rx1, rx2, _⟩ := HRT.out.1.facts
          have re := HRT.out.2.1.cell
          refine ⟨_, by (simp only [results, Tryd.results10]; simp [go_sem, rx0, rx1, rx2, re]; try rfl), ?_⟩
          exact ⟨⟨(0, 0, 0), 2, rfl, .inr ⟨A, HAA.out, .inr ⟨HVD.out, .inl ⟨hbig, rfl, rfl⟩⟩⟩⟩, HRT.out.2.2⟩
        · exact absurd hbb (by omega)
    · have HVD := hid hvd
      subst hx2
      clear hvd HV
      obtain ⟨_, _, _, fx0, fx1, fx2, _⟩ := HXQ.out.facts
      have fe := HEQ.out.frozen
      have ce := HEQ.out.cell
      obtain ⟨cx0, cx1, cx2, _⟩ := HXQ.out.facts
      have HRT := hid (ret_two (x0 := 0) (x1 := 0) (x2 := 0) (er := 30) HXQ.out HEQ.out (by omega) HBQ.out (by omega) (by omega))
      gi_wp2
      obtain ⟨rx0, rx1, rx2, _⟩ := HRT.out.1.facts
      have re := HRT.out.2.1.cell
      refine ⟨_, by (simp only [results, Tryd.results10]; simp [go_sem, rx0, rx1, rx2, re]; try rfl), ?_⟩
      exact ⟨⟨(0, 0, 0), 30, rfl, .inr ⟨A, HAA.out, .inl ⟨HVD.out, rfl, rfl⟩⟩⟩, HRT.out.2.2⟩
  · have hst := run_shSt (wk' := fun _ => false) (v' := .slice none 0 0) (SZ.new w3) rfl
    have BN := hid (new_put (w := w3) (wk := fun _ => false) (v := .slice none 0 0) (o := .cells #[.bool false, .bool false, .bool false, .bool false, .bool false, .bool false, .bool false, .slice none 0 0] 46))
    have HAA := hid hA
    generalize putS (w3.alloc (.cells #[.bool false, .bool false, .bool false, .bool false, .bool false, .bool false, .bool false, .slice none 0 0] 46)) w3.heap.size (fun _ => false) (.slice none 0 0) = wS at *
    have HB4 := hid (HB3.out.trans (BN.out.mono HB3.out.size))
    have HXQ := hid (HX3.out.later BN.out)
    have HEQ := hid (show EBox wS (w.heap.size + 1 + 1 + 1) 0 from (BN.out.block _ HE3.out.lt).trans HE3.out)
    clear hA
    have HBQ := HB4
    obtain ⟨_, _, _, fx0, fx1, fx2, _⟩ := HXQ.out.facts
    have fe := HEQ.out.frozen
    have ce := HEQ.out.cell
    obtain ⟨cx0, cx1, cx2, _⟩ := HXQ.out.facts
    have HRT := hid (ret_two (x0 := 0) (x1 := 0) (x2 := 0) (er := 36) HXQ.out HEQ.out (by omega) HBQ.out (by omega) (by omega))
    gi_wp2
    obtain ⟨rx0, rx1, rx2, _⟩ := HRT.out.1.facts
    have re := HRT.out.2.1.cell
    refine ⟨_, by (simp only [results, Tryd.results10]; simp [go_sem, rx0, rx1, rx2, re]; try rfl), ?_⟩
    exact ⟨⟨(0, 0, 0), 36, rfl, .inl ⟨HAA.out, rfl, rfl⟩⟩, HRT.out.2.2⟩
end Go.Proofs.YtipgmiblphfboaaDoor
