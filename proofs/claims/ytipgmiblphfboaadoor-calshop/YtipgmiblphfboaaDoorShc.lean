/-
  Count: how many open days there are.
-/
import Derived.Test.YtipgmiblphfboaaDoorShb
namespace Go.Proofs.YtipgmiblphfboaaDoor
open Go.RowKit Go.Shelf
set_option maxRecDepth 100000
attribute [local go_sem] Oper.semAt_some
attribute [local go_sem ↓] shLd_op shSt_op rlLd_op

/-- open days from a on, ahead of b -/
def cntO (wk : Nat → Bool) (A : List (Int × Bool)) (a b : Int) : Nat := ((List.range (b - a).toNat).filter fun i : Nat => isOp wk A (a + i)).length
/-- what Count answers -/
def CntR (wk : Nat → Bool) (D E : List (Int × Int × Int)) (y m d y' m' d' c er : Int) : Prop :=
  (rlA D E = none ∧ c = 0 ∧ er = 36) ∨ ∃ A, rlA D E = some A ∧ ((¬ (VD y m d ∧ VD y' m' d') ∧ c = 0 ∧ er = 30) ∨ (VD y m d ∧ VD y' m' d' ∧ nb y' m' d' < nb y m d ∧ c = 0 ∧ er = 2) ∨ (VD y m d ∧ VD y' m' d' ∧ nb y m d ≤ nb y' m' d' ∧ er = 0 ∧ c = (cntO wk A (nb y m d) (nb y' m' d') : Int)))

theorem date_is {y m d x : Int} (hv : VD y m d) (hx : 0 ≤ x ∧ x ≤ 3652424) : (dY x = y ∧ dM x = m ∧ dD x = d) ↔ x = nb y m d := by
  constructor
  · rintro ⟨rfl, rfl, rfl⟩
    exact (dt_is x hx).2.symm
  · intro e
    have := dt_eq y m d x hv e.symm
    exact ⟨this.1.symm, this.2.1.symm, this.2.2.symm⟩
theorem cC_up (wk : Nat → Bool) (A : List (Int × Bool)) (a : Int) (y m d : Int) (hv : VD y m d) (ha : 0 ≤ a) : ∀ j : Nat, a + j ≤ nb y m d → cC (fun i => isOp wk A (a + i)) (fun x => !decide (dY x = y ∧ dM x = m ∧ dD x = d)) (upE a 1 j) = ((List.range j).filter fun i : Nat => isOp wk A (a + i)).length
  | 0, _ => rfl
  | j + 1, h => by
    have hr := nb_range y m d hv
    rw [upE_succ, cC_snoc, cC_up wk A a y m d hv ha j (by omega), upE_len, List.range_succ, List.filter_append, List.length_append]
    have hx : ¬ (dY (a + (j : Int) * 1) = y ∧ dM (a + (j : Int) * 1) = m ∧ dD (a + (j : Int) * 1) = d) := by
      rw [date_is hv (by omega)]
      omega
    rw [decide_eq_false hx]
    simp only [Bool.not_false, Bool.and_true, List.filter_cons, List.filter_nil]
    split <;> simp
theorem cC_all (wk : Nat → Bool) (A : List (Int × Bool)) (a : Int) (y m d : Int) (hv : VD y m d) (ha : 0 ≤ a) (hab : a ≤ nb y m d) : cC (fun i => isOp wk A (a + i)) (fun x => !decide (dY x = y ∧ dM x = m ∧ dD x = d)) (upE a 1 (cnE a (nb y m d) 1)) = cntO wk A a (nb y m d) := by
  have hr := nb_range y m d hv
  have hc : cnE a (nb y m d) 1 = (nb y m d - a).toNat + 1 := by
    unfold cnE
    rw [if_pos (by omega), if_pos hab]
    omega
  rw [hc, upE_succ, cC_snoc, cC_up wk A a y m d hv ha _ (by omega)]
  have hx : dY (a + (((nb y m d - a).toNat : Nat) : Int) * 1) = y ∧ dM (a + (((nb y m d - a).toNat : Nat) : Int) * 1) = m ∧ dD (a + (((nb y m d - a).toNat : Nat) : Int) * 1) = d := by
    rw [date_is hv (by omega)]
    omega
  rw [decide_eq_true hx]
  simp [cntO]

set_option maxHeartbeats 4000000 in
theorem count_any (wk : Nat → Bool) (D E : List (Int × Int × Int)) (v1 v2 : Value) (y m d y' m' d' : Int) (w : World) (h1 : RL eD 3 w v1 D) (h2 : RL eD 3 w v2 E) (hA : HasAh w) :
    Calls Tryd.prog 7 #[rlV wk v1 v2, dV y m d, dV y' m' d'] w fun e w' => (∃ c er, e = .returned (.tuple #[.int .i64 c, .int .i64 er]) ∧ CntR wk D E y m d y' m' d' c er) ∧ Below w.heap.size w w' := by
  obtain ⟨W3, hW3⟩ : ∃ W3, ((w.alloc (.cells (rlC wk v1 v2) 26)).alloc (.cells #[.int .i64 y, .int .i64 m, .int .i64 d] 33)).alloc (.cells #[.int .i64 y', .int .i64 m', .int .i64 d'] 33) = W3 := ⟨_, rfl⟩
  have hB3 : Below w.heap.size w W3 := by
    rw [← hW3]
    exact (((Below.refl _ _).alloc (Nat.le_refl _) _).alloc (by simp) _).alloc (by simp; omega) _
  have hz3 : W3.heap.size = w.heap.size + 3 := by rw [← hW3]; simp
  have hR : RZ W3 w.heap.size wk v1 v2 := by
    rw [← hW3]
    exact ((alloc_below _ _).block _ (by simp; omega)).trans (((alloc_below _ _).block _ (by simp)).trans (heap_alloc_new _ _))
  have hD : Box W3 (w.heap.size + 1) y m d := by
    rw [← hW3]
    have h := Box.new (w.alloc (.cells (rlC wk v1 v2) 26)) y m d
    rw [World.size_alloc] at h
    exact h.later (alloc_below _ _)
  have hD' : Box W3 (w.heap.size + 1 + 1) y' m' d' := by
    rw [← hW3]
    have h := Box.new ((w.alloc (.cells (rlC wk v1 v2) 26)).alloc (.cells #[.int .i64 y, .int .i64 m, .int .i64 d] 33)) y' m' d'
    simp only [World.size_alloc] at h
    exact h
  have HS := hid (shopOn_any wk D E v1 v2 y m d W3 (h1.below hB3) (h2.below hB3) (hA.below hB3))
  have hld := run_rlLd hR
  obtain ⟨d0, d1, d2, _⟩ := hD.facts
  have HB := hid hB3
  have HD := hid hD
  have HD' := hid hD'
  have HA := hid hA
  have HG : 1 < w.heap.size := hA.lt
  have HDy := hid (fun w hA => days_any y' m' d' w hA)
  have HE := hid (fun w h => each_any y m d y' m' d' 1 w h)
  obtain ⟨x1, hx1⟩ : ∃ x1, (if VD y m d then nb y m d else 0) = x1 := ⟨_, rfl⟩
  obtain ⟨x2, hx2⟩ : ∃ x2, (if VD y m d then (0 : Int) else 30) = x2 := ⟨_, rfl⟩
  obtain ⟨x3, hx3⟩ : ∃ x3, (if VD y' m' d' then nb y' m' d' else 0) = x3 := ⟨_, rfl⟩
  obtain ⟨x4, hx4⟩ : ∃ x4, (if VD y' m' d' then (0 : Int) else 30) = x4 := ⟨_, rfl⟩
  rw [hx1, hx2] at HS
  rw [hx3, hx4] at HDy
  have hv : (VD y m d ∧ x1 = nb y m d ∧ x2 = 0) ∨ (¬ VD y m d ∧ x2 = 30) := by
    by_cases h : VD y m d
    · rw [if_pos h] at hx1 hx2; exact .inl ⟨h, hx1.symm, hx2.symm⟩
    · rw [if_neg h] at hx1 hx2; exact .inr ⟨h, hx2.symm⟩
  have hv' : (VD y' m' d' ∧ x3 = nb y' m' d' ∧ x4 = 0) ∨ (¬ VD y' m' d' ∧ x4 = 30) := by
    by_cases h : VD y' m' d'
    · rw [if_pos h] at hx3 hx4; exact .inl ⟨h, hx3.symm, hx4.symm⟩
    · rw [if_neg h] at hx3 hx4; exact .inr ⟨h, hx4.symm⟩
  have HV := hid hv
  have HV' := hid hv'
  clear h1 h2 hA hR hD hD' hB3 hx1 hx2 hx3 hx4 hv hv'
  unfold rlV dV
  unfold rlC at hW3 ⊢
  unfold rlV dV rlC shV shC at HS
  unfold dV at HDy HE
  refine (callsIn_wide (n := 5)).1 ?_
  refine callsIn_of_wp_marks Tryd.func7 rfl trivial ?_ rfl
  simp only [Tryd.ntmps7, List.size_toArray, List.length_cons, List.length_nil, Nat.reduceAdd, Nat.reduceSub, Array.replicate_succ, Array.replicate_zero, List.push_toArray, List.append_toArray, List.nil_append, List.cons_append]
  gi_wp2_with fail
  refine ⟨trivial, ?_⟩
  refine (callsIn_wide.2 HS.out).mono ?_
  rintro e w3 ⟨hres, hb3⟩
  have HB3 := hid (HB.out.trans (hb3.mono HB.out.size))
  have HD3 := hid (HD.out.later hb3)
  have HD3' := hid (HD'.out.later hb3)
  have hz3 : w.heap.size + 3 ≤ w3.heap.size := by have := hb3.size; omega
  clear hb3 hld d0 d1 d2 hW3 HS HB HD HD'
  rcases hres with ⟨A, ad, cap, hA, hl, rfl, hr⟩ | ⟨hA, rfl⟩
  · have hst := run_shSt (wk' := wk) (v' := .slice (some ad) A.length cap) (SZ.new w3) rfl
    have HSZ := hid ((SZ.new w3).put wk (.slice (some ad) A.length cap))
    have BN := hid (new_put (w := w3) (wk := wk) (v := .slice (some ad) A.length cap) (o := .cells #[.bool false, .bool false, .bool false, .bool false, .bool false, .bool false, .bool false, .slice none 0 0] 46))
    have HAA := hid hA
    have HR := hid hr
    have hzS : (putS (w3.alloc (.cells #[.bool false, .bool false, .bool false, .bool false, .bool false, .bool false, .bool false, .slice none 0 0] 46)) w3.heap.size wk (.slice (some ad) A.length cap)).heap.size = w3.heap.size + 1 := by simp
    generalize putS (w3.alloc (.cells #[.bool false, .bool false, .bool false, .bool false, .bool false, .bool false, .bool false, .slice none 0 0] 46)) w3.heap.size wk (.slice (some ad) A.length cap) = wS at *
    have HB4 := hid (HB3.out.trans (BN.out.mono HB3.out.size))
    have HD4 := hid (HD3.out.later BN.out)
    have HD4' := hid (HD3'.out.later BN.out)
    have HRS := hid (HR.out.below BN.out)
    obtain ⟨e0, e1, e2, _⟩ := HD4'.out.facts
    clear hA hr HR
    rcases HV.out with ⟨hvd, hx1, hx2⟩ | ⟨hvd, hx2⟩
    · have HVD := hid hvd
      have HN := hid hx1
      subst hx2
      clear hvd hx1 HV
      have C2 := hid (HDy.out wS (HA.out.below HB4.out))
      gi_wp2_with fail
      refine ⟨trivial, ?_⟩
      refine (callsIn_wide.2 C2.out).mono ?_
      rintro e w5 ⟨rfl, hb5⟩
      have HB5 := hid (HB4.out.trans (hb5.mono HB4.out.size))
      have HD5 := hid (HD4.out.later hb5)
      have HD5' := hid (HD4'.out.later hb5)
      have HR5 := hid (HRS.out.below hb5)
      have HZ5 := hid (HSZ.out.later hb5)
      have hz5 : w3.heap.size + 1 ≤ w5.heap.size := by have := hb5.size; omega
      clear hb5 HD4 HD4' HRS HSZ HB4 e0 e1 e2 C2 hst BN
      rcases HV'.out with ⟨hvd', hx3, hx4⟩ | ⟨hvd', hx4⟩
      · have HVD' := hid hvd'
        have HN' := hid hx3
        subst hx4
        clear hvd' hx3 HV'
        by_cases hlt : x3 < x1
        · gi_wp2
          exact ⟨_, results_tmp2 rfl _ _ _, ⟨_, _, rfl, .inr ⟨A, HAA.out, .inr (.inl ⟨HVD.out, HVD'.out, by rw [← HN.out, ← HN'.out]; exact hlt, rfl, rfl⟩)⟩⟩, HB5.out⟩
        · have hld := run_shLd (HZ5.out.later (alloc_below w5 (.cells #[.int .i64 0] 3)))
          have HI6 := hid (show IBox (w5.alloc (.cells #[.int .i64 0] 3)) w5.heap.size 0 from heap_alloc_new _ _)
          have HC := hid (along_any wk A ad cap x1 1 (w5.alloc (.cells #[.int .i64 0] 3)) (HR5.out.alloc _) hl (.inl rfl))
          unfold shV shC at HC
          rw [if_neg (by omega)] at HC
          have HB6 := hid (HB5.out.alloc HB5.out.size (.cells #[.int .i64 0] 3))
          have HD6 := hid (HD5.out.later (alloc_below w5 (.cells #[.int .i64 0] 3)))
          have HD6' := hid (HD5'.out.later (alloc_below w5 (.cells #[.int .i64 0] 3)))
          have hz6 : (w5.alloc (.cells #[.int .i64 0] 3)).heap.size = w5.heap.size + 1 := by simp
          gi_wp2_with fail
          refine ⟨trivial, ?_⟩
          refine (callsIn_wide.2 HC.out).mono ?_
          rintro e w7 ⟨⟨gl, gd, gs, gh, rfl, l1, l2, l3, l4, hal⟩, hb7⟩
          obtain ⟨F, hF⟩ : ∃ F, Value.func (.func 30) #[] #[.pointer (some ⟨gl, 0, none⟩), .pointer (some ⟨gd, 0, none⟩), .pointer (some ⟨gs, 0, none⟩), .pointer (some ⟨gh, 0, none⟩)] = F := ⟨_, rfl⟩
          have HFF := hid hF
          obtain ⟨w8, hw8⟩ : ∃ w8, w7.alloc (.cells #[.func (.func 30) #[] #[.pointer (some ⟨gl, 0, none⟩), .pointer (some ⟨gd, 0, none⟩), .pointer (some ⟨gs, 0, none⟩), .pointer (some ⟨gh, 0, none⟩)]] 50) = w8 := ⟨_, rfl⟩
          have b8 : Below w7.heap.size w7 w8 := by rw [← hw8]; exact alloc_below _ _
          have HF8 := hid (show Boxed w8 w7.heap.size 50 F by rw [← hw8, ← hF]; exact Boxed.new _ _ _)
          have hb78 := hb7.trans (b8.mono hb7.size)
          have HB8 := hid (HB6.out.trans (hb78.mono HB6.out.size))
          have HI8 := hid (HI6.out.later hb78)
          have HD8 := hid (HD6.out.later hb78)
          have HD8' := hid (HD6'.out.later hb78)
          have HAL := hid (hal.as.later b8)
          have hlt7 := hal.lt
          have hz8 : w8.heap.size = w7.heap.size + 1 := by rw [← hw8]; simp
          have hz7 : w5.heap.size + 1 ≤ w7.heap.size := by have := hb7.size; omega
          rw [hz6] at l1 l2 l3 l4
          obtain ⟨p0, p1, p2, _⟩ := HD8.out.facts
          obtain ⟨q0, q1, q2, _⟩ := HD8'.out.facts
          have CE := hid (HE.out w8 (HA.out.below HB8.out))
          have e1 : dn y m d = x1 := by unfold dn; rw [if_pos HVD.out, HN.out]
          have e2 : dn y' m' d' = x3 := by unfold dn; rw [if_pos HVD'.out, HN'.out]
          have e3 : stE y m d y' m' d' 1 = 1 := by unfold stE; rw [if_pos ⟨HVD.out, HVD'.out⟩]; decide
          rw [e1, e2, e3] at CE
          have hr1 : 0 ≤ x1 ∧ x1 ≤ 3652424 := by rw [HN.out]; exact nb_range _ _ _ HVD.out
          have hr3 : 0 ≤ x3 ∧ x3 ≤ 3652424 := by rw [HN'.out]; exact nb_range _ _ _ HVD'.out
          clear hF hb7 b8 hb78 hal hld HC HB6 HD6 HD6' HI6 e1 e2 e3 HD8 HDy HE
          gi_wp2_with fail
          refine ⟨trivial, ?_⟩
          refine (callsIn_wide.2 CE.out).mono ?_
          rintro e w9 ⟨⟨g1, g2, g3, rfl, m1, m2, m3, i1, i2, i3⟩, hb9⟩
          have HC0 := hid (show CS w (w.heap.size + 1 + 1) w5.heap.size gl gd gs gh w7.heap.size g1 g2 g3 F wk 1 A y' m' d' x1 x3 1 0 x1 w9 from
            ⟨HI8.out.later hb9, HAL.out.later hb9, (hb9.block _ HF8.out.lt).trans HF8.out, HD8'.out.later hb9, i1, i2, i3, HA.out.below (HB8.out.trans (hb9.mono HB8.out.size)), HB8.out.trans (hb9.mono HB8.out.size), ⟨HG, by omega, by omega⟩, ⟨by omega, by omega, by omega, by omega⟩, ⟨by omega, by omega, by omega, by omega⟩, ⟨by omega, by omega, by omega⟩⟩)
          have HUP := hid (rlA_up HAA.out)
          have hz9 : w8.heap.size ≤ w9.heap.size := hb9.size
          clear hb9 i1 i2 i3 HI8 HAL HF8 HD8' HB8 CE p0 p1 p2 q0 q1 q2 hw8
          have hnn := each_notnil (.func 32) #[] #[.pointer (some ⟨g1, 0, none⟩), .pointer (some ⟨g3, 0, none⟩), .pointer (some ⟨g2, 0, none⟩)]
          gi_wp2_with fail
          refine rangeR (px := 42) (bx := 14) (show 1 ≤ 5 by omega) rfl (enters_of Tryd.func32 (by kernel_rfl) rfl)
            (each_stops 4 (by omega) g1 g3 g2 x1 x3 1 hr1 hr3 (by omega) w9 HC0.out.i1 HC0.out.i2 HC0.out.i3 HC0.out.ah) KpE.trans ?kb (Below.refl _ _)
            (fun pre W => CS w (w.heap.size + 1 + 1) w5.heap.size gl gd gs gh w7.heap.size g1 g2 g3 F wk 1 A y' m' d' x1 x3 1 ((cC (fun i => isOp wk A (x1 + i)) (fun x => !decide (dY x = y' ∧ dM x = m' ∧ dD x = d')) pre : Nat) : Int) (x1 + pre.length) W)
            (fun _ _ => False) (fun s X Y row hs hg hr => hs.own (B := w9.heap.size) (by omega) hg hr) (fun s X Y row hs hg hr => hs) (by simpa [cC_nil] using HC0.out) ?assign ?body ?done ?stop
          case kb =>
            intro W l o o' hl hW _ _ k hk
            refine World.putObj_heap_other ?_
            have := HC0.out.i1.facts.2.2; have := HC0.out.i2.facts.2.2; have := HC0.out.i3.facts.2.2; have := HC0.out.ah.lt
            rcases hk with rfl | rfl | rfl | rfl <;> omega
          case assign =>
            rintro l pre x W K hi hK
            have HKK := hid hK
            have HI := hid hi
            clear hK hi
            unfold dV
            gi_wp2
            exact HKK.out _ _ ((KeepsOthers.alloc _ _).from _) (HI.out.kp (HI.out.later (alloc_below _ _))) (HI.out.later (alloc_below _ _)) ⟨W.heap.size, Box.new W _ _ _, rfl⟩
          case body =>
            rintro l pre x Bx W hi bX hlt
            have hF := HFF.out
            subst hF
            have cf := hi.fn.cell
            obtain ⟨c1, f1, _⟩ := hi.cnt.facts
            have hpl : x1 + (pre.length : Int) ≤ x3 := by have := (cn_pos (a := x1) (b := x3) (s := 1) (by omega) pre.length).1 hlt; omega
            have HO := hid (open_up wk A (x1 + pre.length) gl gd gs gh W (by omega) HUP.out.2.2 HUP.out.1 hi.als)
            have HI := hid hi
            have HX := hid bX
            have HCN := hid (cC_snoc (fun i => isOp wk A (x1 + i)) (fun x => !decide (dY x = y' ∧ dM x = m' ∧ dD x = d')) pre x)
            have hcl := cC_le (fun i => isOp wk A (x1 + i)) (fun x => !decide (dY x = y' ∧ dM x = m' ∧ dD x = d')) pre
            have hN := cn_le x1 x3 1 hr1 hr3
            generalize cC (fun i => isOp wk A (x1 + i)) (fun x => !decide (dY x = y' ∧ dM x = m' ∧ dD x = d')) pre = cn at *
            clear hi bX c1 f1 HC0
            gi_wp2_with fail
            refine ⟨trivial, ?_⟩
            refine (CallsIn.inRound l (callsIn_wide.2 HO.out)).mono ?_
            rintro e W1 ⟨rfl, has1, hk1⟩
            have H1 := hid (HI.out.step hk1 has1)
            have HK1 := hid (HI.out.keeps hk1)
            have HX1 := hid (show Box W1 Bx (dY x) (dM x) (dD x) by
              obtain ⟨_, _, _, _, ⟨v, b1, _⟩, i1, _⟩ := HI.out.als
              exact HX.out.kt hk1 b1 i1)
            obtain ⟨c1, f1, _⟩ := H1.out.cnt.facts
            obtain ⟨t0, t1, t2, _⟩ := H1.out.dto.facts
            obtain ⟨u0, u1, u2, _⟩ := HX1.out.facts
            have FIN := hid (show ∀ (k : Nat) (W' : World), (if (isOp wk A (x1 + (pre.length : Int)) && !decide (dY x = y' ∧ dM x = m' ∧ dD x = d')) = true then 1 else 0) = k → CS w (w.heap.size + 1 + 1) w5.heap.size gl gd gs gh w7.heap.size g1 g2 g3 (.func (.func 30) #[] #[.pointer (some ⟨gl, 0, none⟩), .pointer (some ⟨gd, 0, none⟩), .pointer (some ⟨gs, 0, none⟩), .pointer (some ⟨gh, 0, none⟩)]) wk 1 A y' m' d' x1 x3 1 ((cn : Int) + k) (x1 + pre.length + 1) W' → CS w (w.heap.size + 1 + 1) w5.heap.size gl gd gs gh w7.heap.size g1 g2 g3 (.func (.func 30) #[] #[.pointer (some ⟨gl, 0, none⟩), .pointer (some ⟨gd, 0, none⟩), .pointer (some ⟨gs, 0, none⟩), .pointer (some ⟨gh, 0, none⟩)]) wk 1 A y' m' d' x1 x3 1 ((cC (fun i => isOp wk A (x1 + i)) (fun x => !decide (dY x = y' ∧ dM x = m' ∧ dD x = d')) (pre ++ [x]) : Nat) : Int) (x1 + (pre ++ [x]).length) W' from fun k W' hk h => by
              have e : cC (fun i => isOp wk A (x1 + i)) (fun x => !decide (dY x = y' ∧ dM x = m' ∧ dD x = d')) (pre ++ [x]) = cn + k := by rw [HCN.out]; exact congrArg (cn + ·) hk
              rw [e, show (((pre ++ [x]).length : Nat) : Int) = (pre.length : Int) + 1 by simp, ← Int.add_assoc, Int.natCast_add]
              exact h)
            clear has1 hk1 cf HO HCN
            by_cases hop : isOp wk A (x1 + (pre.length : Int)) = true
            · rw [hop] at FIN ⊢
              by_cases hq : dY x = y' ∧ dM x = m' ∧ dD x = d'
              · have F0 := hid (FIN.out 0 W1 (by simp [hq]) (by simpa using H1.out))
                obtain ⟨hq1, hq2, hq3⟩ := hq
                clear FIN
                gi_wp2
                exact ⟨HK1.out.from _, HI.out.kp H1.out, F0.out⟩
              · have H2 := hid (H1.out.put ((cn : Int) + 1))
                have HK2 := hid (HK1.out.trans (H1.out.keeps2 (.int .i64 ((cn : Int) + 1))))
                have F1 := hid (FIN.out 1 (W1.setCell ⟨w5.heap.size, 0, none⟩ (.int .i64 ((cn : Int) + 1))) (by simp [hq]) H2.out)
                have hq3 : ¬ dY x = y' ∨ (dY x = y' ∧ ¬ dM x = m') ∨ (dY x = y' ∧ dM x = m' ∧ ¬ dD x = d') := by
                  by_cases a1 : dY x = y'
                  · by_cases a2 : dM x = m'
                    · exact .inr (.inr ⟨a1, a2, fun a3 => hq ⟨a1, a2, a3⟩⟩)
                    · exact .inr (.inl ⟨a1, a2⟩)
                  · exact .inl a1
                clear FIN hq
                rcases hq3 with hq1 | ⟨hq1, hq2⟩ | ⟨hq1, hq2, hq3⟩
                all_goals
                  gi_wp2
                  exact ⟨HK2.out.from _, HI.out.kp H2.out, F1.out⟩
            · have hop2 : isOp wk A (x1 + (pre.length : Int)) = false := by simpa using hop
              rw [hop2] at FIN ⊢
              have F0 := hid (FIN.out 0 W1 (by simp) (by simpa using H1.out))
              clear FIN
              gi_wp2
              exact ⟨HK1.out.from _, HI.out.kp H1.out, F0.out⟩
          case done =>
            rintro D xs W hD rfl hi hK
            obtain ⟨cN, hcN⟩ : ∃ cN : Nat, cC (fun i => isOp wk A (x1 + i)) (fun x => !decide (dY x = y' ∧ dM x = m' ∧ dD x = d')) (upE x1 1 (cnE x1 x3 1)) = cN := ⟨_, rfl⟩
            rw [hcN] at hi
            have HCN := hid hcN
            clear hcN
            have c1 := hi.cnt.facts.1
            have HI := hid hi
            clear hi
            gi_wp2
            refine ⟨by simp, .inl ⟨_, _, rfl, run_takeDeferred hK, ?_⟩⟩
            refine ⟨_, results_tmp2 rfl _ _ _, ⟨_, _, rfl, .inr ⟨A, HAA.out, .inr (.inr ⟨HVD.out, HVD'.out, by rw [← HN.out, ← HN'.out]; omega, rfl, ?_⟩)⟩⟩, HI.out.below.trans (belowK_b (w := w) (Nat.le_refl _) W D _ _ (by omega) hK rfl rfl)⟩
            have := cC_all wk A x1 y' m' d' HVD'.out hr1.1 (by rw [← HN'.out]; omega)
            rw [← HN'.out] at this
            rw [HCN.out] at this
            rw [this, HN.out, HN'.out]
          case stop =>
            rintro D pre W _ _ hf
            exact hf.elim
      · have HVD' := hid hvd'
        subst hx4
        clear hvd' HV'
        gi_wp2
        exact ⟨_, results_tmp2 rfl _ _ _, ⟨_, _, rfl, .inr ⟨A, HAA.out, .inl ⟨fun h => HVD'.out h.2, rfl, rfl⟩⟩⟩, HB5.out⟩
    · have HVD := hid hvd
      subst hx2
      clear hvd HV
      gi_wp2
      exact ⟨_, results_tmp2 rfl _ _ _, ⟨_, _, rfl, .inr ⟨A, HAA.out, .inl ⟨fun h => HVD.out h.1, rfl, rfl⟩⟩⟩, HB4.out⟩
  · have hst := run_shSt (wk' := fun _ => false) (v' := .slice none 0 0) (SZ.new w3) rfl
    have BN := hid (new_put (w := w3) (wk := fun _ => false) (v := .slice none 0 0) (o := .cells #[.bool false, .bool false, .bool false, .bool false, .bool false, .bool false, .bool false, .slice none 0 0] 46))
    have HAA := hid hA
    generalize putS (w3.alloc (.cells #[.bool false, .bool false, .bool false, .bool false, .bool false, .bool false, .bool false, .slice none 0 0] 46)) w3.heap.size (fun _ => false) (.slice none 0 0) = wS at *
    have HB4 := hid (HB3.out.trans (BN.out.mono HB3.out.size))
    clear hA
    gi_wp2
    exact ⟨_, results_tmp2 rfl _ _ _, ⟨_, _, rfl, .inl ⟨HAA.out, rfl, rfl⟩⟩, HB4.out⟩
end Go.Proofs.YtipgmiblphfboaaDoor
