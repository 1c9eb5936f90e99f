/-
  CalShop: the law's own walk, out of the contracts.
-/
import Derived.Test.YtipgmiblphfboaaDoorShg
import Derived.Test.YtipgmiblphfboaaDoorShd
import Derived.Deep.RegionHeld
import Derived.Deep.DeepCutAuto
namespace Go.Proofs.YtipgmiblphfboaaDoor
open Go.RowKit
set_option maxRecDepth 100000
attribute [local go_sem ↓] rlLd_op rlSt_op

/-- what the law's rounds lean on: the rule's block, its lists, the table of months -/
def LS (w0 : World) (g : Nat) (wk : Nat → Bool) (u1 u2 : Value) (D E : List (Int × Int × Int)) (w : World) : Prop := RZ w g wk u1 u2 ∧ RL eD 3 w u1 D ∧ RL eD 3 w u2 E ∧ HasAh w ∧ Below w0.heap.size w0 w
theorem LS.call {w0 : World} {g : Nat} {wk : Nat → Bool} {u1 u2 : Value} {D E : List (Int × Int × Int)} {w w' : World} (h : LS w0 g wk u1 u2 D E w) (hb : Below w.heap.size w w') : LS w0 g wk u1 u2 D E w' :=
  ⟨h.1.later hb, h.2.1.below hb, h.2.2.1.below hb, h.2.2.2.1.below hb, h.2.2.2.2.trans (hb.mono h.2.2.2.2.size)⟩
/-- the same since w1 -/
def LaterB (w1 w : World) : Prop := Below w1.heap.size w1 w
theorem LaterB.call {w1 w w' : World} (h : LaterB w1 w) (hb : Below w.heap.size w w') : LaterB w1 w' := Below.trans h (hb.mono (Below.size h))
theorem LS.later {w0 : World} {g : Nat} {wk : Nat → Bool} {u1 u2 : Value} {D E : List (Int × Int × Int)} {w w' : World} (h : LS w0 g wk u1 u2 D E w) (hb : LaterB w w') : LS w0 g wk u1 u2 D E w' := h.call hb
theorem laterB_set3 {w1 w : World} {g : Nat} {x y z : Value} (h : LaterB w1 w) (hg : w1.heap.size ≤ g) : LaterB w1 (((w.setCell ⟨g, 0, none⟩ x).setCell ⟨g, 1, none⟩ y).setCell ⟨g, 2, none⟩ z) := ((Below.setCell h hg _).setCell hg _).setCell hg _
theorem at_in (n : Int) (h : 0 ≤ n ∧ n ≤ 3652424) (w : World) (hA : HasAh w) :
    Calls Tryd.prog 8 #[.int .i64 n] w fun e w' => e = .returned (dV (dY n) (dM n) (dD n)) ∧ Below w.heap.size w w' := by
  have := at_any n (by omega) w hA
  rw [wi_self n 3652424 h.1 h.2] at this
  exact this

theorem count_in {wk : Nat → Bool} {D E : List (Int × Int × Int)} {A : List (Int × Bool)} {u1 u2 : Value} {w0 : World} {g : Nat} (hA : rlA D E = some A) (x z : Int) (hx : 0 ≤ x ∧ x ≤ z) (hz : z ≤ 3652424) (w : World) (h : LS w0 g wk u1 u2 D E w) :
    Calls Tryd.prog 7 #[rlV wk u1 u2, dV (dY x) (dM x) (dD x), dV (dY z) (dM z) (dD z)] w fun e w' => e = .returned (.tuple #[.int .i64 (cntO wk A x z : Int), .int .i64 0]) ∧ Below w.heap.size w w' := by
  refine (count_any wk D E u1 u2 _ _ _ _ _ _ w h.2.1 h.2.2.1 h.2.2.2.1).mono ?_
  rintro e w' ⟨⟨c, er, rfl, hc⟩, hb⟩
  have h1 := dt_is x (by omega)
  have h2 := dt_is z (by omega)
  refine ⟨?_, hb⟩
  rcases hc with ⟨hc, _⟩ | ⟨A', hA', hc⟩
  · rw [hA] at hc; cases hc
  rw [hA] at hA'
  cases hA'
  rw [h1.2, h2.2] at hc
  rcases hc with ⟨hc, _⟩ | ⟨_, _, hc, _⟩ | ⟨_, _, _, h3, h4⟩
  · exact absurd ⟨h1.1, h2.1⟩ hc
  · omega
  · rw [h3, h4]
theorem open_in {wk : Nat → Bool} {D E : List (Int × Int × Int)} {A : List (Int × Bool)} {u1 u2 : Value} {w0 : World} {g : Nat} (hA : rlA D E = some A) (x : Int) (hx : 0 ≤ x ∧ x ≤ 3652424) (w : World) (h : LS w0 g wk u1 u2 D E w) :
    Calls Tryd.prog 9 #[rlV wk u1 u2, dV (dY x) (dM x) (dD x)] w fun e w' => e = .returned (.tuple #[.bool (isOp wk A x), .int .i64 0]) ∧ Below w.heap.size w w' := by
  refine (open_any wk D E u1 u2 _ _ _ w h.2.1 h.2.2.1 h.2.2.2.1).mono ?_
  rintro e w' ⟨hc, hb⟩
  have h1 := dt_is x hx
  refine ⟨?_, hb⟩
  rcases hc with ⟨A', hA', _, rfl⟩ | ⟨_, hc, _⟩ | ⟨hc, _⟩
  · rw [hA] at hA'
    cases hA'
    rw [h1.2]
  · exact absurd h1.1 hc
  · rw [hA] at hc; cases hc
theorem move0_in {wk : Nat → Bool} {D E : List (Int × Int × Int)} {A : List (Int × Bool)} {u1 u2 : Value} {w0 : World} {g : Nat} (hA : rlA D E = some A) (x : Int) (hx : 0 ≤ x ∧ x ≤ 3652424) (w : World) (h : LS w0 g wk u1 u2 D E w) :
    Calls Tryd.prog 10 #[rlV wk u1 u2, dV (dY x) (dM x) (dD x), .int .i64 0] w fun e w' => ((isOp wk A x = true ∧ e = .returned (.tuple #[dV (dY x) (dM x) (dD x), .int .i64 0])) ∨ (isOp wk A x = false ∧ e = .returned (.tuple #[dV 0 0 0, .int .i64 37]))) ∧ Below w.heap.size w w' := by
  refine (move_any wk D E u1 u2 _ _ _ 0 w h.2.1 h.2.2.1 h.2.2.2.1).mono ?_
  rintro e w' ⟨⟨X, er, rfl, hc⟩, hb⟩
  have h1 := dt_is x hx
  refine ⟨?_, hb⟩
  rcases hc with ⟨hc, _⟩ | ⟨A', hA', hc⟩
  · rw [hA] at hc; cases hc
  rw [hA] at hA'
  cases hA'
  rw [h1.2] at hc
  rcases hc with ⟨hc, _⟩ | ⟨_, hc⟩
  · exact absurd h1.1 hc
  rcases hc with ⟨hc, _⟩ | ⟨_, ⟨h2, rfl, rfl⟩ | ⟨h2, rfl, rfl⟩⟩ | ⟨s, hs, _⟩
  · omega
  · exact .inl ⟨h2, rfl⟩
  · exact .inr ⟨h2, rfl⟩
  · omega
theorem movej_in {wk : Nat → Bool} {D E : List (Int × Int × Int)} {A : List (Int × Bool)} {u1 u2 : Value} {w0 : World} {g : Nat} (hA : rlA D E = some A) (x n s : Int) (hs : s = 1 ∨ s = -1) (j : Nat) (hj : 1 ≤ j) (hx : 0 ≤ x ∧ x ≤ 3652424) (hr : 0 ≤ x + j * s ∧ x + j * s ≤ 3652424) (hm : (mcn wk A x s j : Int) = n * s) (ho : isOp wk A (x + j * s) = true) (hN : 1 ≤ n * s) (hn : n * s ≤ 100000) (w : World) (h : LS w0 g wk u1 u2 D E w) :
    Calls Tryd.prog 10 #[rlV wk u1 u2, dV (dY x) (dM x) (dD x), .int .i64 n] w fun e w' => e = .returned (.tuple #[dV (dY (x + j * s)) (dM (x + j * s)) (dD (x + j * s)), .int .i64 0]) ∧ Below w.heap.size w w' := by
  refine (move_any wk D E u1 u2 _ _ _ n w h.2.1 h.2.2.1 h.2.2.2.1).mono ?_
  rintro e w' ⟨⟨X, er, rfl, hc⟩, hb⟩
  have h1 := dt_is x hx
  refine ⟨?_, hb⟩
  obtain ⟨rfl, rfl⟩ := movR_hit hc hA h1.1 s hs j hj (by rw [h1.2]; exact hr) (by rw [h1.2]; exact hm) (by rw [h1.2]; exact ho) hN hn
  rw [h1.2]
  rfl

set_option maxHeartbeats 40000000 in
theorem shoplaw_any (q : Int) (L1 L2 : List Int) (v1 v2 : Value) (a n : Int) (w : World) (h1 : RL eI 1 w v1 L1) (h2 : RL eI 1 w v2 L2) (l1 : L1.length ≤ 9223372036854775806) (l2 : L2.length ≤ 9223372036854775806) (r1 : ∀ x ∈ L1, -9223372036854775808 ≤ x ∧ x ≤ 9223372036854775807) (r2 : ∀ x ∈ L2, -9223372036854775808 ≤ x ∧ x ≤ 9223372036854775807) (ha : -9223372036854775808 ≤ a ∧ a ≤ 9223372036854775807) (hn : -9223372036854775808 ≤ n ∧ n ≤ 9223372036854775807) (hA : HasAh w) :
    Calls Tryd.prog 3 #[.int .u8 q, v1, v2, .int .i64 a, .int .i64 n] w fun e w' => e = .returned (.bool true) ∧ Below w.heap.size w w' := by
  have HR := hid (lawrule_any q L1 L2 v1 v2 w h1 h2 l1 l2 r1 r2 hA)
  have HW1 := hid (fun w => within_any a 0 1999 ha (by omega) (by omega) (by omega) w)
  have HW2 := hid (fun w => within_any n 0 400 hn (by omega) (by omega) (by omega) w)
  have hi1 := wi_in a 0 1999 (by omega)
  have hi2 := wi_in n 0 400 (by omega)
  generalize wi a 0 1999 = z1 at *
  generalize wi n 0 400 = z2 at *
  obtain ⟨Z, rfl⟩ : ∃ Z : Nat, z2 = (Z : Int) := ⟨z2.toNat, by omega⟩
  have hZ4 : Z ≤ 400 := by omega
  have HA := hid hA
  clear h1 h2 l1 l2 r1 r2 ha hn hA
  unfold rlV rlC at HR
  go_enter Tryd.func3, Tryd.ntmps3
  go_wp2_with fail
  refine HR.out.mono ?_
  rintro e w1 ⟨⟨wk, u1, u2, Q1, Q2, rfl, hr1, hr2, hq1, hq2⟩, hb1⟩
  obtain ⟨A, hAA⟩ := rule_right hq1 hq2
  obtain ⟨b1, e1, hu1⟩ := hr1.len0
  obtain ⟨b2, e2, hu2⟩ := hr2.len0
  have hRz : RZ (w1.alloc (.cells #[.bool false, .bool false, .bool false, .bool false, .bool false, .bool false, .bool false, .slice none 0 0, .slice none 0 0] 26)) w1.heap.size (fun _ => false) (.slice none 0 0) (.slice none 0 0) := heap_alloc_new _ _
  have hst := run_rlSt (wk' := wk) (u1 := u1) (u2 := u2) hRz (by rw [hu1]; rfl) (by rw [hu2]; rfl)
  have hbS : Below w1.heap.size w1 (putR (w1.alloc (.cells #[.bool false, .bool false, .bool false, .bool false, .bool false, .bool false, .bool false, .slice none 0 0, .slice none 0 0] 26)) w1.heap.size wk u1 u2) := putR_below (alloc_below _ _) (Nat.le_refl _)
  have HL := hid (show LS w w1.heap.size wk u1 u2 (Q1.map dT) (Q2.map dT) (putR (w1.alloc (.cells #[.bool false, .bool false, .bool false, .bool false, .bool false, .bool false, .bool false, .slice none 0 0, .slice none 0 0] 26)) w1.heap.size wk u1 u2) from
    ⟨hRz.put wk u1 u2, hr1.below hbS, hr2.below hbS, (HA.out.below hb1).below hbS, hb1.trans (hbS.mono hb1.size)⟩)
  generalize putR (w1.alloc (.cells #[.bool false, .bool false, .bool false, .bool false, .bool false, .bool false, .bool false, .slice none 0 0, .slice none 0 0] 26)) w1.heap.size wk u1 u2 = wS at *
  have HAA := hid hAA
  clear hr1 hr2 hq1 hq2 hb1 hbS hRz HR hAA hu1 hu2 HA
  go_wp2_with fail
  refine (HW1.out _).mono ?_
  rintro e w2 ⟨rfl, rfl⟩
  go_wp2_with fail
  refine (HW2.out _).mono ?_
  rintro e w2 ⟨rfl, rfl⟩
  obtain ⟨fr, hfr⟩ : ∃ fr : Int, 730000 + z1 = fr := ⟨_, rfl⟩
  have hf1 : 730000 ≤ fr ∧ fr ≤ 732000 := by omega
  have T1 := hid (fun w h => at_in fr (by omega) w h)
  have T2 := hid (fun w h => at_in (fr + (Z : Int)) (by omega) w h)
  have CN := hid (fun wx (h : LS w w1.heap.size wk u1 u2 (Q1.map dT) (Q2.map dT) wx) => count_in HAA.out fr (fr + (Z : Int)) (by omega) (by omega) wx h)
  unfold rlV rlC at CN
  unfold dV at T1 T2 CN
  have KK := hid (fun wx (h : LaterB w2 wx) => run_rlLd (HL.out.later h).1)
  have sd : LaterB w2 w2.drew := (Below.refl _ _).drew
  go_wp2_with fail
  go_region_held (fun wx => (rlLd ⟨w1.heap.size, 0, none⟩).run Tryd.prog wx = .ok (.agg #[.bool (wk 0), .bool (wk 1), .bool (wk 2), .bool (wk 3), .bool (wk 4), .bool (wk 5), .bool (wk 6), u1, u2]) wx) (first | exact KK.out _ (by assumption) | go_keep) (first
    | (go_at_call 8; first
        | (refine (T2.out _ (HL.out.later s3).2.2.2.1).mono ?_; rintro e w4 ⟨rfl, hb4⟩; have s4 : LaterB w2 w4 := LaterB.call s3 hb4; clear hb4)
        | (refine (T1.out _ (HL.out.later sd).2.2.2.1).mono ?_; rintro e w3 ⟨rfl, hb3⟩; have s3 : LaterB w2 w3 := LaterB.call sd hb3; clear hb3))
    | (go_at_call 7; refine (CN.out _ (HL.out.later s4)).mono ?_; rintro e w5 ⟨rfl, hb5⟩; have s5 : LaterB w2 w5 := LaterB.call s4 hb5; clear hb5))
  have S5 := hid s5
  have HCN := hid (show cntO wk A fr (fr + (Z : Int)) = ((List.range Z).filter fun i : Nat => isOp wk A (fr + i)).length by unfold cntO; rw [show (fr + (Z : Int) - fr).toNat = Z by omega])
  obtain ⟨cN, hcN⟩ : ∃ cN : Int, (cntO wk A fr (fr + (Z : Int)) : Int) = cN := ⟨_, rfl⟩
  rw [hcN]
  have HcN := hid hcN
  clear sd s3 s4 s5 KK T2 CN hst hcN hi2
  go_wp2
  go_loopg [16, 17, 18, 19] Z (fun k s16 s17 s18 s19 wr => ∃ (j : Nat) (m f l : Int), j ≤ Z ∧ Z - j ≤ k ∧ s16 = .int .i64 m ∧ s17 = .int .i64 f ∧ s18 = .int .i64 l ∧ s19 = .int .i64 (fr + (j : Int)) ∧ Hid (StI wk A fr j m f l) ∧ Hid (LaterB w2 wr) ∧ 0 ≤ m ∧ m ≤ j)
  case atStart => exact ⟨0, 0, -1, -1, Nat.zero_le _, Nat.le_refl _, rfl, rfl, rfl, by simp, hid (StI.zero _ _ _), S5, by omega, by omega⟩
  case round =>
    obtain ⟨j, m, f, l, hj, hk, rfl, rfl, rfl, rfl, HST, HSr, hm0, hmj⟩ := hrel
    have HLr := hid (HL.out.later HSr.out)
    have sd : LaterB wr wr.drew := (Below.refl _ _).drew
    have KK := hid (fun wx (h : LaterB wr wx) => run_rlLd (HLr.out.later h).1)
    by_cases hjz : j < Z
    · have hjz' : (j : Int) < (Z : Int) := by omega
      have T1j := hid (fun w h => at_in (fr + j) (by omega) w h)
      have OPj := hid (fun wx (h : LS w w1.heap.size wk u1 u2 (Q1.map dT) (Q2.map dT) wx) => open_in HAA.out (fr + j) (by omega) wx h)
      unfold rlV rlC at OPj
      unfold dV at T1j OPj
      go_wp2_with fail
      go_region_held (fun wx => (rlLd ⟨w1.heap.size, 0, none⟩).run Tryd.prog wx = .ok (.agg #[.bool (wk 0), .bool (wk 1), .bool (wk 2), .bool (wk 3), .bool (wk 4), .bool (wk 5), .bool (wk 6), u1, u2]) wx) (first | exact KK.out _ (by assumption) | go_keep) (first
        | (go_at_call 8; refine (T1j.out _ (HLr.out.later sd).2.2.2.1).mono ?_; rintro e w3 ⟨rfl, hb3⟩; have s3 : LaterB wr w3 := LaterB.call sd hb3; clear hb3)
        | (go_at_call 9; refine (OPj.out _ (HLr.out.later s3)).mono ?_; rintro e w4 ⟨rfl, hb4⟩; have s4 : LaterB wr w4 := LaterB.call s3 hb4; clear hb4))
      have S4 := hid (show LaterB w2 w4 from Below.trans HSr.out (Below.mono s4 (Below.size HSr.out)))
      clear sd s3 s4 KK T1j OPj
      by_cases hop : isOp wk A (fr + (j : Int)) = true
      · rw [hop]
        have HY := hid (HST.out.yes (by omega) hop)
        by_cases hf : f < 0
        · rw [if_pos hf] at HY
          go_wp2
          go_roundg (gk - 1)
          case measure => omega
          case rel => exact ⟨j + 1, m + 1, fr + j, fr + j, by omega, by omega, rfl, rfl, rfl, by first | rfl | go_num | (congr 1; omega), HY, S4, by omega, by omega⟩
        · rw [if_neg hf] at HY
          go_wp2
          go_roundg (gk - 1)
          case measure => omega
          case rel => exact ⟨j + 1, m + 1, f, fr + j, by omega, by omega, rfl, rfl, rfl, by first | rfl | go_num | (congr 1; omega), HY, S4, by omega, by omega⟩
      · have hop2 : isOp wk A (fr + (j : Int)) = false := by simpa using hop
        rw [hop2]
        have HY := hid (HST.out.no hop2)
        go_wp2
        go_roundg (gk - 1)
        case measure => omega
        case rel => exact ⟨j + 1, m, f, l, by omega, by omega, rfl, rfl, rfl, by first | rfl | go_num | (congr 1; omega), HY, S4, by omega, by omega⟩
    · have hjz' : ¬ (j : Int) < (Z : Int) := by omega
      obtain rfl : j = Z := by omega
      have hcm : cN = m := by rw [← HcN.out, HCN.out]; exact HST.out.1.symm
      subst hcm
      obtain ⟨X0, X1, X2, E0, hXE, M0⟩ : ∃ X0 X1 X2 E0 : Int, ((isOp wk A fr = true ∧ X0 = dY fr ∧ X1 = dM fr ∧ X2 = dD fr ∧ E0 = 0) ∨ (isOp wk A fr = false ∧ E0 = 37)) ∧ Hid (∀ wx, LS w w1.heap.size wk u1 u2 (Q1.map dT) (Q2.map dT) wx → Calls Tryd.prog 10 #[rlV wk u1 u2, dV (dY fr) (dM fr) (dD fr), .int .i64 0] wx fun e w' => e = .returned (.tuple #[dV X0 X1 X2, .int .i64 E0]) ∧ Below wx.heap.size wx w') := by
        by_cases ho : isOp wk A fr = true
        · refine ⟨_, _, _, _, .inl ⟨ho, rfl, rfl, rfl, rfl⟩, fun wx h => (move0_in HAA.out fr (by omega) wx h).mono ?_⟩
          rintro e w' ⟨⟨_, rfl⟩ | ⟨h2, _⟩, hb⟩
          · exact ⟨rfl, hb⟩
          · rw [ho] at h2; cases h2
        · have ho2 : isOp wk A fr = false := by simpa using ho
          refine ⟨0, 0, 0, _, .inr ⟨ho2, rfl⟩, fun wx h => (move0_in HAA.out fr (by omega) wx h).mono ?_⟩
          rintro e w' ⟨⟨h2, _⟩ | ⟨_, rfl⟩, hb⟩
          · rw [ho2] at h2; cases h2
          · exact ⟨rfl, hb⟩
      have HXE := hid hXE
      clear hXE
      unfold rlV rlC at M0
      unfold dV at M0
      have sa : LaterB wr (wr.drew.alloc (.cells #[.int .i64 0, .int .i64 0, .int .i64 0] 33)) := LaterB.call sd (alloc_below _ _)
      clear HCN HcN hk hjz hjz'
      go_upto_region 21 with fail
      go_cut [22, 23] (fun s22 s23 wx => ∃ gx : Nat, s22 = .pointer (some ⟨gx, 0, none⟩) ∧ s23 = .int .i64 E0 ∧ Hid (Box wx gx X0 X1 X2) ∧ Hid (LaterB wr wx))
      case first =>
        go_region_held (fun wx => (rlLd ⟨w1.heap.size, 0, none⟩).run Tryd.prog wx = .ok (.agg #[.bool (wk 0), .bool (wk 1), .bool (wk 2), .bool (wk 3), .bool (wk 4), .bool (wk 5), .bool (wk 6), u1, u2]) wx) (first | exact KK.out _ (by assumption) | exact KK.out _ (LaterB.call (by assumption) (alloc_below _ _)) | exact KK.out _ (laterB_set3 s4 (Nat.le_refl _)) | exact KK.out _ (laterB_set3 s4 (Below.size s3)) | go_keep) (first
          | (go_at_call 8; first
              | (refine (T1.out _ (HLr.out.later sd).2.2.2.1).mono ?_; rintro e w3 ⟨rfl, hb3⟩; have s3 : LaterB wr w3 := LaterB.call sd hb3; clear hb3)
              | (refine (T1.out _ (HLr.out.later sa).2.2.2.1).mono ?_; rintro e w3 ⟨rfl, hb3⟩; have s3 : LaterB wr w3 := LaterB.call sa hb3; have B3 : Box w3 wr.heap.size 0 0 0 := (Box.new wr.drew 0 0 0).later hb3; clear hb3))
          | (go_at_call 10; first
              | (refine (M0.out _ (HLr.out.later s3)).mono ?_; rintro e w4 ⟨rfl, hb4⟩; have s4 : LaterB wr w4 := LaterB.call s3 hb4; try (have B4 := B3.later hb4; obtain ⟨k0, k1, k2, k3, k4, k5, _⟩ := B4.facts); clear hb4)
              | (refine (M0.out _ (HLr.out.later (LaterB.call s3 (alloc_below _ (.cells #[.int .i64 0, .int .i64 0, .int .i64 0] 33))))).mono ?_; rintro e w4 ⟨rfl, hb4⟩; have s4 : LaterB wr w4 := LaterB.call (LaterB.call s3 (alloc_below _ (.cells #[.int .i64 0, .int .i64 0, .int .i64 0] 33))) hb4; have B4 : Box w4 w3.heap.size 0 0 0 := (Box.new w3 0 0 0).later hb4; obtain ⟨k0, k1, k2, k3, k4, k5, _⟩ := B4.facts; clear hb4)))
        · go_wp2_with fail
          go_meet
          case rel => exact ⟨w4.heap.size, rfl, rfl, hid (Box.new w4 _ _ _), hid (LaterB.call s4 (alloc_below _ _))⟩
        · go_wp2_with fail
          go_meet
          case rel => exact ⟨w3.heap.size, rfl, rfl, hid (B4.put X0 X1 X2), hid (laterB_set3 s4 (Below.size s3))⟩
        · go_wp2_with fail
          go_meet
          case rel => exact ⟨wr.heap.size, rfl, rfl, hid (B4.put X0 X1 X2), hid (laterB_set3 s4 (Nat.le_refl _))⟩
      case rest =>
        obtain ⟨gx, rfl, rfl, HBx, HSx⟩ := hcut
        clear KK sd sa M0
        have HSy := hid (show LaterB w2 wc from Below.trans HSr.out (Below.mono HSx.out (Below.size HSr.out)))
        go_upto_region 22 with fail
        go_cut [110] (fun s110 wx => s110 = .bool false ∧ Hid (LaterB wc wx))
        case first =>
          obtain ⟨x0, x1, x2, _⟩ := HBx.out.facts
          rcases HST.out.2 with ⟨e1, e2, e3, e4⟩ | ⟨p, q', e1, e2, e3, e4, e5, e6, e7, e8, e9⟩
          · have g1 : ¬ f = fr := by omega
            have b1 : (f == fr) = false := by simp [g1]
            have b3 : (f != fr) = true := by simp [g1]
            by_cases hj0 : j = 0
            · subst hj0
              clear e1 e2 e3 e4 HXE
              go_wp2_with fail
              go_quiet (fail)
              go_wp2
              go_meet
              case rel => exact ⟨rfl, hid (below_drewN (Below.refl _ _) nq)⟩
            · have g2d : decide (fr < fr + (j : Int)) = true := decide_eq_true (by omega)
              have hE : E0 = 37 := by
                rcases HXE.out with ⟨h, _⟩ | ⟨_, h⟩
                · have := e4 0 (by omega)
                  rw [show fr + ((0 : Nat) : Int) = fr by omega, h] at this
                  cases this
                · exact h
              subst hE
              clear e1 e2 e3 e4 HXE
              go_wp2_with fail
              go_quiet (fail)
              go_wp2
              go_meet
              case rel => exact ⟨rfl, hid (below_drewN (Below.refl _ _) nq)⟩
          · have g2d : decide (fr < fr + (j : Int)) = true := decide_eq_true (by omega)
            by_cases hp : p = 0
            · have g1 : f = fr := by omega
              have hE : X0 = dY fr ∧ X1 = dM fr ∧ X2 = dD fr ∧ E0 = 0 := by
                rcases HXE.out with ⟨_, h⟩ | ⟨h, _⟩
                · exact h
                · rw [hp, show fr + ((0 : Nat) : Int) = fr by omega, h] at e5
                  cases e5
              obtain ⟨rfl, rfl, rfl, rfl⟩ := hE
              have sdx : LaterB wc wc.drew := (Below.refl _ _).drew
              have KX := hid (fun wx (h : LaterB wc wx) => (show wx.cell? ⟨gx, 0, none⟩ = some (.int .i64 (dY fr)) ∧ wx.cell? ⟨gx, 1, none⟩ = some (.int .i64 (dM fr)) ∧ wx.cell? ⟨gx, 2, none⟩ = some (.int .i64 (dD fr)) from ⟨(HBx.out.later h).facts.1, (HBx.out.later h).facts.2.1, (HBx.out.later h).facts.2.2.1⟩))
              have b1 : (f == fr) = true := by simp [g1]
              have b3 : (f != fr) = false := by simp [g1]
              clear g1 e3 e4 e5 e6 e7 e8 e9 HXE
              go_wp2_with fail
              first | go_region_held (fun wx => wx.cell? ⟨gx, 0, none⟩ = some (.int .i64 (dY fr)) ∧ wx.cell? ⟨gx, 1, none⟩ = some (.int .i64 (dM fr)) ∧ wx.cell? ⟨gx, 2, none⟩ = some (.int .i64 (dD fr))) (first | exact KX.out _ (by assumption) | go_keep) (first
                | (go_at_call 8; refine (T1.out _ ((HL.out.later HSy.out).later sdx).2.2.2.1).mono ?_; rintro e w3 ⟨rfl, hb3⟩; have s3 : LaterB wc w3 := LaterB.call sdx hb3; clear hb3)) | fail
              all_goals (go_wp2_with fail)
              go_meet
              case rel => exact ⟨rfl, hid s3⟩
            · have g1 : ¬ f = fr := by omega
              have b1 : (f == fr) = false := by simp [g1]
              have b3 : (f != fr) = true := by simp [g1]
              have hE : E0 = 37 := by
                rcases HXE.out with ⟨h, _⟩ | ⟨_, h⟩
                · have := e7 0 (by omega)
                  rw [show fr + ((0 : Nat) : Int) = fr by omega, h] at this
                  cases this
                · exact h
              subst hE
              clear e3 e4 e5 e6 e7 e8 e9 HXE
              go_wp2_with fail
              go_quiet (fail)
              go_wp2
              go_meet
              case rel => exact ⟨rfl, hid (below_drewN (Below.refl _ _) nq)⟩
        case rest =>
          obtain ⟨rfl, HSz⟩ := hcut
          rename_i wd1
          have HL2 := hid ((HL.out.later HSy.out).later HSz.out)
          clear HBx HSx HSy HXE HLr HSr
          rcases HST.out.2 with ⟨e1, e2, e3, e4⟩ | ⟨p, q', e1, e2, e3, e4, e5, e6, e7, e8, e9⟩
          · have g0 : f < 0 := by omega
            clear e1 e2 e3 e4
            go_wp2
            go_ret
            exact ⟨rfl, HL2.out.2.2.2.2⟩
          · have g0 : ¬ f < 0 := by omega
            by_cases hpq : p = q'
            · have b1 : (f == l) = true := by simp; omega
              clear e1 e2 e3 e4 e5 e6 e7 e8 e9 hpq
              go_wp2
              go_ret
              exact ⟨rfl, HL2.out.2.2.2.2⟩
            · have b1 : (f == l) = false := by simp; omega
              have hd1 : 1 ≤ q' - p := by omega
              have E5 := hid e5
              have E6 := hid e6
              have hfp : f = fr + (p : Int) := e3
              have hlq : l = fr + (q' : Int) := e4
              have hql : f + ((q' - p : Nat) : Int) * 1 = l := by omega
              have hqf : l + ((q' - p : Nat) : Int) * (-1) = f := by omega
              have hmc : (mcn wk A f 1 (q' - p) : Int) = (cN - 1) * 1 := by rw [e3]; omega
              have hmb : (mcn wk A l (-1) (q' - p) : Int) = (1 - cN) * (-1) := by
                have := mcn_both wk A f (q' - p)
                rw [show f + ((q' - p : Nat) : Int) = l by omega, show isOp wk A l = true by rw [e4]; exact e6, show isOp wk A f = true by rw [e3]; exact e5] at this
                omega
              have hm1 : 1 ≤ mcn wk A f 1 (q' - p) := by
                obtain ⟨r, hr⟩ : ∃ r, q' - p = r + 1 := ⟨q' - p - 1, by omega⟩
                rw [hr, mcn_succ, show f + ((r : Int) + 1) * 1 = l by omega, show isOp wk A l = true by rw [e4]; exact e6]
                simp
              have M1 := hid (fun wx (h : LS w w1.heap.size wk u1 u2 (Q1.map dT) (Q2.map dT) wx) => movej_in HAA.out f (cN - 1) 1 (.inl rfl) (q' - p) hd1 (by omega) (by rw [hql]; omega) hmc (by rw [hql, e4]; exact e6) (by omega) (by omega) wx h)
              have M2 := hid (fun wx (h : LS w w1.heap.size wk u1 u2 (Q1.map dT) (Q2.map dT) wx) => movej_in HAA.out l (1 - cN) (-1) (.inr rfl) (q' - p) hd1 (by omega) (by rw [hqf]; omega) hmb (by rw [hqf, e3]; exact e5) (by omega) (by omega) wx h)
              rw [hql] at M1
              rw [hqf] at M2
              have Tf := hid (fun w h => at_in f (by omega) w h)
              have Tl := hid (fun w h => at_in l (by omega) w h)
              unfold rlV rlC at M1 M2
              unfold dV at M1 M2 Tf Tl
              have hcN2 : 2 ≤ cN ∧ cN ≤ 401 := by omega
              have hwr : IntKind.i64.wrap (cN - 1) = cN - 1 := by rw [IntKind.wrap_i64]; omega
              clear e1 e2 e3 e4 e5 e6 e7 e8 e9 hpq hfp hlq hql hqf hmc hmb hm1 hd1 E5 E6 HST
              have sd : LaterB wc wc.drew := (Below.refl _ _).drew
              have KK := hid (fun wx (h : LaterB wc wx) => run_rlLd (HL2.out.later h).1)
              have sa : LaterB wc (wc.drew.alloc (.cells #[.int .i64 0, .int .i64 0, .int .i64 0] 33)) := LaterB.call sd (alloc_below _ _)
              go_upto_region 26 with fail
              go_cut [24, 25] (fun s24 s25 wx => ∃ gy : Nat, s24 = .pointer (some ⟨gy, 0, none⟩) ∧ s25 = .int .i64 0 ∧ Hid (Box wx gy (dY l) (dM l) (dD l)) ∧ Hid (LaterB wc wx))
              case first =>
                go_region_held (fun wx => (rlLd ⟨w1.heap.size, 0, none⟩).run Tryd.prog wx = .ok (.agg #[.bool (wk 0), .bool (wk 1), .bool (wk 2), .bool (wk 3), .bool (wk 4), .bool (wk 5), .bool (wk 6), u1, u2]) wx) (first | exact KK.out _ (by assumption) | exact KK.out _ (LaterB.call (by assumption) (alloc_below _ _)) | exact KK.out _ (laterB_set3 s4 (Nat.le_refl _)) | exact KK.out _ (laterB_set3 s4 (Below.size s3)) | go_keep) (first
                  | (go_at_call 8; first
                      | (refine (Tf.out _ (HL2.out.later sd).2.2.2.1).mono ?_; rintro e w3 ⟨rfl, hb3⟩; have s3 : LaterB wc w3 := LaterB.call sd hb3; clear hb3)
                      | (refine (Tf.out _ (HL2.out.later sa).2.2.2.1).mono ?_; rintro e w3 ⟨rfl, hb3⟩; have s3 : LaterB wc w3 := LaterB.call sa hb3; have B3 : Box w3 wc.heap.size 0 0 0 := (Box.new wc.drew 0 0 0).later hb3; clear hb3))
                  | (go_at_call 10; first
                      | (refine (M1.out _ (HL2.out.later s3)).mono ?_; rintro e w4 ⟨rfl, hb4⟩; have s4 : LaterB wc w4 := LaterB.call s3 hb4; try (have B4 := B3.later hb4; obtain ⟨k0, k1, k2, k3, k4, k5, _⟩ := B4.facts); clear hb4)
                      | (refine (M1.out _ (HL2.out.later (LaterB.call s3 (alloc_below _ (.cells #[.int .i64 0, .int .i64 0, .int .i64 0] 33))))).mono ?_; rintro e w4 ⟨rfl, hb4⟩; have s4 : LaterB wc w4 := LaterB.call (LaterB.call s3 (alloc_below _ (.cells #[.int .i64 0, .int .i64 0, .int .i64 0] 33))) hb4; have B4 : Box w4 w3.heap.size 0 0 0 := (Box.new w3 0 0 0).later hb4; obtain ⟨k0, k1, k2, k3, k4, k5, _⟩ := B4.facts; clear hb4)))
                · go_wp2_with fail
                  go_meet
                  case rel => exact ⟨w4.heap.size, rfl, rfl, hid (Box.new w4 _ _ _), hid (LaterB.call s4 (alloc_below _ _))⟩
                · go_wp2_with fail
                  go_meet
                  case rel => exact ⟨w3.heap.size, rfl, rfl, hid (B4.put _ _ _), hid (laterB_set3 s4 (Below.size s3))⟩
                · go_wp2_with fail
                  go_meet
                  case rel => exact ⟨wc.heap.size, rfl, rfl, hid (B4.put _ _ _), hid (laterB_set3 s4 (Nat.le_refl _))⟩
              case rest =>
                obtain ⟨gy, rfl, rfl, HBy, HSw⟩ := hcut
                have HL3 := hid (HL2.out.later HSw.out)
                have hld := run_rlLd HL3.out.1
                obtain ⟨y0, y1, y2, _⟩ := HBy.out.facts
                clear KK sd sa M1 HL2 HSw
                go_wp2_with fail
                refine (M2.out _ HL3.out).mono ?_
                rintro e w6 ⟨rfl, hb6⟩
                obtain ⟨w7, hw7⟩ : ∃ w7, w6.alloc (.cells #[.int .i64 (dY f), .int .i64 (dM f), .int .i64 (dD f)] 33) = w7 := ⟨_, rfl⟩
                have b7 : Below w6.heap.size w6 w7 := by rw [← hw7]; exact alloc_below _ _
                have hb7 := hb6.trans (b7.mono hb6.size)
                have HL7 := hid (HL3.out.later hb7)
                have HY7 := hid (HBy.out.later hb7)
                have HZ7 := hid (show Box w7 w6.heap.size (dY f) (dM f) (dD f) by rw [← hw7]; exact Box.new _ _ _ _)
                have sd : LaterB w7 w7.drew := (Below.refl _ _).drew
                have KX := hid (fun wx (h : LaterB w7 wx) => (show (wx.cell? ⟨gy, 0, none⟩ = some (.int .i64 (dY l)) ∧ wx.cell? ⟨gy, 1, none⟩ = some (.int .i64 (dM l)) ∧ wx.cell? ⟨gy, 2, none⟩ = some (.int .i64 (dD l))) ∧ wx.cell? ⟨w6.heap.size, 0, none⟩ = some (.int .i64 (dY f)) ∧ wx.cell? ⟨w6.heap.size, 1, none⟩ = some (.int .i64 (dM f)) ∧ wx.cell? ⟨w6.heap.size, 2, none⟩ = some (.int .i64 (dD f)) from ⟨⟨(HY7.out.later h).facts.1, (HY7.out.later h).facts.2.1, (HY7.out.later h).facts.2.2.1⟩, (HZ7.out.later h).facts.1, (HZ7.out.later h).facts.2.1, (HZ7.out.later h).facts.2.2.1⟩))
                clear b7 hb7 hb6 HL3 HBy y0 y1 y2 M2 hld
                go_wp2_with fail
                first | go_region_held (fun wx => (wx.cell? ⟨gy, 0, none⟩ = some (.int .i64 (dY l)) ∧ wx.cell? ⟨gy, 1, none⟩ = some (.int .i64 (dM l)) ∧ wx.cell? ⟨gy, 2, none⟩ = some (.int .i64 (dD l))) ∧ wx.cell? ⟨w6.heap.size, 0, none⟩ = some (.int .i64 (dY f)) ∧ wx.cell? ⟨w6.heap.size, 1, none⟩ = some (.int .i64 (dM f)) ∧ wx.cell? ⟨w6.heap.size, 2, none⟩ = some (.int .i64 (dD f))) (first | exact KX.out _ (by assumption) | go_keep) (first
                  | (go_at_call 8; first
                      | (refine (Tf.out _ (HL7.out.later s8).2.2.2.1).mono ?_; rintro e w9 ⟨rfl, hb9⟩; have s9 : LaterB w7 w9 := LaterB.call s8 hb9; clear hb9)
                      | (refine (Tl.out _ (HL7.out.later sd).2.2.2.1).mono ?_; rintro e w8 ⟨rfl, hb8⟩; have s8 : LaterB w7 w8 := LaterB.call sd hb8; clear hb8))) | fail
                have HE := hid ((HL7.out.later s9).2.2.2.2)
                clear s8 s9 sd
                go_wp2
                go_ret
                exact ⟨rfl, HE.out⟩
end Go.Proofs.YtipgmiblphfboaaDoor
