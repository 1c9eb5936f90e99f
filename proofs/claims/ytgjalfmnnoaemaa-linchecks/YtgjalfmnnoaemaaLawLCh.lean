/-
  LinChecks: the walk.
-/
import Derived.Test.YtgjalfmnnoaemaaLh7
import Derived.Test.YtgjalfmnnoaemaaLh9
import Derived.Deep.RegionHeld3
namespace Go.Proofs.Ytgjalfmnnoaemaa
open Go.RowKit
set_option maxRecDepth 100000

attribute [local go_sem ↓] opLd_op
set_option maxHeartbeats 2000000 in
theorem ahead_any (x y : Opx) (v1 v2 u1 u2 : Value) (w : World) :
    Calls Try.prog 9 #[opA x v1 v2, opA y u1 u2] w fun e w' => e = .returned (.bool (decide (x.fin < y.beg))) ∧ Below w.heap.size w w' := by
  unfold opA opC
  have HB := hid (show ∀ x y, Below w.heap.size w ((w.alloc x).alloc y) from fun x y => ((Below.refl _ _).alloc (Nat.le_refl _) _).alloc (by simp) _)
  go_enter Try.func9, Try.ntmps9
  go_wp2_with fail
  go_ret
  exact ⟨rfl, HB.out _ _⟩
set_option maxHeartbeats 2000000 in
theorem rahead_any (x y : Opx) (v1 v2 u1 u2 : Value) (w : World) :
    Calls Try.prog 10 #[opA x v1 v2, opA y u1 u2] w fun e w' => e = .returned (.bool (decide (x.fin < y.beg))) ∧ Below w.heap.size w w' := by
  unfold opA opC
  have HB := hid (show ∀ x y, Below w.heap.size w ((w.alloc x).alloc y) from fun x y => ((Below.refl _ _).alloc (Nat.le_refl _) _).alloc (by simp) _)
  go_enter Try.func10, Try.ntmps10
  go_wp2_with fail
  go_ret
  exact ⟨rfl, HB.out _ _⟩
/-- nothing older than w has turned -/
def LtB (w w' : World) : Prop := Below w.heap.size w w'
theorem LtB.step {w w1 w2 : World} (h : LtB w w1) (k : Below w1.heap.size w1 w2) : LtB w w2 := Below.trans h (k.mono (Below.size h))
set_option maxHeartbeats 4000000 in
theorem linChecks_walk (v : Value) (L : List Opx) (w : World) (h1 : RO w v L) (hL : LOk L) :
    Calls Try.prog 3 #[v] w fun e w' => e = .returned (.bool true) ∧ Below w.heap.size w w' := by
  have H1 := hid h1
  have HL := hid hL
  have HT := hid (twin_is v L w h1 hL)
  obtain ⟨a1, p1, rfl⟩ := h1.form
  clear h1 hL
  go_enter Try.func3, Try.ntmps3
  go_wp2_with fail
  refine Calls.mono HT.out ?_
  rintro e w1 ⟨⟨t, rfl, hto⟩, hb1⟩
  have HTO := hid hto
  have B1 := hid hb1
  have HC := hid (check_any t L w1 hto.reads)
  obtain ⟨a2, p2, rfl⟩ := hto.reads.form
  clear HT hto hb1
  go_wp2_with fail
  refine Calls.mono HC.out ?_
  rintro e w2 ⟨⟨ea, en, rfl, hck⟩, hb2⟩
  have HCK := hid hck
  have B2 := hid (B1.out.trans (hb2.mono B1.out.size))
  have HTO2 := hid (HTO.out.below hb2)
  have HC2 := hid (rcheck_any _ L w2 (H1.out.below B2.out))
  clear HC hck hb2 HTO
  go_wp2_with fail
  refine Calls.mono HC2.out ?_
  rintro e w3 ⟨⟨ea', en', rfl, hck⟩, hb3⟩
  obtain ⟨rfl, rfl⟩ := HCK.out.same hck
  have B3 := hid (B2.out.trans (hb3.mono B2.out.size))
  have HTO3 := hid (HTO2.out.below hb3)
  have H3 := hid (H1.out.below B3.out)
  clear HC2 hck hb3 HTO2 HCK B2 B1 H1
  go_wp2_with fail
  go_loopw [8] (fun i wr => ∃ k : Nat, k ≤ L.length ∧ i = .int .i64 (k : Int) ∧ LtB w3 wr) (fun i _ => L.length - (intOf i).toNat)
  case atStart => exact ⟨0, by omega, rfl, Below.refl _ _⟩
  case round =>
    obtain ⟨k, hk, rfl, hbl⟩ := hrel
    have HBl := hid hbl
    have hlen := HL.out.1
    by_cases hlt : k < L.length ∧ k < 10
    · have hI : (k : Int) < (L.length : Int) := by omega
      have hJ : (k : Int) < 10 := by omega
      obtain ⟨wo, rfl⟩ : ∃ wo, wo = wr := ⟨_, rfl⟩
      clear hbl
      go_wp2_with fail
      go_loopw [9] (fun i wr => ∃ m : Nat, m ≤ L.length ∧ i = .int .i64 (m : Int) ∧ LtB w3 wr) (fun i _ => L.length - (intOf i).toNat)
      case atStart => exact ⟨0, by omega, rfl, HBl.out⟩
      case round =>
        obtain ⟨m, hm, rfl, hbl⟩ := hrel
        have HBm := hid hbl
        by_cases hmt : m < L.length ∧ m < 10
        · have hI2 : (m : Int) < (L.length : Int) := by omega
          have hJ2 : (m : Int) < 10 := by omega
          obtain ⟨b, off, cap, v1, v2, e1, _, o1, _, _⟩ := (HTO3.out.reads.below hbl).at k hlt.1
          obtain ⟨_, _, _, v3, v4, e2, _, o2, _, _⟩ := (HTO3.out.reads.below hbl).at m hmt.1
          obtain ⟨b', off', cap', v5, v6, e3, _, o3, _, _⟩ := (H3.out.below hbl).at k hlt.1
          obtain ⟨_, _, _, v7, v8, e4, _, o4, _, _⟩ := (H3.out.below hbl).at m hmt.1
          cases e1
          cases e2
          cases e3
          cases e4
          have E1 : ∀ wx, LtB wr wx → _ := fun wx h => run_opLd (o1.below h)
          have E2 : ∀ wx, LtB wr wx → _ := fun wx h => run_opLd (o2.below h)
          have E3 : ∀ wx, LtB wr wx → _ := fun wx h => run_opLd (o3.below h)
          have E4 : ∀ wx, LtB wr wx → _ := fun wx h => run_opLd (o4.below h)
          have CA := hid (fun wx => ahead_any (L[k]'hlt.1) (L[m]'hmt.1) v1 v2 v3 v4 wx)
          have CB := hid (fun wx => rahead_any (L[k]'hlt.1) (L[m]'hmt.1) v5 v6 v7 v8 wx)
          generalize decide ((L[k]'hlt.1).fin < (L[m]'hmt.1).beg) = q at CA CB
          generalize opA (L[k]'hlt.1) v1 v2 = X1 at E1 CA
          generalize opA (L[m]'hmt.1) v3 v4 = X2 at E2 CA
          generalize opA (L[k]'hlt.1) v5 v6 = X3 at E3 CB
          generalize opA (L[m]'hmt.1) v7 v8 = X4 at E4 CB
          have K0 : LtB wr wr := Below.refl _ _
          have K1 : LtB wr wr.drew := (Below.refl _ _).drew
          clear o1 o2 o3 o4 hbl
          go_wp2_with fail
          go_region_held3 (fun wx => LtB wr wx) (assumption) (first
            | (go_at_call 9; refine (CA.out _).mono ?_; rintro e w4 ⟨rfl, s4⟩; have K4 := LtB.step (by assumption) s4; clear s4)
            | (go_at_call 10; refine (CB.out _).mono ?_; rintro e w5 ⟨rfl, s5⟩; have K5 := LtB.step (by assumption) s5; clear s5))
          all_goals
            clear E1 E2 E3 E4
            go_wp2
            go_roundw
            case rel => first | exact ⟨m + 1, by omega, by go_num, HBm.out.step K5⟩ | exact ⟨m + 1, by omega, by go_num, HBm.out.step K4⟩
            case measure => simp [intOf]; omega
        · have hr : ¬ ((m : Int) < (L.length : Int)) ∨ ¬ ((m : Int) < 10) := by omega
          clear hbl
          rcases hr with hr | hr
          · go_wp2
            go_roundw
            case rel => exact ⟨k + 1, by omega, by go_num, HBm.out⟩
            case measure => simp [intOf]; omega
          · by_cases hr2 : (m : Int) < (L.length : Int)
            all_goals
              go_wp2
              go_roundw
              case rel => exact ⟨k + 1, by omega, by go_num, HBm.out⟩
              case measure => simp [intOf]; omega
    · have hr : ¬ ((k : Int) < (L.length : Int)) ∨ ¬ ((k : Int) < 10) := by omega
      have HK := hid (kept_is _ _ L wr (HTO3.out.below hbl) (H3.out.below hbl))
      have B4 := hid (B3.out.trans (Below.mono hbl B3.out.size))
      clear hbl HBl
      rcases hr with hr | hr
      · go_wp2_with fail
        refine Calls.mono HK.out ?_
        rintro e w5 ⟨rfl, hb5⟩
        have B5 := hid (B4.out.trans (hb5.mono B4.out.size))
        clear HK hb5
        go_wp2
        go_ret
        exact ⟨rfl, B5.out⟩
      · by_cases hr2 : (k : Int) < (L.length : Int)
        all_goals
          go_wp2_with fail
          refine Calls.mono HK.out ?_
          rintro e w5 ⟨rfl, hb5⟩
          have B5 := hid (B4.out.trans (hb5.mono B4.out.size))
          clear HK hb5
          go_wp2
          go_ret
          exact ⟨rfl, B5.out⟩
end Go.Proofs.Ytgjalfmnnoaemaa
