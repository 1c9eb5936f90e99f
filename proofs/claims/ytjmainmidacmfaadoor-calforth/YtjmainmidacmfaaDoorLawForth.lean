/-
  CalForth: the law's own walk, out of the contracts.
-/
import Derived.Test.YtjmainmidacmfaaDoorCins
namespace Go.Proofs.YtjmainmidacmfaaDoor
open Go.RowKit
set_option maxRecDepth 100000

theorem mk_zero (n : Int) (h : 0 ≤ n ∧ n ≤ 3652424) : Mon (mk n 0) ∧ am n 0 = n := by
  obtain ⟨hd, hn⟩ := dt_is n h
  have hk : mk n 0 = 12 * dY n + dM n - 1 := by unfold mk; omega
  have hd' := hd
  obtain ⟨h1, h2, h3, h4, h5, h6⟩ := hd
  have e1 : mk n 0 / 12 = dY n := by omega
  have e2 : mk n 0 % 12 + 1 = dM n := by omega
  refine ⟨⟨by omega, by omega⟩, ?_⟩
  unfold am aD
  rw [e1, e2]
  rw [show min (dD n) (lg (dY n) (dM n)) = dD n by omega]
  exact hn

theorem addV_zero (t se : Int) (ht : Inst t) : addV t 0 se = if Inst (t + se) then rV (t + se) 0 else rV 0 35 := by
  unfold Inst at ht
  obtain ⟨hm, ha⟩ := mk_zero (t / 86400) (by omega)
  have hs : isum t 0 se = t + se := by unfold isum; rw [ha]; omega
  unfold addV
  rw [if_pos hm, hs]

/-- a span without years and months -/
theorem addSpan_zero (t v d h i s : Int) (back : Bool) (ht : Inst t) (hf : FSx 0 0 v d h i s) (se : Int) (hse : se = if back then -(spSe v d h i s) else spSe v d h i s) (w : World) (hA : HasAh w) :
    Calls Tryd.prog 13 #[.int .i64 t, sV 0 0 v d h i s, .bool back] w fun e w' => e = .returned (if Inst (t + se) then rV (t + se) 0 else rV 0 35) ∧ Below w.heap.size w w' := by
  rw [← addV_zero t se ht]
  exact addSpan_good t 0 0 v d h i s back ht hf w hA 0 se (by cases back <;> rfl) hse

set_option maxHeartbeats 4000000 in
theorem forth_any (z x1 x2 x3 x4 : Int) (b0 : -9223372036854775808 ≤ z ∧ z ≤ 9223372036854775807) (b1 : -9223372036854775808 ≤ x1 ∧ x1 ≤ 9223372036854775807) (b2 : -9223372036854775808 ≤ x2 ∧ x2 ≤ 9223372036854775807) (b3 : -9223372036854775808 ≤ x3 ∧ x3 ≤ 9223372036854775807) (b4 : -9223372036854775808 ≤ x4 ∧ x4 ≤ 9223372036854775807) (w : World) (hA : HasAh w) :
    Calls Tryd.prog 5 #[.int .i64 z, .int .i64 x1, .int .i64 x2, .int .i64 x3, .int .i64 x4] w fun e w' => e = .returned (.bool true) ∧ Below w.heap.size w w' := by
  have W0 := hid (fun w => within_any z 0 315569519999 b0 (by omega) (by omega) (by omega) w)
  have W1 := hid (fun w => within_any x1 0 1000000 b1 (by omega) (by omega) (by omega) w)
  have W2 := hid (fun w => within_any x2 0 100000 b2 (by omega) (by omega) (by omega) w)
  have W3 := hid (fun w => within_any x3 0 100000 b3 (by omega) (by omega) (by omega) w)
  have W4 := hid (fun w => within_any x4 0 999999999 b4 (by omega) (by omega) (by omega) w)
  have i0 := wi_in z 0 315569519999 (by omega)
  have i1 := wi_in x1 0 1000000 (by omega)
  have i2 := wi_in x2 0 100000 (by omega)
  have i3 := wi_in x3 0 100000 (by omega)
  have i4 := wi_in x4 0 999999999 (by omega)
  have HA := hid hA
  clear b0 b1 b2 b3 b4 hA
  generalize wi z 0 315569519999 = t at *
  generalize wi x1 0 1000000 = d at *
  generalize wi x2 0 100000 = h at *
  generalize wi x3 0 100000 = i at *
  generalize wi x4 0 999999999 = s at *
  have hf : FSx 0 0 0 d h i s := ⟨⟨⟨by omega, by omega⟩, ⟨by omega, by omega⟩, ⟨by omega, by omega⟩, ⟨by omega, by omega⟩, ⟨by omega, by omega⟩, ⟨by omega, by omega⟩, ⟨by omega, by omega⟩⟩, .inl rfl⟩
  have hf0 : FSx 0 0 0 0 0 0 0 := by decide
  have hf1 : FSx 0 0 1 0 0 0 0 := by decide
  have hn : d * 86400 + h * 3600 + i * 60 + s = spSe 0 d h i s := by unfold spSe; omega
  have hnb : 0 ≤ spSe 0 d h i s ∧ spSe 0 d h i s ≤ 100000000000 := by unfold spSe; omega
  have HF := hid (fun w hA => addSpan_zero t 0 d h i s false i0 hf (spSe 0 d h i s) rfl w hA)
  have HF0 := hid (fun w hA => addSpan_zero t 0 0 0 0 0 false i0 hf0 0 rfl w hA)
  have HF1 := hid (fun w hA => addSpan_zero t 1 0 0 0 0 false i0 hf1 604800 rfl w hA)
  have HB := hid (fun (hI : Inst (t + spSe 0 d h i s)) w hA => addSpan_zero (t + spSe 0 d h i s) 0 d h i s true hI hf (-(spSe 0 d h i s)) rfl w hA)
  clear hf hf0 hf1
  generalize spSe 0 d h i s = n at *
  rw [if_pos (show Inst (t + 0) from ⟨by omega, by omega⟩), show t + 0 = t by omega] at HF0
  unfold sV rV at *
  by_cases hbig : 315569519999 < t + n
  · rw [if_neg (show ¬ Inst (t + n) by unfold Inst; omega)] at HF
    clear HB HF1
    go_enter Tryd.func5, Tryd.ntmps5
    go_wp2_with fail
    refine (W1.out _).mono ?_
    rintro e w' ⟨rfl, rfl⟩
    go_wp2_with fail
    refine (W2.out _).mono ?_
    rintro e w' ⟨rfl, rfl⟩
    go_wp2_with fail
    refine (W3.out _).mono ?_
    rintro e w' ⟨rfl, rfl⟩
    go_wp2_with fail
    refine (W4.out _).mono ?_
    rintro e w' ⟨rfl, rfl⟩
    go_wp2_with fail
    refine (W0.out _).mono ?_
    rintro e w' ⟨rfl, rfl⟩
    clear W0 W1 W2 W3 W4
    go_wp2_with fail
    refine (HF.out _ (HA.out.alloc _)).mono ?_
    rintro e w1 ⟨rfl, hb1⟩
    have HA1 := hid ((HA.out.alloc _).below hb1)
    have hB1 := (((Below.refl _ _).alloc (Nat.le_refl _) _)).trans (hb1.mono (by simp))
    clear hb1 HF
    go_wp2_with fail
    refine (HF0.out _ HA1.out).mono ?_
    rintro e w2 ⟨rfl, hb2⟩
    go_wp2
    go_ret
    exact ⟨rfl, hB1.trans (hb2.mono hB1.size)⟩
  · have hI : Inst (t + n) := ⟨by omega, by omega⟩
    have HB1 := hid (HB.out hI)
    rw [if_pos (show Inst (t + n + -n) from ⟨by omega, by omega⟩), show t + n + -n = t by omega] at HB1
    rw [if_pos hI] at HF
    clear HB HF0 hI
    go_enter Tryd.func5, Tryd.ntmps5
    go_wp2_with fail
    refine (W1.out _).mono ?_
    rintro e w' ⟨rfl, rfl⟩
    go_wp2_with fail
    refine (W2.out _).mono ?_
    rintro e w' ⟨rfl, rfl⟩
    go_wp2_with fail
    refine (W3.out _).mono ?_
    rintro e w' ⟨rfl, rfl⟩
    go_wp2_with fail
    refine (W4.out _).mono ?_
    rintro e w' ⟨rfl, rfl⟩
    go_wp2_with fail
    refine (W0.out _).mono ?_
    rintro e w' ⟨rfl, rfl⟩
    clear W0 W1 W2 W3 W4
    go_wp2_with fail
    refine (HF.out _ (HA.out.alloc _)).mono ?_
    rintro e w1 ⟨rfl, hb1⟩
    have HA1 := hid ((HA.out.alloc _).below hb1)
    have hx1 := (SBox.new w' 0 0 0 d h i s).later hb1
    have hB1 := (((Below.refl _ _).alloc (Nat.le_refl _) _)).trans (hb1.mono (by simp))
    obtain ⟨c0, c1, c2, c3, c4, c5, c6, _⟩ := hx1.facts
    clear hb1 HF hx1
    go_wp2_with fail
    refine (HB1.out _ HA1.out).mono ?_
    rintro e w2 ⟨rfl, hb2⟩
    have HA2 := hid (HA1.out.below hb2)
    have hB2 := hB1.trans (hb2.mono hB1.size)
    clear hb2 hB1 HB1
    by_cases hw : Inst (t + 604800)
    · rw [if_pos hw] at HF1
      have hwb := hw.2
      clear hw
      go_wp2_with fail
      refine (HF1.out _ HA2.out).mono ?_
      rintro e w3 ⟨rfl, hb3⟩
      go_wp2
      go_ret
      exact ⟨rfl, hB2.trans (hb3.mono hB2.size)⟩
    · rw [if_neg hw] at HF1
      have hwb : 315569519999 < t + 604800 := by unfold Inst at hw; omega
      clear hw
      go_wp2_with fail
      refine (HF1.out _ HA2.out).mono ?_
      rintro e w3 ⟨rfl, hb3⟩
      go_wp2
      go_ret
      exact ⟨rfl, hB2.trans (hb3.mono hB2.size)⟩
end Go.Proofs.YtjmainmidacmfaaDoor
