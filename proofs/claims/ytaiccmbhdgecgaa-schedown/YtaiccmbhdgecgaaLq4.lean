/-
  SchedLeast: alike.
-/
import Derived.Test.YtaiccmbhdgecgaaLq3
namespace Go.Proofs.Ytaiccmbhdgecgaa
open Go.RowKit
set_option maxRecDepth 100000

set_option maxHeartbeats 2000000 in
theorem alike_any (v p vp : Value) (X Y : List Int) (P : List Pr) (w : World) (hv : RI w v X) (hy : RI w p Y) (hp : PL w vp P) (hPl : P.length ≤ 9223372036854775807) (hl : X.length * 8 ≤ 140737488355328) (hlen : X.length = Y.length)
    (hE : ∀ a b : Int, arP P a b = false → onl X a b = onl Y a b) :
    Calls Try.prog 20 #[v, p, vp] w fun e w' => e = .returned (.bool true) ∧ Below w.heap.size w w' := by
  have HX := hid hv
  have HY := hid hy
  have HP := hid hp
  have HE := hid hE
  have HLn := hid hlen
  obtain ⟨ao, cap, rfl⟩ := hv.len0
  obtain ⟨bo, cap', rfl⟩ := hy.len0
  obtain ⟨aop, capp, rfl, _⟩ := hp
  have hlb : ((X.length : Int) == (Y.length : Int)) = true := by simp [hlen]
  have hl2 : Y.length * 8 ≤ 140737488355328 := by omega
  clear hv hy hE hlen
  go_enter Try.func20, Try.ntmps20
  go_wp2_with fail
  go_loopw [7] (fun va wx => ∃ a : Nat, a ≤ 16 ∧ va = .int .i64 (a : Int) ∧ Below w.heap.size w wx) (fun va _ => 16 - (intOf va).toNat)
  case atStart => exact ⟨0, by omega, rfl, Below.refl _ _⟩
  case round =>
    obtain ⟨a, ha, rfl, hB⟩ := hrel
    have HB := hid hB
    clear hB
    by_cases h : a < 16
    · have hI : (a : Int) < 16 := by omega
      go_wp2_with fail
      go_loopw [8] (fun vb wx => ∃ b : Nat, b ≤ 16 ∧ vb = .int .i64 (b : Int) ∧ Below w.heap.size w wx) (fun vb _ => 16 - (intOf vb).toNat)
      case atStart => exact ⟨a, ha, rfl, HB.out⟩
      case round =>
        obtain ⟨b, hb, rfl, hB⟩ := hrel
        have HB2 := hid hB
        have hz := hB.size
        clear hB
        by_cases h2 : b < 16
        · have hI2 : (b : Int) < 16 := by omega
          have HA := hid (are_any (a : Int) (b : Int) _ P wr (HP.out.below HB2.out) hPl)
          cases har : arP P (a : Int) (b : Int) with
          | true =>
            rw [har] at HA
            go_wp2_with fail
            refine Calls.mono HA.out ?_
            rintro e w2 ⟨rfl, rfl⟩
            go_wp2_with fail
            go_roundw
            case rel => exact ⟨b + 1, by omega, by go_num, HB2.out⟩
            case measure => simp [intOf]; omega
          | false =>
            rw [har] at HA
            have HEq := hid (HE.out _ _ har)
            have hlz := onl_len X (a : Int) (b : Int)
            clear har
            go_wp2_with fail
            refine Calls.mono HA.out ?_
            rintro e w2 ⟨rfl, rfl⟩
            have HO1 := hid (only_any (a : Int) (b : Int) _ X w2 (HX.out.below HB2.out) hl)
            clear HA
            go_wp2_with fail
            refine Calls.mono HO1.out ?_
            rintro e w3 ⟨⟨v1, rfl, ho1⟩, hb3⟩
            have HB3 := hid (HB2.out.trans (hb3.mono hz))
            have HO2 := hid (only_any (a : Int) (b : Int) _ Y w3 (HY.out.below HB3.out) hl2)
            have HR1 := hid ho1
            clear HO1 ho1 hb3
            go_wp2_with fail
            refine Calls.mono HO2.out ?_
            rintro e w4 ⟨⟨v2, rfl, ho2⟩, hb4⟩
            have HB4 := hid (HB3.out.trans (hb4.mono HB3.out.size))
            have HS := hid (same_any v1 v2 _ _ w4 ((HR1.out.below hb4).reads) ho2.reads (by omega) (by rw [← HEq.out]; omega))
            clear HO2 ho2 hb4 HR1
            go_wp2_with fail
            refine Calls.mono HS.out ?_
            rintro e w5 ⟨⟨bb, rfl, hbb⟩, hb5⟩
            obtain rfl : bb = true := hbb.2 HEq.out
            have HB5 := hid (HB4.out.trans (hb5.mono HB4.out.size))
            clear hbb hb5 HS
            go_wp2_with fail
            go_roundw
            case rel => exact ⟨b + 1, by omega, by go_num, HB5.out⟩
            case measure => simp [intOf]; omega
        · have hI2 : ¬ (b : Int) < 16 := by omega
          go_wp2_with fail
          go_roundw
          case rel => exact ⟨a + 1, by omega, by go_num, HB2.out⟩
          case measure => simp [intOf]; omega
    · have hI : ¬ (a : Int) < 16 := by omega
      go_wp2
      go_ret
      exact ⟨rfl, HB.out⟩
end Go.Proofs.Ytaiccmbhdgecgaa
