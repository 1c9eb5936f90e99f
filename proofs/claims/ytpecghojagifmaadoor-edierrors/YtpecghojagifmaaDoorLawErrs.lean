/-
  EdiErrors: the law's own walk, out of the contracts.
-/
import Derived.Test.YtpecghojagifmaaDoorEdiE
import Derived.BigQuiet
import Derived.WalkSmall
import Derived.Deep.RegionHeld
import Derived.Deep.RegionWith
namespace Go.Proofs.YtpecghojagifmaaDoor
open Go.RowKit
set_option maxRecDepth 100000

theorem small3_any (w : World) : Calls Tryd.prog 13 #[.int .i64 3] w fun e w' => e = .returned (.string ⟨#[51]⟩) ∧ w' = w := by
  go_enter Tryd.func13, Tryd.ntmps13
  go_wp2
  go_ret
  exact ⟨rfl, rfl⟩
theorem small2_any (w : World) : Calls Tryd.prog 13 #[.int .i64 2] w fun e w' => e = .returned (.string ⟨#[50]⟩) ∧ w' = w := by
  go_enter Tryd.func13, Tryd.ntmps13
  go_wp2
  go_ret
  exact ⟨rfl, rfl⟩
theorem itoa_of (n : Int) (t : ByteArray) (h0 : 0 ≤ n) (h1 : n < 100) (h : ∀ w, Calls Tryd.prog 13 #[.int .i64 n] w fun e w' => e = .returned (.string t) ∧ w' = w) (w : World) :
    Calls Tryd.prog 10 #[.int .i64 n] w fun e w' => e = .returned (.string t) ∧ w' = w := by
  have H := hid h
  clear h
  have f1 : Calls Tryd.prog 12 #[.int .i64 n, .int .i64 10] w fun e w' => e = .returned (.string t) ∧ w' = w := by
    go_enter Tryd.func12, Tryd.ntmps12
    go_wp2_with fail
    refine (H.out _).mono ?_
    rintro e w1 ⟨rfl, rfl⟩
    go_wp2
    go_ret
    exact ⟨rfl, rfl⟩
  have F1 := hid f1
  clear f1 H
  have f2 : Calls Tryd.prog 11 #[.int .i64 n] w fun e w' => e = .returned (.string t) ∧ w' = w := by
    go_enter Tryd.func11, Tryd.ntmps11
    go_wp2_with fail
    refine F1.out.mono ?_
    rintro e w1 ⟨rfl, rfl⟩
    go_wp2
    go_ret
    exact ⟨rfl, rfl⟩
  have F2 := hid f2
  clear f2 F1
  go_enter Tryd.func10, Tryd.ntmps10
  go_wp2_with fail
  refine F2.out.mono ?_
  rintro e w1 ⟨rfl, rfl⟩
  go_wp2
  go_ret
  exact ⟨rfl, rfl⟩

theorem methodE (v : Value) (w : World) : (Go.method 202 66 v "Error").run Tryd.prog w = .ok (51, v) w := by kernel_rfl

/-- what a Fault of segment 3, element 2 tells -/
def fT (s : ByteArray) : ByteArray := ⟨#[115, 101, 103, 109, 101, 110, 116, 32]⟩ ++ ⟨#[51]⟩ ++ ⟨#[32, 101, 108, 101, 109, 101, 110, 116, 32]⟩ ++ ⟨#[50]⟩ ++ ⟨#[58, 32]⟩ ++ s
theorem fT_eq (s : ByteArray) : ((fT s).toList == (({ data := #[115, 101, 103, 109, 101, 110, 116, 32, 51, 32, 101, 108, 101, 109, 101, 110, 116, 32, 50, 58, 32] } : ByteArray) ++ s).toList) = true := by
  have h : fT s = ({ data := #[115, 101, 103, 109, 101, 110, 116, 32, 51, 32, 101, 108, 101, 109, 101, 110, 116, 32, 50, 58, 32] } : ByteArray) ++ s := by
    unfold fT
    apply ByteArray.ext
    simp [ByteArray.data_append]
  rw [h]
  simp

set_option maxHeartbeats 1000000 in
theorem faultText_any (b : Nat) (a : Addr) (s : ByteArray) (w : World) (h0 : w.cell? ⟨b, 0, none⟩ = some (.int .i64 3)) (h1 : w.cell? ⟨b, 1, none⟩ = some (.int .i64 2)) (h2 : w.cell? ⟨b, 2, none⟩ = some (.iface 66 (.pointer (some a)))) (h3 : w.cell? a = some (.string s)) (hs : s.size ≤ 1000) :
    Calls Tryd.prog 6 #[.pointer (some ⟨b, 0, none⟩)] w fun e w' => e = .returned (.string (fT s)) ∧ ∃ m, w' = w.drewN m := by
  have HI3 := hid (fun w => itoa_of 3 ⟨#[51]⟩ (by omega) (by omega) small3_any w)
  have HI2 := hid (fun w => itoa_of 2 ⟨#[50]⟩ (by omega) (by omega) small2_any w)
  go_enter Tryd.func6, Tryd.ntmps6
  go_wp2_with fail
  go_quiet (first
    | (go_at_call_of 10 (Value.int IntKind.i64 3); exact Calls.quiet_of_same (HI3.out _))
    | (go_at_call_of 10 (Value.int IntKind.i64 2); exact Calls.quiet_of_same (HI2.out _)))
  have HT := hid (errText_any a s (w.drewN nq) (((below_drewN (Below.refl w.heap.size w) nq).cell (p := a) (World.block_lt_of_cell? _ _ h3)).trans h3))
  go_wp2_with fail
  refine HT.out.mono ?_
  rintro e w1 ⟨rfl, rfl⟩
  go_wp2
  go_ret
  exact ⟨rfl, _, rfl⟩

set_option maxHeartbeats 2000000 in
theorem errs_any (w : World) (A : Nat → Addr) (h : HS w A) :
    Calls Tryd.prog 3 #[] w fun e w' => e = .returned (.bool true) ∧ Below w.heap.size w w' := by
  have H := hid h
  clear h
  go_enter Tryd.func3, Tryd.ntmps3
  go_wp2_with fail
  go_loopw [1] (fun i wr => ∃ c : Nat, i = .int .i64 (c : Int) ∧ 1 ≤ c ∧ c ≤ 12 ∧ wr = w) (fun i _ => 12 - (intOf i).toNat)
  case atStart => exact ⟨1, rfl, by omega, by omega, rfl⟩
  case round =>
    obtain ⟨c, rfl, hc1, hc2, hwr⟩ := hrel
    have hws := hwr.symm
    clear hwr
    subst hws
    by_cases hlt : c ≤ 11
    · have HC := hid (fun w h => sentinel_any c hc1 hlt w A h)
      go_wp2_with fail
      refine (HC.out _ H.out).mono ?_
      rintro e w1 ⟨rfl, hw1⟩
      have hw1s := hw1.symm
      clear hw1
      subst hw1s
      go_wp2_with fail
      go_loopw [3] (fun i wr => ∃ d : Nat, i = .int .i64 (d : Int) ∧ 1 ≤ d ∧ d ≤ c ∧ wr = w) (fun i _ => c - (intOf i).toNat)
      case atStart => exact ⟨1, rfl, by omega, by omega, rfl⟩
      case round =>
        obtain ⟨d, rfl, hd1, hd2, hwr⟩ := hrel
        have hws := hwr.symm
        clear hwr
        subst hws
        by_cases hdl : d < c
        · have HD := hid (fun w h => sentinel_any d hd1 (by omega) w A h)
          have I1 := hid (fun w h => isC_other c d hc1 hlt hd1 (by omega) (by omega) w A h)
          have I2 := hid (fun w h => isC_other d c hd1 (by omega) hc1 hlt (by omega) w A h)
          go_wp2_with fail
          refine (HD.out _ H.out).mono ?_
          rintro e w1 ⟨rfl, hw1⟩
          have hw1s := hw1.symm
          clear hw1
          subst hw1s
          go_wp2_with fail
          refine (I1.out _ H.out).mono ?_
          rintro e w1 ⟨rfl, hw1⟩
          have hw1s := hw1.symm
          clear hw1
          subst hw1s
          go_wp2_with fail
          refine (HD.out _ H.out).mono ?_
          rintro e w1 ⟨rfl, hw1⟩
          have hw1s := hw1.symm
          clear hw1
          subst hw1s
          go_wp2_with fail
          refine (I2.out _ H.out).mono ?_
          rintro e w1 ⟨rfl, hw1⟩
          have hw1s := hw1.symm
          clear hw1
          subst hw1s
          clear HD I1 I2
          go_wp2
          go_roundw
          case rel => exact ⟨d + 1, by go_num, by omega, by omega, by simp⟩
          case measure => simp [intOf]; omega
        · clear HC
          go_wp2
          go_roundw
          case rel => exact ⟨c + 1, by go_num, by omega, by omega, by simp⟩
          case measure => simp [intOf]; omega
    · obtain ⟨g0, ⟨s, hs1, hs2⟩, _⟩ := H.out 6 (by omega) (by omega)
      have hg : gS 6 = 0 := rfl
      rw [hg] at g0
      have hs : s.size ≤ 1000 := by
        have : s.data.toList.length = 31 := by rw [hs2]; rfl
        have h2 : s.size = s.data.toList.length := rfl
        omega
      have hfe := fT_eq s
      obtain ⟨W1, hW1⟩ : ∃ W1, w.alloc (.cells #[.int .i64 3, .int .i64 2, .iface 66 (.pointer (some (A 6)))] 28) = W1 := ⟨_, rfl⟩
      have hB1 : Below w.heap.size w W1 := by rw [← hW1]; exact (Below.refl _ _).alloc (Nat.le_refl _) _
      have q0 : W1.cell? ⟨w.heap.size, 0, none⟩ = some (.int .i64 3) := by rw [← hW1]; simp
      have q1 : W1.cell? ⟨w.heap.size, 1, none⟩ = some (.int .i64 2) := by rw [← hW1]; simp
      have q2 : W1.cell? ⟨w.heap.size, 2, none⟩ = some (.iface 66 (.pointer (some (A 6)))) := by rw [← hW1]; simp
      have HS1 := hid (H.out.below hB1)
      obtain ⟨g1, ⟨s1, hs3, hs4⟩, _⟩ := HS1.out 6 (by omega) (by omega)
      rw [hg] at g1
      have hss : s1 = s := ByteArray.ext (Array.ext' (hs4.trans hs2.symm))
      subst hss
      have hB : ∀ n, Below W1.heap.size W1 (W1.drewN n) := fun n => below_drewN (Below.refl _ _) n
      have cD : ∀ n (p : Addr) v, W1.cell? p = some v → (W1.drewN n).cell? p = some v := fun n p v h => ((hB n).cell (p := p) (World.block_lt_of_cell? _ _ h)).trans h
      have C1 := hid (fun n => errNil_any (W1.drewN n))
      have C2 := hid (fun n => unwrapNil_any (W1.drewN n))
      have C3 := hid (fun n => unwrap_any w.heap.size _ _ (W1.drewN n) (cD n _ _ q2))
      have C4 := hid (fun n => is_same (A 6) (W1.drewN n))
      have C5 := hid (fun n => faultText_any w.heap.size (A 6) s1 (W1.drewN n) (cD n _ _ q0) (cD n _ _ q1) (cD n _ _ q2) (cD n _ _ hs3) hs)
      have C6 := hid (fun n => errText_any (A 6) s1 (W1.drewN n) (cD n _ _ hs3))
      have HB1 := hid hB1
      have hmE : ∀ (v : Value) (w : World), (Go.method 202 66 v "Error").run Tryd.prog w = .ok (51, v) w := methodE
      clear hB cD hs1 hs2 hs4
      go_wp2_with fail
      go_quiet (first
        | (go_at_call_of 6 (Value.pointer none); exact Calls.quiet_of_same (C1.out _))
        | (go_at_call_of 7 (Value.pointer none); exact Calls.quiet_of_same (C2.out _))
        | (go_at_call 7; exact Calls.quiet_of_same (C3.out _))
        | (go_at_call 5; exact Calls.quiet_of_same (C4.out _))
        | (go_at_call 6; exact Calls.quiet_of (C5.out _))
        | (go_at_call 51; exact Calls.quiet_of_same (C6.out _)))
      have HB2 := hid (HB1.out.trans (below_drewN (Below.refl _ _) nq))
      clear C1 C2 C3 C4 C5 C6
      go_wp2
      go_ret
      exact ⟨rfl, HB2.out⟩
end Go.Proofs.YtpecghojagifmaaDoor
