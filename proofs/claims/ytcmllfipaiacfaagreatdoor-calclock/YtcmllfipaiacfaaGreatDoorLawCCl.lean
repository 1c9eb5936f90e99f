/-
  CalClock: the law's own walk.
-/
import Derived.Test.YtcmllfipaiacfaaGreatDoorTk2
import Derived.BigQuiet
namespace Go.Proofs.YtcmllfipaiacfaaGreatDoor
open Go.RowKit
set_option maxRecDepth 100000

set_option maxHeartbeats 4000000 in
theorem clock_any (n0 m0 : Int) (hn : -9223372036854775808 ≤ n0 ∧ n0 ≤ 9223372036854775807) (hm : -9223372036854775808 ≤ m0 ∧ m0 ≤ 9223372036854775807) (w : World) (hA : HasAh w) (hT : HasPw w) :
    Calls Tryz.prog 4 #[.int .i64 n0, .int .i64 m0] w fun e w' => e = .returned (.bool true) ∧ Below w.heap.size w w' := by
  have W1 := hid (fun w => within_any n0 86400 315569433599 hn (by omega) (by omega) (by omega) w)
  have W2 := hid (fun w => within_any m0 (-1439) 1439 hm (by omega) (by omega) (by omega) w)
  have bS := wi_in n0 86400 315569433599 (by omega)
  have bZ := wi_in m0 (-1439) 1439 (by omega)
  generalize wi n0 86400 315569433599 = S at *
  generalize wi m0 (-1439) 1439 = Z at *
  have P1 := hid (fun w hA hT => printInstant_good S Z ⟨by omega, by omega⟩ bZ ⟨by omega, by omega⟩ w hA hT)
  have P2 := hid (fun w hA hT => printInstant_good (S + 60 * Z) 0 ⟨by omega, by omega⟩ (by omega) ⟨by omega, by omega⟩ w hA hT)
  have e0 : S + 60 * Z + 60 * 0 = S + 60 * Z := by omega
  rw [e0] at P2
  have CA := hid (fun t u ht hu => clk_all S Z bS bZ t u ht hu)
  have S0 := hid (show Su w w from ⟨hA, hT, Below.refl _ _⟩)
  have q60 : IntKind.i64.wrap (60 * Z) = 60 * Z := IntWalk.i64_in _ (by omega)
  have qX : IntKind.i64.wrap (S + 60 * Z) = S + 60 * Z := IntWalk.i64_in _ (by omega)
  clear hA hT hn hm e0
  go_enter Tryz.func4, Tryz.ntmps4
  go_wp2_with fail
  refine (W1.out _).mono ?_
  rintro e w1 ⟨rfl, hw1⟩
  have hw1s := hw1.symm
  clear hw1
  subst hw1s
  go_wp2_with fail
  refine (W2.out _).mono ?_
  rintro e w1 ⟨rfl, hw1⟩
  have hw1s := hw1.symm
  clear hw1
  subst hw1s
  go_wp2_with fail
  refine (P1.out _ S0.out.1 S0.out.2.1).mono ?_
  rintro e w2 ⟨⟨t, rfl, ht⟩, hb2⟩
  have S2 := hid (S0.out.call hb2)
  have HT := hid ht
  clear hb2 S0 P1 ht W1 W2
  go_wp2_with fail
  refine (P2.out _ S2.out.1 S2.out.2.1).mono ?_
  rintro e w3 ⟨⟨u, rfl, hu⟩, hb3⟩
  have S3 := hid (S2.out.call hb3)
  obtain ⟨zt, zu, hE, pt, pu, zb, pb1, pb2⟩ := CA.out t u HT.out hu
  have PT := hid pt
  have PU := hid pu
  have PB1 := hid pb1
  have PB2 := hid pb2
  unfold PrI tup at PT PU PB1 PB2
  clear hb3 S2 P2 hu HT CA pt pu pb1 pb2
  have r1 : ∀ w, (Instr.slice 9 (.string t) none (some (.int .i64 4)) none).run Tryz.prog w = .ok (.string (t.extract 0 4)) w := fun w => run_toI t 4 4 rfl (by split at zt <;> omega) w
  have r2 : ∀ w, (Instr.slice 9 (.string t) (some (.int .i64 5)) (some (.int .i64 7)) none).run Tryz.prog w = .ok (.string (t.extract 5 7)) w := fun w => run_sub t 5 7 7 rfl (by omega) (by split at zt <;> omega) w
  have r3 : ∀ w, (Instr.slice 9 (.string t) (some (.int .i64 8)) (some (.int .i64 13)) none).run Tryz.prog w = .ok (.string (t.extract 8 13)) w := fun w => run_sub t 8 13 13 rfl (by omega) (by split at zt <;> omega) w
  have r4 : ∀ w, (Instr.slice 9 (.string t) (some (.int .i64 14)) (some (.int .i64 16)) none).run Tryz.prog w = .ok (.string (t.extract 14 16)) w := fun w => run_sub t 14 16 16 rfl (by omega) (by split at zt <;> omega) w
  have r5 : ∀ w, (Instr.slice 9 (.string t) (some (.int .i64 17)) (some (.int .i64 19)) none).run Tryz.prog w = .ok (.string (t.extract 17 19)) w := fun w => run_sub t 17 19 19 rfl (by omega) (by split at zt <;> omega) w
  have r6 : ∀ w, (Instr.slice 9 (.string t) none (some (.int .i64 19)) none).run Tryz.prog w = .ok (.string (u.extract 0 19)) w := fun w => by rw [← hE]; exact run_toI t 19 19 rfl (by split at zt <;> omega) w
  have r7 : ∀ w, (Instr.slice 9 (.string u) none (some (.int .i64 19)) none).run Tryz.prog w = .ok (.string (u.extract 0 19)) w := fun w => run_toI u 19 19 rfl (by omega) w
  have hxs : (t.extract 0 4).size = 4 ∧ (t.extract 5 7).size = 2 ∧ (t.extract 8 13).size = 5 ∧ (t.extract 14 16).size = 2 ∧ (t.extract 17 19).size = 2 := by
    simp only [ByteArray.size_extract]
    split at zt <;> omega
  obtain ⟨x1, x2, x3, x4, x5⟩ := hxs
  clear zb hE
  by_cases z0 : Z = 0
  · subst z0
    rw [if_pos rfl] at zt
    have PB := hid (PB1.out rfl)
    unfold bsT at PB
    clear PB1 PB2
    go_wp2_with fail
    go_quiet (fail)
    obtain ⟨wq, hwq⟩ : ∃ wq, w3.drewN nq = wq := ⟨_, rfl⟩
    have S4 := hid (show Su w wq by rw [← hwq]; exact S3.out.call (below_drewN (Below.refl _ _) nq))
    rw [hwq]
    clear hwq S3 nq
    go_wp2_with fail
    refine (PT.out _ S4.out.1).mono ?_
    rintro e w5 ⟨rfl, hb5⟩
    have S5 := hid (S4.out.call hb5)
    clear hb5 S4 PT
    go_wp2_with fail
    refine (PU.out _ S5.out.1).mono ?_
    rintro e w6 ⟨rfl, hb6⟩
    have S6 := hid (S5.out.call hb6)
    clear hb6 S5 PU
    go_wp2_with fail
    go_quiet (fail)
    obtain ⟨wq, hwq⟩ : ∃ wq, w6.drewN nq = wq := ⟨_, rfl⟩
    have S7 := hid (show Su w wq by rw [← hwq]; exact S6.out.call (below_drewN (Below.refl _ _) nq))
    rw [hwq]
    clear hwq S6 nq
    go_wp2_with fail
    refine (PB.out _ S7.out.1).mono ?_
    rintro e w8 ⟨rfl, hb8⟩
    have S8 := hid (S7.out.call hb8)
    clear hb8 S7 PB
    go_wp2
    go_ret
    exact ⟨rfl, S8.out.2.2⟩
  · rw [if_neg z0] at zt
    have PB := hid (PB2.out z0)
    have r8 : ∀ w, (Instr.slice 9 (.string t) (some (.int .i64 19)) (some (.int .i64 22)) none).run Tryz.prog w = .ok (.string (t.extract 19 22)) w := fun w => run_sub t 19 22 22 rfl (by omega) (by omega) w
    have r9 : ∀ w, (Instr.slice 9 (.string t) (some (.int .i64 23)) none none).run Tryz.prog w = .ok (.string (t.extract 23 25)) w := fun w => by have h := run_fromI t 23 23 rfl (by omega) w; rw [zt] at h; exact h
    have x6 : (t.extract 19 22).size = 3 := by rw [ByteArray.size_extract]; omega
    have x7 : (t.extract 23 25).size = 2 := by rw [ByteArray.size_extract]; omega
    unfold bsT at PB
    rw [zt] at PB
    clear PB1 PB2
    go_wp2_with fail
    go_quiet (fail)
    obtain ⟨wq, hwq⟩ : ∃ wq, w3.drewN nq = wq := ⟨_, rfl⟩
    have S4 := hid (show Su w wq by rw [← hwq]; exact S3.out.call (below_drewN (Below.refl _ _) nq))
    rw [hwq]
    clear hwq S3 nq
    go_wp2_with fail
    refine (PT.out _ S4.out.1).mono ?_
    rintro e w5 ⟨rfl, hb5⟩
    have S5 := hid (S4.out.call hb5)
    clear hb5 S4 PT
    go_wp2_with fail
    refine (PU.out _ S5.out.1).mono ?_
    rintro e w6 ⟨rfl, hb6⟩
    have S6 := hid (S5.out.call hb6)
    clear hb6 S5 PU
    go_wp2_with fail
    go_quiet (fail)
    obtain ⟨wq, hwq⟩ : ∃ wq, w6.drewN nq = wq := ⟨_, rfl⟩
    have S7 := hid (show Su w wq by rw [← hwq]; exact S6.out.call (below_drewN (Below.refl _ _) nq))
    rw [hwq]
    clear hwq S6 nq
    go_wp2_with fail
    go_quiet (fail)
    obtain ⟨wr, hwr⟩ : ∃ wr, wq.drewN nq = wr := ⟨_, rfl⟩
    have S8 := hid (show Su w wr by rw [← hwr]; exact S7.out.call (below_drewN (Below.refl _ _) nq))
    rw [hwr]
    clear hwr S7 nq
    have S7 := hid S8.out
    clear S8
    go_wp2_with fail
    refine (PB.out _ S7.out.1).mono ?_
    rintro e w8 ⟨rfl, hb8⟩
    have S8 := hid (S7.out.call hb8)
    clear hb8 S7 PB
    go_wp2
    go_ret
    exact ⟨rfl, S8.out.2.2⟩
end Go.Proofs.YtcmllfipaiacfaaGreatDoor
