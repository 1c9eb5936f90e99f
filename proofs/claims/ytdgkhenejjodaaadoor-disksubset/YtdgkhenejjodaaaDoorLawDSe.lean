/-
  DiskSeen: the law's own walk, out of the contracts.
-/
import Derived.Test.YtdgkhenejjodaaaDoorDke
namespace Go.Proofs.YtdgkhenejjodaaaDoor
open Go.RowKit
set_option maxRecDepth 100000

theorem secFn2 (b off c n : Nat) (w : World) (hc : 768 ≤ c) (hn : n < 6) :
    Calls Tryd.prog 15 #[.slice (some ⟨b, off, none⟩) 768 c, .int .i64 (n : Int)] w fun e w' => e = .returned (.slice (some ⟨b, off + n * 128, none⟩) 128 (c - n * 128)) ∧ w' = w := by
  have e1 : (n + 1) * 128 - n * 128 = 128 := by omega
  have hI : ¬ (768 : Int) < ((n : Int) + 1) * 128 := by omega
  have hc2 : (n + 1) * 128 ≤ c := by omega
  go_enter Tryd.func15, Tryd.ntmps15
  go_wp2
  go_ret
  exact ⟨rfl, rfl⟩
theorem sec_reads {w : World} {b off c n : Nat} {S : List UInt8} (h : Reads w (.slice (some ⟨b, off, none⟩) 768 c) S) (hS : S.length = 768) (hn : n < 6) : Reads w (.slice (some ⟨b, off + n * 128, none⟩) 128 (c - n * 128)) (sec S n) := by
  obtain ⟨b', off', c', hv, hc, hcell⟩ := h.here (by omega)
  simp only [Value.slice.injEq, Option.some.injEq, Addr.mk.injEq] at hv
  obtain ⟨⟨rfl, rfl, _⟩, _, rfl⟩ := hv
  have hl := sec_len hS hn
  refine .inr ⟨b, off + n * 128, c - n * 128, by rw [hl], by omega, fun j hj => ?_⟩
  have := hcell (n * 128 + j) (by omega)
  rw [show off + n * 128 + j = off + (n * 128 + j) by omega, this]
  simp [sec]
theorem PT.len {w : World} {v : Value} {P : List Pt} (h : PT w v P) : ∃ ao c, v = .slice ao P.length c ∧ P.length ≤ c ∧ (ao = none → c = 0) ∧ (0 < P.length → ∃ g off, ao = some ⟨g, off, none⟩) := by
  obtain ⟨ao, c, hv, hc, hz, hr⟩ := h
  exact ⟨ao, c, hv, hc, hz, fun h0 => by obtain ⟨_, g, off, ha, _⟩ := hr 0 h0; exact ⟨g, off, ha⟩⟩
set_option maxHeartbeats 16000000 in
theorem dseen_any (v : Value) (P : List Pt) (w : World) (hfl : HasFl w) (hp : PT w v P) (hP : P.length ≤ 9223372036854775807) :
    Calls Tryd.prog 8 #[v] w fun e w' => e = .returned (.bool true) ∧ Below w.heap.size w w' := by
  have hw0 : 0 < w.heap.size := by
    obtain ⟨t, fr, hh⟩ := hfl
    exact (Array.getElem?_eq_some_iff.1 hh).1
  have HFw := hid (few_any v P w hp hP)
  have hQ : (P.take 300).length ≤ 300 := by rw [List.length_take]; omega
  generalize P.take 300 = Q at *
  have HF := hid hfl
  obtain ⟨vo, vc, rfl, _⟩ := hp
  clear hfl
  go_enter Tryd.func8, Tryd.ntmps8
  go_wp2_with fail
  refine HFw.out.mono ?_
  rintro e wz ⟨⟨qv, rfl, hq⟩, hwz⟩
  have hws := hwz.symm
  clear hwz HFw
  subst hws
  have HQ := hid hq
  obtain ⟨qo, qc, rfl, hqc, hqz, hqn⟩ := hq.len
  clear hq
  have HL := hid (laid_any _ Q w HF.out HQ.out (by omega) hw0)
  go_wp2_with fail
  refine HL.out.mono ?_
  rintro e w1 ⟨⟨d, f, s, cap, tail, dv, rfl, hdk⟩, hb1⟩
  have HD1 := hid hdk
  have B1 := hid hb1
  clear hdk hb1 HL
  have HC := hid (count_any w.heap.size d f s cap tail (zs 768) (seenP Q) dv _ w1 HD1.out)
  have HSc := hid (sectors_any w.heap.size d f s cap tail (zs 768) (seenP Q) dv _ w1 HD1.out)
  rw [List.length_map] at HC
  rw [zs_len] at HSc
  rw [show ((768 / 128 : Nat) : Int) = 6 from rfl] at HSc
  go_wp2_with fail
  refine HC.out.mono ?_
  rintro e wz ⟨rfl, hwz⟩
  have hws := hwz.symm
  clear hwz HC
  subst hws
  go_wp2_with fail
  refine HSc.out.mono ?_
  rintro e wz ⟨rfl, hwz⟩
  have hws := hwz.symm
  clear hwz HSc
  subst hws
  have HBa := hid (barrier_any _ Q w1 (HQ.out.below B1.out) (by omega))
  have hbl := bar_le Q Q.length
  go_wp2_with fail
  refine HBa.out.mono ?_
  rintro e wz ⟨rfl, hwz⟩
  have hws := hwz.symm
  clear hwz HBa
  subst hws
  have hsl := seenP_len Q
  have HI := hid (image_any w.heap.size d f s cap tail (zs 768) (seenP Q) dv _ w1 HD1.out (by omega))
  go_wp2_with fail
  refine HI.out.mono ?_
  rintro e w2 ⟨⟨iv, rfl, ho⟩, hb2⟩
  obtain ⟨ig, ic, it, rfl, _, hic, _, hirow⟩ := ho.row (by omega)
  have HIm := hid (readsT hirow hic)
  have B2 := hid (B1.out.trans (hb2.mono B1.out.size))
  have HD2 := hid (HD1.out.below hb2)
  clear ho hirow hb2 HI HD1 B1
  have HDu := hid (durable_any w.heap.size d f s cap tail (seenP Q) dv Q w2 (HF.out.below B2.out) HD2.out (by omega))
  have hdl := seenP_len (Q.take (bar Q Q.length))
  go_wp2_with fail
  refine HDu.out.mono ?_
  rintro e w3 ⟨⟨uv, rfl, hu⟩, hb3⟩
  obtain ⟨ug, uo, uc, rfl, huc, _⟩ := hu.here (by omega)
  have HDr := hid hu
  have HIm3 := hid (HIm.out.below hb3)
  have B3 := hid (B2.out.trans (hb3.mono B2.out.size))
  have HD3 := hid (HD2.out.below hb3)
  clear hu hb3 HDu HD2 B2 HIm
  rw [hsl] at HIm3 hic
  rw [hdl] at HDr huc
  have HPe := hid (pending_any w.heap.size d f s cap tail (zs 768) (seenP Q) dv _ w3 (HF.out.below B3.out) HD3.out (by rw [zs_len]; exact OkP Q) (by rw [List.length_map]; omega))
  rw [List.length_map, brr_is] at HPe
  have hsub : ((Q.length - bar Q Q.length : Nat) : Int) = (Q.length : Int) - (bar Q Q.length : Int) := by omega
  obtain ⟨kb, hkb⟩ : ∃ kb, bar Q Q.length = kb := ⟨_, rfl⟩
  rw [hkb] at HPe hsub hbl HDr hdl ⊢
  have hmq : Q.length - kb ≤ 300 := by omega
  obtain ⟨mq, hmq2⟩ : ∃ mq, Q.length - kb = mq := ⟨_, rfl⟩
  rw [hmq2] at HPe hsub
  have hbe : ((mq : Int) != (Q.length : Int) - (kb : Int)) = false := by rw [← hsub]; simp
  rw [hdl]
  clear hkb hmq2 hsub
  go_wp2_with fail
  refine HPe.out.mono ?_
  rintro e w4 ⟨⟨pg, rfl⟩, hb4⟩
  have HIm4 := hid (HIm3.out.below hb4)
  have HDr4 := hid (HDr.out.below hb4)
  have B4 := hid (B3.out.trans (hb4.mono B3.out.size))
  have HD4 := hid (HD3.out.below hb4)
  clear hb4 HPe HIm3 HDr B3 HD3
  have hkq : PT w (.slice qo kb qc) (Q.take kb) := HQ.out.take kb hbl
  have HQk := hid hkq
  clear hkq
  go_wp2_with fail
  cases qo with
  | none =>
    have HQZ := hid hqz
    clear hqz hqn
    go_loopw [7] (fun i wx => ∃ n : Nat, n ≤ 6 ∧ i = .int .i64 (n : Int) ∧ Below w4.heap.size w4 wx) (fun i _ => 6 - (intOf i).toNat)
    case atStart => exact ⟨0, by omega, rfl, Below.refl _ _⟩
    case round =>
      obtain ⟨n, hn, rfl, hb⟩ := hrel
      have HB := hid hb
      clear hb
      by_cases hlt : n < 6
      · have hI : (n : Int) < 6 := by omega
        have HR := hid (read_any w.heap.size d f s cap n tail (zs 768) (seenP Q) dv _ wr (HD4.out.below HB.out) (by rw [zs_len]; omega) (by rw [zs_len, hsl]))
        go_wp2_with fail
        refine HR.out.mono ?_
        rintro e w5 ⟨⟨pv, rfl, ho⟩, hb5⟩
        have hse := sec_seen n hlt _ Q rfl
        have hsd := sec_seen n hlt _ (Q.take kb) rfl
        have hpr := ho.reads
        change Reads w5 pv (sec (seenP Q) n) at hpr
        rw [hse] at hpr
        obtain ⟨pb, po, pc, rfl, _⟩ := hpr.here (by rw [one_len]; omega)
        rw [one_len] at hpr
        have B5 := hid (HB.out.trans (hb5.mono HB.out.size))
        have him := sec_reads (n := n) (HIm4.out.below B5.out) hsl hlt
        have hdu := sec_reads (n := n) (HDr4.out.below B5.out) hdl hlt
        rw [hse] at him
        rw [hsd] at hdu
        have hDr : ∀ m, Below w5.heap.size w5 (w5.drewN m) := fun m => below_drewN (Below.refl _ _) m
        have HA1 := hid (fun m => all_true _ _ (w5.drewN m) (hpr.below (hDr m)))
        have HA2 := hid (fun m => all_true _ _ (w5.drewN m) (him.below (hDr m)))
        have HA3 := hid (fun m => all_true _ _ (w5.drewN m) (hdu.below (hDr m)))
        have HQ5 := HQ.out.below (B4.out.trans (B5.out.mono B4.out.size))
        have HK5 := HQk.out.below (B4.out.trans (B5.out.mono B4.out.size))
        have HL1 := hid (fun m => lastOf_any _ Q n (w5.drewN m) (HQ5.below (hDr m)) (by omega))
        have HL2 := hid (fun m => lastOf_any _ (Q.take kb) n (w5.drewN m) (HK5.below (hDr m)) (by rw [List.length_take]; omega))
        have HS1 := hid (fun m => secFn2 ig 0 ic n (w5.drewN m) hic hlt)
        have HS2 := hid (fun m => secFn2 ug uo uc n (w5.drewN m) huc hlt)
        rw [one_len]
        clear ho hb5 hse hsd hpr him hdu hDr HQ5 HK5 HR
        have hkc : kb ≤ qc := by omega
        rw [Nat.zero_add] at HA2 HS1
        have hkI : (kb : Int) ≤ (qc : Int) := by omega
        go_wp2_with fail
        go_quiet ((first
          | (go_at_call 14; first | with_reducible exact Calls.quiet_of_same (HL1.out _) | exact Calls.quiet_of_same (HL2.out _))
          | (go_at_call 15; first | with_reducible exact Calls.quiet_of_same (HS1.out _) | exact Calls.quiet_of_same (HS2.out _))
          | (go_at_call 28; first | with_reducible exact Calls.quiet_of_same (HA1.out _) | with_reducible exact Calls.quiet_of_same (HA2.out _) | exact Calls.quiet_of_same (HA3.out _))))
        have BN := hid (B5.out.trans (below_drewN (Below.refl w4.heap.size w5) nq))
        go_wp2
        go_roundw
        case rel => exact ⟨n + 1, by omega, by go_num, BN.out⟩
        case measure => simp [intOf]; omega
      · have hI : ¬ (n : Int) < 6 := by omega
        have BF := hid (B4.out.trans (HB.out.mono B4.out.size))
        go_wp2
        go_ret
        exact ⟨rfl, BF.out⟩
  | some qa =>
    go_loopw [7] (fun i wx => ∃ n : Nat, n ≤ 6 ∧ i = .int .i64 (n : Int) ∧ Below w4.heap.size w4 wx) (fun i _ => 6 - (intOf i).toNat)
    case atStart => exact ⟨0, by omega, rfl, Below.refl _ _⟩
    case round =>
      obtain ⟨n, hn, rfl, hb⟩ := hrel
      have HB := hid hb
      clear hb
      by_cases hlt : n < 6
      · have hI : (n : Int) < 6 := by omega
        have HR := hid (read_any w.heap.size d f s cap n tail (zs 768) (seenP Q) dv _ wr (HD4.out.below HB.out) (by rw [zs_len]; omega) (by rw [zs_len, hsl]))
        go_wp2_with fail
        refine HR.out.mono ?_
        rintro e w5 ⟨⟨pv, rfl, ho⟩, hb5⟩
        have hse := sec_seen n hlt _ Q rfl
        have hsd := sec_seen n hlt _ (Q.take kb) rfl
        have hpr := ho.reads
        change Reads w5 pv (sec (seenP Q) n) at hpr
        rw [hse] at hpr
        obtain ⟨pb, po, pc, rfl, _⟩ := hpr.here (by rw [one_len]; omega)
        rw [one_len] at hpr
        have B5 := hid (HB.out.trans (hb5.mono HB.out.size))
        have him := sec_reads (n := n) (HIm4.out.below B5.out) hsl hlt
        have hdu := sec_reads (n := n) (HDr4.out.below B5.out) hdl hlt
        rw [hse] at him
        rw [hsd] at hdu
        have hDr : ∀ m, Below w5.heap.size w5 (w5.drewN m) := fun m => below_drewN (Below.refl _ _) m
        have HA1 := hid (fun m => all_true _ _ (w5.drewN m) (hpr.below (hDr m)))
        have HA2 := hid (fun m => all_true _ _ (w5.drewN m) (him.below (hDr m)))
        have HA3 := hid (fun m => all_true _ _ (w5.drewN m) (hdu.below (hDr m)))
        have HQ5 := HQ.out.below (B4.out.trans (B5.out.mono B4.out.size))
        have HK5 := HQk.out.below (B4.out.trans (B5.out.mono B4.out.size))
        have HL1 := hid (fun m => lastOf_any _ Q n (w5.drewN m) (HQ5.below (hDr m)) (by omega))
        have HL2 := hid (fun m => lastOf_any _ (Q.take kb) n (w5.drewN m) (HK5.below (hDr m)) (by rw [List.length_take]; omega))
        have HS1 := hid (fun m => secFn2 ig 0 ic n (w5.drewN m) hic hlt)
        have HS2 := hid (fun m => secFn2 ug uo uc n (w5.drewN m) huc hlt)
        rw [one_len]
        clear ho hb5 hse hsd hpr him hdu hDr HQ5 HK5 HR
        have hkc : kb ≤ qc := by omega
        rw [Nat.zero_add] at HA2 HS1
        have hkI : (kb : Int) ≤ (qc : Int) := by omega
        go_wp2_with fail
        go_quiet ((first
          | (go_at_call 14; first | with_reducible exact Calls.quiet_of_same (HL1.out _) | exact Calls.quiet_of_same (HL2.out _))
          | (go_at_call 15; first | with_reducible exact Calls.quiet_of_same (HS1.out _) | exact Calls.quiet_of_same (HS2.out _))
          | (go_at_call 28; first | with_reducible exact Calls.quiet_of_same (HA1.out _) | with_reducible exact Calls.quiet_of_same (HA2.out _) | exact Calls.quiet_of_same (HA3.out _))))
        have BN := hid (B5.out.trans (below_drewN (Below.refl w4.heap.size w5) nq))
        go_wp2
        go_roundw
        case rel => exact ⟨n + 1, by omega, by go_num, BN.out⟩
        case measure => simp [intOf]; omega
      · have hI : ¬ (n : Int) < 6 := by omega
        have BF := hid (B4.out.trans (HB.out.mono B4.out.size))
        go_wp2
        go_ret
        exact ⟨rfl, BF.out⟩
end Go.Proofs.YtdgkhenejjodaaaDoor
