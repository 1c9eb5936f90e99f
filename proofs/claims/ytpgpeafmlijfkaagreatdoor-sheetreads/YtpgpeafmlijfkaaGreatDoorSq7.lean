/-
  Sheets: the Reader's states, one step each. Laid by mksq7.py.
-/
import Derived.Test.YtpgpeafmlijfkaaGreatDoorSq6
namespace Go.Proofs.YtpgpeafmlijfkaaGreatDoor
open Go.RowKit
set_option maxRecDepth 100000
set_option linter.unusedVariables false
set_option linter.unusedSimpArgs false

theorem RM.re {A : Nat → Addr} {G : Nat → Prop} {w w' : World} {b : Nat} {s s' : Rs} {bp bv cv tv : Value} {V : List Value} (h : RM A G w b s bp bv cv tv V) (hk : Kg (But w b) w w')
    (ht : RB w' b (nxV b s'.md) s'.sz s'.hp s'.op s'.ep s'.rw s'.wd bp bv cv tv s'.fp (erV A s'.er) false) (h1 : s'.cur = s.cur) (h2 : s'.cs = s.cs) (h3 : s'.td = s.td) : RX A G w' b s' ∧ Kg G w w' := by
  obtain ⟨r1, r2, r3, r4⟩ := h.rows hk
  refine ⟨⟨bp, bv, cv, tv, V, ?_⟩, h.kg hk⟩
  exact { gs := fun k hG => Nat.lt_of_lt_of_le (h.gs k hG) hk.size, nb := h.nb, nbv := h.nbv, ncv := h.ncv, ntv := h.ntv, top := ht, bpo := h.bpo, bz := fun hz => h.bz (h1 ▸ hz), buf := by rw [h1]; exact r1, cel := by rw [h2]; exact r2, tol := r3, rws := by rw [h3]; exact r4, ap := h.ap, vlt := h.vlt, dis := h.dis }

theorem endRow_any (A : Nat → Addr) (G : Nat → Prop) (b : Nat) (s : Rs) (p : Nat × Nat) (w : World) (hE : Lea A G w) (h : RX A G w b s) (hrw : s.rw ≤ 1000000) (htd : s.td.length ≤ 1000000) :
    Calls Tryz.prog 99 #[.pointer (some ⟨b, 0, none⟩), plV p] w fun e w' => Stp A G w b (s.endRow p) e w' := by
  unfold Rs.endRow
  by_cases hc : 0 < s.rw ∧ s.cs.length ≠ s.wd
  · rw [if_pos hc]
    exact endRow_bad A G b s p w hE h hc.1 hc.2
  · rw [if_neg hc]
    exact endRow_ok A G b s p w hE h hc hrw htd

set_option maxHeartbeats 1000000 in
theorem mayStand_any (c : UInt8) (w : World) : Calls Tryz.prog 86 #[.int .u8 (c.toNat : Int)] w fun e w' => e = .returned (.bool (mayB c.toNat)) ∧ w' = w := by
  by_cases h9 : c.toNat = 9
  · have HV := hid (show mayB c.toNat = true by unfold mayB; rw [h9]; rfl)
    have e9 : ((c.toNat : Int) == 9) = true := by rw [beq_iff_eq]; omega
    rw [HV.out]
    go_enter Tryz.func86, Tryz.ntmps86
    go_wp2
    go_ret
    exact ⟨rfl, rfl⟩
  · skip
    by_cases h10 : c.toNat = 10
    · have HV := hid (show mayB c.toNat = true by unfold mayB; rw [h10]; rfl)
      have e9 : ((c.toNat : Int) == 9) = false := by rw [beq_eq_false_iff_ne]; omega
      have e10 : ((c.toNat : Int) == 10) = true := by rw [beq_iff_eq]; omega
      rw [HV.out]
      go_enter Tryz.func86, Tryz.ntmps86
      go_wp2
      go_ret
      exact ⟨rfl, rfl⟩
    · skip
      by_cases h13 : c.toNat = 13
      · have HV := hid (show mayB c.toNat = true by unfold mayB; rw [h13]; rfl)
        have e9 : ((c.toNat : Int) == 9) = false := by rw [beq_eq_false_iff_ne]; omega
        have e10 : ((c.toNat : Int) == 10) = false := by rw [beq_eq_false_iff_ne]; omega
        have e13 : ((c.toNat : Int) == 13) = true := by rw [beq_iff_eq]; omega
        rw [HV.out]
        go_enter Tryz.func86, Tryz.ntmps86
        go_wp2
        go_ret
        exact ⟨rfl, rfl⟩
      · skip
        by_cases h127 : c.toNat = 127
        · have HV := hid (show mayB c.toNat = false by unfold mayB; rw [h127]; rfl)
          have e9 : ((c.toNat : Int) == 9) = false := by rw [beq_eq_false_iff_ne]; omega
          have e10 : ((c.toNat : Int) == 10) = false := by rw [beq_eq_false_iff_ne]; omega
          have e13 : ((c.toNat : Int) == 13) = false := by rw [beq_eq_false_iff_ne]; omega
          have e127 : ((c.toNat : Int) == 127) = true := by rw [beq_iff_eq]; omega
          rw [HV.out]
          go_enter Tryz.func86, Tryz.ntmps86
          go_wp2
          go_ret
          exact ⟨rfl, rfl⟩
        · skip
          by_cases h32 : 32 ≤ c.toNat
          · have HV := hid (show mayB c.toNat = true by unfold mayB; simp; omega)
            have d32 : decide ((32 : Int) ≤ (c.toNat : Int)) = true := by simp; omega
            have i32 : (32 : Int) ≤ (c.toNat : Int) := by omega
            have e9 : ((c.toNat : Int) == 9) = false := by rw [beq_eq_false_iff_ne]; omega
            have e10 : ((c.toNat : Int) == 10) = false := by rw [beq_eq_false_iff_ne]; omega
            have e13 : ((c.toNat : Int) == 13) = false := by rw [beq_eq_false_iff_ne]; omega
            have e127 : ((c.toNat : Int) == 127) = false := by rw [beq_eq_false_iff_ne]; omega
            rw [HV.out]
            go_enter Tryz.func86, Tryz.ntmps86
            go_wp2
            go_ret
            exact ⟨rfl, rfl⟩
          · have HV := hid (show mayB c.toNat = false by unfold mayB; simp; omega)
            have d32 : decide ((32 : Int) ≤ (c.toNat : Int)) = false := by simp; omega
            have i32 : ¬ (32 : Int) ≤ (c.toNat : Int) := by omega
            have e9 : ((c.toNat : Int) == 9) = false := by rw [beq_eq_false_iff_ne]; omega
            have e10 : ((c.toNat : Int) == 10) = false := by rw [beq_eq_false_iff_ne]; omega
            have e13 : ((c.toNat : Int) == 13) = false := by rw [beq_eq_false_iff_ne]; omega
            have e127 : ((c.toNat : Int) == 127) = false := by rw [beq_eq_false_iff_ne]; omega
            rw [HV.out]
            go_enter Tryz.func86, Tryz.ntmps86
            go_wp2
            go_ret
            exact ⟨rfl, rfl⟩
set_option maxHeartbeats 2000000 in
theorem endCell_end (A : Nat → Addr) (G : Nat → Prop) (b : Nat) (s : Rs) (w : World) (hE : Lea A G w) (h : RX A G w b s) (hcl : s.cs.length ≤ 900000) (hrw : s.rw ≤ 1000000) (htd : s.td.length ≤ 1000000) :
    Calls Tryz.prog 88 #[.pointer (some ⟨b, 0, none⟩), .int .i64 (-1)] w fun e w' => Stp A G w b (s.endCell none) e w' := by
  have HR := hid (rowEnd_any A G b s w (by omega) h)
  have HE := hid hE
  clear h hE
  go_enter Tryz.func88, Tryz.ntmps88
  go_wp2_with fail
  refine Calls.mono HR.out ?_
  rintro e w1 ⟨rfl, hx, hk⟩
  have HN := hid (endRow_any A G b s.cel s.hp w1 (HE.out.kept hk) hx hrw htd)
  obtain ⟨bp, bv, cv, tv, V, hM⟩ := hx
  have c2 := hM.top.c2
  have c3 := hM.top.c3
  clear hM
  go_wp2_with fail
  refine Calls.mono HN.out ?_
  rintro e w' ⟨rfl, hx2, hk2⟩
  go_wp2
  go_end0
  exact ⟨rfl, hx2, hk.trans hk2⟩
set_option maxHeartbeats 2000000 in
theorem endCell_cr (A : Nat → Addr) (G : Nat → Prop) (b : Nat) (s : Rs) (c : UInt8) (w : World) (hE : Lea A G w) (h : RX A G w b s) (hcl : s.cs.length ≤ 900000) (hrw : s.rw ≤ 1000000) (htd : s.td.length ≤ 1000000) (hc : c.toNat = 13) :
    Calls Tryz.prog 88 #[.pointer (some ⟨b, 0, none⟩), .int .i64 (c.toNat : Int)] w fun e w' => Stp A G w b (s.endCell (some c)) e w' := by
  have HR := hid (rowEnd_any A G b s w (by omega) h)
  have HS := hid (show s.endCell (some c) = { s.cel with ep := s.hp, md := 6 } by unfold Rs.endCell; simp [hc])
  have e13 : ((c.toNat : Int) == 13) = true := by rw [beq_iff_eq]; omega
  have em : ((c.toNat : Int) == -1) = false := by rw [beq_eq_false_iff_ne]; omega
  clear h hE
  go_enter Tryz.func88, Tryz.ntmps88
  go_wp2_with fail
  refine Calls.mono HR.out ?_
  rintro e w1 ⟨rfl, hx, hk⟩
  obtain ⟨bp, bv, cv, tv, V, hM⟩ := hx
  have c2 := hM.top.c2
  have c3 := hM.top.c3
  have c6 := hM.top.c6
  have c7 := hM.top.c7
  have c0 := hM.top.c0
  have f6 := hM.top.fr 6
  have f7 := hM.top.fr 7
  have f0 := hM.top.fr 0
  have HM := hid hM
  clear hM
  go_wp2
  go_end0
  rw [HS.out]
  have := RM.re (s' := { s.cel with ep := s.hp, md := 6 }) HM.out ((((Kg.refl (But w1 b) w1).set (But.not w1 b) _).set (But.not w1 b) _).set (But.not w1 b) _) (((HM.out.top.put6 _).put7 _).put0 _) rfl rfl rfl
  exact ⟨rfl, this.1, hk.trans this.2⟩
set_option maxHeartbeats 2000000 in
theorem endCell_comma (A : Nat → Addr) (G : Nat → Prop) (b : Nat) (s : Rs) (c : UInt8) (w : World) (hE : Lea A G w) (h : RX A G w b s) (hcl : s.cs.length ≤ 900000) (hrw : s.rw ≤ 1000000) (htd : s.td.length ≤ 1000000) (hc : c.toNat = 44) :
    Calls Tryz.prog 88 #[.pointer (some ⟨b, 0, none⟩), .int .i64 (c.toNat : Int)] w fun e w' => Stp A G w b (s.endCell (some c)) e w' := by
  have HR := hid (rowEnd_any A G b s w (by omega) h)
  have HE := hid hE
  have e13 : ((c.toNat : Int) == 13) = false := by rw [beq_eq_false_iff_ne]; omega
  have em : ((c.toNat : Int) == -1) = false := by rw [beq_eq_false_iff_ne]; omega
  clear h hE
  by_cases h64 : s.cs.length + 1 = 64
  · have HS := hid (show s.endCell (some c) = s.cel.fail 6 s.hp by unfold Rs.endCell; simp [hc, h64])
    go_enter Tryz.func88, Tryz.ntmps88
    go_wp2_with fail
    refine Calls.mono HR.out ?_
    rintro e w1 ⟨rfl, hx, hk⟩
    have HF := hid (fail_any A G b s.cel 6 (by decide) s.hp w1.drew (RX.drew hx))
    have g6 := (HE.out.kept hk).er.e6
    obtain ⟨bp, bv, cv, tv, V, hM⟩ := hx
    have hl : s.cel.cs.length = 64 := by unfold Rs.cel; simp; omega
    obtain ⟨ao, cp, hcv⟩ := own_slice hM.cel
    rw [hl] at hcv
    subst hcv
    have c2 := hM.top.c2
    have c3 := hM.top.c3
    have c12 := hM.top.c12
    clear hM
    go_wp2_with fail
    go_region_with (go_at_call 59; refine Calls.mono HF.out ?_; rintro e w' ⟨rfl, hx, hk2⟩)
    all_goals (go_wp2; go_end0; exact ⟨rfl, by rw [HS.out]; exact hx, hk.trans hk2.of_drew⟩)
  · have HS := hid (show s.endCell (some c) = { s.cel with md := 2 } by unfold Rs.endCell; simp [hc, h64])
    go_enter Tryz.func88, Tryz.ntmps88
    go_wp2_with fail
    refine Calls.mono HR.out ?_
    rintro e w1 ⟨rfl, hx, hk⟩
    obtain ⟨bp, bv, cv, tv, V, hM⟩ := hx
    have hl : s.cel.cs.length = s.cs.length + 1 := by unfold Rs.cel; simp
    obtain ⟨ao, cp, rfl⟩ := own_slice hM.cel
    have e64 : ((s.cel.cs.length : Int) == 64) = false := by rw [beq_eq_false_iff_ne]; omega
    have c12 := hM.top.c12
    have c0 := hM.top.c0
    have f0 := hM.top.fr 0
    have HM := hid hM
    clear hM hl h64
    go_wp2
    go_end0
    rw [HS.out]
    have := RM.re (s' := { s.cel with md := 2 }) HM.out ((Kg.refl (But w1 b) w1).set (But.not w1 b) _) (HM.out.top.put0 _) rfl rfl rfl
    exact ⟨rfl, this.1, hk.trans this.2⟩
end Go.Proofs.YtpgpeafmlijfkaaGreatDoor
