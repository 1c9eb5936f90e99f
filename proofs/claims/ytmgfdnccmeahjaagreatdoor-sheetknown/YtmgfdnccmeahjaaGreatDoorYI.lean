/-
  Sq7: Sheets: the Reader's states, one step each. Laid by mksq7.py.
  Sq8: Sheets: the Reader's states, one step each: plain, quoted, behind a quote, behind a return, the beginnings. Laid by mksq8.py.
  Sq9: Sheets: the Reader's states, one step each: behind a quote, behind a return, the beginnings. Laid by mksq9.py.
  Sqa: Sheets: a byte is taken; what is told. Laid by mksqa.py.
  Sqb: Sheets: what is told. Laid by v18.py.
-/
import Derived.Test.YtmgfdnccmeahjaaGreatDoorYH
namespace Go.Proofs.YtmgfdnccmeahjaaGreatDoor
open Go.RowKit
set_option maxRecDepth 100000
set_option linter.unusedVariables false
set_option linter.unusedSimpArgs false

theorem RM.re {A : Nat → Addr} {G : Nat → Prop} {w w' : World} {b : Nat} {s s' : Rs} {bp bv cv tv : Value} {V : List Value} (h : RM A G w b s bp bv cv tv V) (hk : Kg (But w b) w w')
    (ht : RB w' b (nxV b s'.md) s'.sz s'.hp s'.op s'.ep s'.rw s'.wd bp bv cv tv s'.fp (erV A s'.er) false) (h1 : s'.cur = s.cur) (h2 : s'.cs = s.cs) (h3 : s'.td = s.td) : RX A G w' b s' ∧ Kg G w w' := by
  obtain ⟨r1, r2, r3, r4⟩ := h.rows hk
  refine ⟨⟨bp, bv, cv, tv, V, ?_⟩, h.kg hk⟩
  exact { gs := fun k hG => Nat.lt_of_lt_of_le (h.gs k hG) hk.size, nb := h.nb, nbv := h.nbv, ncv := h.ncv, ntv := h.ntv, top := ht, bpo := h.bpo, bz := fun hz => h.bz (h1 ▸ hz), buf := by rw [h1]; exact r1, cel := by rw [h2]; exact r2, tol := r3, rws := by rw [h3]; exact r4, ap := h.ap, vlt := h.vlt, dis := h.dis }

theorem endRow_any (A : Nat → Addr) (G : Nat → Prop) (b : Nat) (s : Rs) (p : Nat × Nat) (w : World) (hE : Lea A G w) (h : RX A G w b s) (hrw : s.rw ≤ 1000000) (htd : s.td.length ≤ 1000000) :
    Calls Tryz.prog 259 #[.pointer (some ⟨b, 0, none⟩), plV p] w fun e w' => Stp A G w b (s.endRow p) e w' := by
  unfold Rs.endRow
  by_cases hc : 0 < s.rw ∧ s.cs.length ≠ s.wd
  · rw [if_pos hc]
    exact endRow_bad A G b s p w hE h hc.1 hc.2
  · rw [if_neg hc]
    exact endRow_ok A G b s p w hE h hc hrw htd

set_option maxHeartbeats 1000000 in
theorem mayStand_any (c : UInt8) (w : World) : Calls Tryz.prog 139 #[.int .u8 (c.toNat : Int)] w fun e w' => e = .returned (.bool (mayB c.toNat)) ∧ w' = w := by
  by_cases h9 : c.toNat = 9
  · have HV := hid (show mayB c.toNat = true by unfold mayB; rw [h9]; rfl)
    have e9 : ((c.toNat : Int) == 9) = true := by rw [beq_iff_eq]; omega
    rw [HV.out]
    go_enter Tryz.func139, Tryz.ntmps139
    go_wp2
    go_ret
    exact ⟨rfl, rfl⟩
  · skip
    by_cases h10 : c.toNat = 10
    · have HV := hid (show mayB c.toNat = true by unfold mayB; rw [h10]; rfl)
      have e9 : ((c.toNat : Int) == 9) = false := by rw [beq_eq_false_iff_ne]; omega
      have e10 : ((c.toNat : Int) == 10) = true := by rw [beq_iff_eq]; omega
      rw [HV.out]
      go_enter Tryz.func139, Tryz.ntmps139
      go_wp2
      go_ret
      exact ⟨rfl, rfl⟩
    · skip
      by_cases h13 : c.toNat = 13
      · have HV := hid (show mayB c.toNat = true by unfold mayB; rw [h13]; rfl)
        have e9 : ((c.toNat : Int) == 9) = false := by rw [beq_eq_false_iff_ne]; omega
        have e10 : ((c.toNat : Int) == 10) = false := by rw [beq_eq_false_iff_ne]; omega
        have e13 : ((c.toNat : Int) == 13) = true := by rw [beq_iff_eq]; omega
        rw [HV.out]
        go_enter Tryz.func139, Tryz.ntmps139
        go_wp2
        go_ret
        exact ⟨rfl, rfl⟩
      · skip
        by_cases h127 : c.toNat = 127
        · have HV := hid (show mayB c.toNat = false by unfold mayB; rw [h127]; rfl)
          have e9 : ((c.toNat : Int) == 9) = false := by rw [beq_eq_false_iff_ne]; omega
          have e10 : ((c.toNat : Int) == 10) = false := by rw [beq_eq_false_iff_ne]; omega
          have e13 : ((c.toNat : Int) == 13) = false := by rw [beq_eq_false_iff_ne]; omega
          have e127 : ((c.toNat : Int) == 127) = true := by rw [beq_iff_eq]; omega
          rw [HV.out]
          go_enter Tryz.func139, Tryz.ntmps139
          go_wp2
          go_ret
          exact ⟨rfl, rfl⟩
        · skip
          by_cases h32 : 32 ≤ c.toNat
          · have HV := hid (show mayB c.toNat = true by unfold mayB; simp; omega)
            have d32 : decide ((32 : Int) ≤ (c.toNat : Int)) = true := by simp; omega
            have i32 : (32 : Int) ≤ (c.toNat : Int) := by omega
            have e9 : ((c.toNat : Int) == 9) = false := by rw [beq_eq_false_iff_ne]; omega
            have e10 : ((c.toNat : Int) == 10) = false := by rw [beq_eq_false_iff_ne]; omega
            have e13 : ((c.toNat : Int) == 13) = false := by rw [beq_eq_false_iff_ne]; omega
            have e127 : ((c.toNat : Int) == 127) = false := by rw [beq_eq_false_iff_ne]; omega
            rw [HV.out]
            go_enter Tryz.func139, Tryz.ntmps139
            go_wp2
            go_ret
            exact ⟨rfl, rfl⟩
          · have HV := hid (show mayB c.toNat = false by unfold mayB; simp; omega)
            have d32 : decide ((32 : Int) ≤ (c.toNat : Int)) = false := by simp; omega
            have i32 : ¬ (32 : Int) ≤ (c.toNat : Int) := by omega
            have e9 : ((c.toNat : Int) == 9) = false := by rw [beq_eq_false_iff_ne]; omega
            have e10 : ((c.toNat : Int) == 10) = false := by rw [beq_eq_false_iff_ne]; omega
            have e13 : ((c.toNat : Int) == 13) = false := by rw [beq_eq_false_iff_ne]; omega
            have e127 : ((c.toNat : Int) == 127) = false := by rw [beq_eq_false_iff_ne]; omega
            rw [HV.out]
            go_enter Tryz.func139, Tryz.ntmps139
            go_wp2
            go_ret
            exact ⟨rfl, rfl⟩
set_option maxHeartbeats 2000000 in
theorem endCell_end (A : Nat → Addr) (G : Nat → Prop) (b : Nat) (s : Rs) (w : World) (hE : Lea A G w) (h : RX A G w b s) (hcl : s.cs.length ≤ 900000) (hrw : s.rw ≤ 1000000) (htd : s.td.length ≤ 1000000) :
    Calls Tryz.prog 220 #[.pointer (some ⟨b, 0, none⟩), .int .i64 (-1)] w fun e w' => Stp A G w b (s.endCell none) e w' := by
  have HR := hid (rowEnd_any A G b s w (by omega) h)
  have HE := hid hE
  clear h hE
  go_enter Tryz.func220, Tryz.ntmps220
  go_wp2_with fail
  refine Calls.mono HR.out ?_
  rintro e w1 ⟨rfl, hx, hk⟩
  have HN := hid (endRow_any A G b s.cel s.hp w1 (HE.out.kept hk) hx hrw htd)
  obtain ⟨bp, bv, cv, tv, V, hM⟩ := hx
  have c2 := hM.top.c2
  have c3 := hM.top.c3
  clear hM
  go_wp2_with fail
  refine Calls.mono HN.out ?_
  rintro e w' ⟨rfl, hx2, hk2⟩
  go_wp2
  go_end0
  exact ⟨rfl, hx2, hk.trans hk2⟩
set_option maxHeartbeats 2000000 in
theorem endCell_cr (A : Nat → Addr) (G : Nat → Prop) (b : Nat) (s : Rs) (c : UInt8) (w : World) (hE : Lea A G w) (h : RX A G w b s) (hcl : s.cs.length ≤ 900000) (hrw : s.rw ≤ 1000000) (htd : s.td.length ≤ 1000000) (hc : c.toNat = 13) :
    Calls Tryz.prog 220 #[.pointer (some ⟨b, 0, none⟩), .int .i64 (c.toNat : Int)] w fun e w' => Stp A G w b (s.endCell (some c)) e w' := by
  have HR := hid (rowEnd_any A G b s w (by omega) h)
  have HS := hid (show s.endCell (some c) = { s.cel with ep := s.hp, md := 6 } by unfold Rs.endCell; simp [hc])
  have e13 : ((c.toNat : Int) == 13) = true := by rw [beq_iff_eq]; omega
  have em : ((c.toNat : Int) == -1) = false := by rw [beq_eq_false_iff_ne]; omega
  clear h hE
  go_enter Tryz.func220, Tryz.ntmps220
  go_wp2_with fail
  refine Calls.mono HR.out ?_
  rintro e w1 ⟨rfl, hx, hk⟩
  obtain ⟨bp, bv, cv, tv, V, hM⟩ := hx
  have c2 := hM.top.c2
  have c3 := hM.top.c3
  have c6 := hM.top.c6
  have c7 := hM.top.c7
  have c0 := hM.top.c0
  have f6 := hM.top.fr 6
  have f7 := hM.top.fr 7
  have f0 := hM.top.fr 0
  have HM := hid hM
  clear hM
  go_wp2
  go_end0
  rw [HS.out]
  have := RM.re (s' := { s.cel with ep := s.hp, md := 6 }) HM.out ((((Kg.refl (But w1 b) w1).set (But.not w1 b) _).set (But.not w1 b) _).set (But.not w1 b) _) (((HM.out.top.put6 _).put7 _).put0 _) rfl rfl rfl
  exact ⟨rfl, this.1, hk.trans this.2⟩
set_option maxHeartbeats 2000000 in
theorem endCell_comma (A : Nat → Addr) (G : Nat → Prop) (b : Nat) (s : Rs) (c : UInt8) (w : World) (hE : Lea A G w) (h : RX A G w b s) (hcl : s.cs.length ≤ 900000) (hrw : s.rw ≤ 1000000) (htd : s.td.length ≤ 1000000) (hc : c.toNat = 44) :
    Calls Tryz.prog 220 #[.pointer (some ⟨b, 0, none⟩), .int .i64 (c.toNat : Int)] w fun e w' => Stp A G w b (s.endCell (some c)) e w' := by
  have HR := hid (rowEnd_any A G b s w (by omega) h)
  have HE := hid hE
  have e13 : ((c.toNat : Int) == 13) = false := by rw [beq_eq_false_iff_ne]; omega
  have em : ((c.toNat : Int) == -1) = false := by rw [beq_eq_false_iff_ne]; omega
  clear h hE
  by_cases h64 : s.cs.length + 1 = 64
  · have HS := hid (show s.endCell (some c) = s.cel.fail 6 s.hp by unfold Rs.endCell; simp [hc, h64])
    go_enter Tryz.func220, Tryz.ntmps220
    go_wp2_with fail
    refine Calls.mono HR.out ?_
    rintro e w1 ⟨rfl, hx, hk⟩
    have HF := hid (fail_any A G b s.cel 6 (by decide) s.hp w1.drew (RX.drew hx))
    have g6 := (HE.out.kept hk).er.e6
    obtain ⟨bp, bv, cv, tv, V, hM⟩ := hx
    have hl : s.cel.cs.length = 64 := by unfold Rs.cel; simp; omega
    obtain ⟨ao, cp, hcv⟩ := own_slice hM.cel
    rw [hl] at hcv
    subst hcv
    have c2 := hM.top.c2
    have c3 := hM.top.c3
    have c12 := hM.top.c12
    clear hM
    go_wp2_with fail
    go_region_with (go_at_call 119; refine Calls.mono HF.out ?_; rintro e w' ⟨rfl, hx, hk2⟩)
    all_goals (go_wp2; go_end0; exact ⟨rfl, by rw [HS.out]; exact hx, hk.trans hk2.of_drew⟩)
  · have HS := hid (show s.endCell (some c) = { s.cel with md := 2 } by unfold Rs.endCell; simp [hc, h64])
    go_enter Tryz.func220, Tryz.ntmps220
    go_wp2_with fail
    refine Calls.mono HR.out ?_
    rintro e w1 ⟨rfl, hx, hk⟩
    obtain ⟨bp, bv, cv, tv, V, hM⟩ := hx
    have hl : s.cel.cs.length = s.cs.length + 1 := by unfold Rs.cel; simp
    obtain ⟨ao, cp, rfl⟩ := own_slice hM.cel
    have e64 : ((s.cel.cs.length : Int) == 64) = false := by rw [beq_eq_false_iff_ne]; omega
    have c12 := hM.top.c12
    have c0 := hM.top.c0
    have f0 := hM.top.fr 0
    have HM := hid hM
    clear hM hl h64
    go_wp2
    go_end0
    rw [HS.out]
    have := RM.re (s' := { s.cel with md := 2 }) HM.out ((Kg.refl (But w1 b) w1).set (But.not w1 b) _) (HM.out.top.put0 _) rfl rfl rfl
    exact ⟨rfl, this.1, hk.trans this.2⟩
end Go.Proofs.YtmgfdnccmeahjaaGreatDoor

namespace Go.Proofs.YtmgfdnccmeahjaaGreatDoor
open Go.RowKit
set_option maxRecDepth 100000
set_option linter.unusedVariables false
set_option linter.unusedSimpArgs false

/-- what is laid of a state -/
theorem RX.parts {A : Nat → Addr} {G : Nat → Prop} {w : World} {b : Nat} {s : Rs} (h : RX A G w b s) : w.cell? ⟨b, 2, none⟩ = some (.int .i64 (s.hp.1 : Int)) ∧ w.cell? ⟨b, 3, none⟩ = some (.int .i64 (s.hp.2 : Int)) ∧ w.cell? ⟨b, 4, none⟩ = some (.int .i64 (s.op.1 : Int)) ∧ w.cell? ⟨b, 5, none⟩ = some (.int .i64 (s.op.2 : Int)) ∧ w.cell? ⟨b, 6, none⟩ = some (.int .i64 (s.ep.1 : Int)) ∧ w.cell? ⟨b, 7, none⟩ = some (.int .i64 (s.ep.2 : Int)) ∧ w.cell? ⟨b, 8, none⟩ = some (.int .i64 (s.rw : Int)) ∧ w.cell? ⟨b, 0, none⟩ = some (nxV b s.md) ∧ ∀ j, w.frozen? ⟨b, j, none⟩ = false := by
  obtain ⟨bp, bv, cv, tv, V, h⟩ := h
  exact ⟨h.top.c2, h.top.c3, h.top.c4, h.top.c5, h.top.c6, h.top.c7, h.top.c8, h.top.c0, fun j => h.top.fr j⟩
/-- the next state's function laid down -/
theorem RX.next {A : Nat → Addr} {G : Nat → Prop} {w : World} {b : Nat} {s : Rs} (h : RX A G w b s) (m : Nat) : RX A G (w.setCell ⟨b, 0, none⟩ (nxV b m)) b { s with md := m } ∧ Kg G w (w.setCell ⟨b, 0, none⟩ (nxV b m)) := by
  obtain ⟨bp, bv, cv, tv, V, h⟩ := h
  exact RM.re (s' := { s with md := m }) h ((Kg.refl (But w b) w).set (But.not w b) _) (h.top.put0 _) rfl rfl rfl

set_option maxHeartbeats 2000000 in
theorem plain_end (A : Nat → Addr) (G : Nat → Prop) (b : Nat) (s : Rs) (w : World) (hE : Lea A G w) (h : RX A G w b s) (hcu : s.cur.length ≤ 4096) (hcl : s.cs.length ≤ 900000) (hrw : s.rw ≤ 1000000) (htd : s.td.length ≤ 1000000) :
    Calls Tryz.prog 184 #[.pointer (some ⟨b, 0, none⟩), .int .i64 (-1)] w fun e w' => Stp A G w b (s.plain none) e w' := by
  have HN := hid (endCell_end A G b s w hE h hcl hrw htd)
  clear h hE
  go_enter Tryz.func184, Tryz.ntmps184
  go_wp2_with fail
  refine Calls.mono HN.out ?_
  rintro e w' ⟨rfl, hx, hk⟩
  go_wp2
  go_end0
  exact ⟨rfl, hx, hk⟩
set_option maxHeartbeats 2000000 in
theorem plain_some (A : Nat → Addr) (G : Nat → Prop) (b : Nat) (s : Rs) (c : UInt8) (w : World) (hE : Lea A G w) (h : RX A G w b s) (hcu : s.cur.length ≤ 4096) (hcl : s.cs.length ≤ 900000) (hrw : s.rw ≤ 1000000) (htd : s.td.length ≤ 1000000) :
    Calls Tryz.prog 184 #[.pointer (some ⟨b, 0, none⟩), .int .i64 (c.toNat : Int)] w fun e w' => Stp A G w b (s.plain (some c)) e w' := by
  by_cases h44 : c.toNat = 44
  · have HN := hid (endCell_comma A G b s c w hE h hcl hrw htd h44)
    have HS := hid (show s.plain (some c) = s.endCell (some c) by unfold Rs.plain; simp [h44])
    have e44 : ((c.toNat : Int) == 44) = true := by rw [beq_iff_eq]; omega
    clear h hE h44
    go_enter Tryz.func184, Tryz.ntmps184
    go_wp2_with fail
    refine Calls.mono HN.out ?_
    rintro e w' ⟨rfl, hx, hk⟩
    go_wp2
    go_end0
    exact ⟨rfl, by rw [HS.out]; exact hx, hk⟩
  by_cases h13 : c.toNat = 13
  · have HN := hid (endCell_cr A G b s c w hE h hcl hrw htd h13)
    have HS := hid (show s.plain (some c) = s.endCell (some c) by unfold Rs.plain; simp [h13])
    have e44 : ((c.toNat : Int) == 44) = false := by rw [beq_eq_false_iff_ne]; omega
    have e13 : ((c.toNat : Int) == 13) = true := by rw [beq_iff_eq]; omega
    clear h hE h44 h13
    go_enter Tryz.func184, Tryz.ntmps184
    go_wp2_with fail
    refine Calls.mono HN.out ?_
    rintro e w' ⟨rfl, hx, hk⟩
    go_wp2
    go_end0
    exact ⟨rfl, by rw [HS.out]; exact hx, hk⟩
  have em : ((c.toNat : Int) == -1) = false := by rw [beq_eq_false_iff_ne]; omega
  by_cases h10 : c.toNat = 10
  · skip
    have HF := hid (fail_any A G b s 3 (by decide) s.hp w.drew (RX.drew h))
    have g3 := hE.er.e3
    have HS := hid (show s.plain (some c) = s.fail 3 s.hp by unfold Rs.plain; simp [h10])
    have c2 := h.parts.1
    have c3 := h.parts.2.1
    have e44 : ((c.toNat : Int) == 44) = false := by rw [beq_eq_false_iff_ne]; omega
    have e13 : ((c.toNat : Int) == 13) = false := by rw [beq_eq_false_iff_ne]; omega
    have e10 : ((c.toNat : Int) == 10) = true := by rw [beq_iff_eq]; omega
    clear h hE
    go_enter Tryz.func184, Tryz.ntmps184
    go_wp2_with fail
    go_region_with (go_at_call 119; refine Calls.mono HF.out ?_; rintro e w' ⟨rfl, hx, hk⟩)
    all_goals (go_wp2; go_end0; exact ⟨rfl, by rw [HS.out]; exact hx, hk.of_drew⟩)
  by_cases h34 : c.toNat = 34
  · skip
    have HF := hid (fail_any A G b s 2 (by decide) s.hp w.drew (RX.drew h))
    have g2 := hE.er.e2
    have HS := hid (show s.plain (some c) = s.fail 2 s.hp by unfold Rs.plain; simp [h34])
    have c2 := h.parts.1
    have c3 := h.parts.2.1
    have e44 : ((c.toNat : Int) == 44) = false := by rw [beq_eq_false_iff_ne]; omega
    have e13 : ((c.toNat : Int) == 13) = false := by rw [beq_eq_false_iff_ne]; omega
    have e10 : ((c.toNat : Int) == 10) = false := by rw [beq_eq_false_iff_ne]; omega
    have e34 : ((c.toNat : Int) == 34) = true := by rw [beq_iff_eq]; omega
    clear h hE
    go_enter Tryz.func184, Tryz.ntmps184
    go_wp2_with fail
    go_region_with (go_at_call 119; refine Calls.mono HF.out ?_; rintro e w' ⟨rfl, hx, hk⟩)
    all_goals (go_wp2; go_end0; exact ⟨rfl, by rw [HS.out]; exact hx, hk.of_drew⟩)
  by_cases h9 : c.toNat = 9
  · skip
    have HF := hid (fail_any A G b s 4 (by decide) s.hp w.drew (RX.drew h))
    have g4 := hE.er.e4
    have HS := hid (show s.plain (some c) = s.fail 4 s.hp by unfold Rs.plain; simp [h9])
    have c2 := h.parts.1
    have c3 := h.parts.2.1
    have e44 : ((c.toNat : Int) == 44) = false := by rw [beq_eq_false_iff_ne]; omega
    have e13 : ((c.toNat : Int) == 13) = false := by rw [beq_eq_false_iff_ne]; omega
    have e10 : ((c.toNat : Int) == 10) = false := by rw [beq_eq_false_iff_ne]; omega
    have e34 : ((c.toNat : Int) == 34) = false := by rw [beq_eq_false_iff_ne]; omega
    have e9 : ((c.toNat : Int) == 9) = true := by rw [beq_iff_eq]; omega
    clear h hE
    go_enter Tryz.func184, Tryz.ntmps184
    go_wp2_with fail
    go_region_with (go_at_call 119; refine Calls.mono HF.out ?_; rintro e w' ⟨rfl, hx, hk⟩)
    all_goals (go_wp2; go_end0; exact ⟨rfl, by rw [HS.out]; exact hx, hk.of_drew⟩)
  by_cases hm : mayB c.toNat = false
  · skip
    have HF := hid (fail_any A G b s 4 (by decide) s.hp w.drew (RX.drew h))
    have g4 := hE.er.e4
    have HS := hid (show s.plain (some c) = s.fail 4 s.hp by unfold Rs.plain; simp [h44, h13, h10, h34, hm])
    have c2 := h.parts.1
    have c3 := h.parts.2.1
    have e44 : ((c.toNat : Int) == 44) = false := by rw [beq_eq_false_iff_ne]; omega
    have e13 : ((c.toNat : Int) == 13) = false := by rw [beq_eq_false_iff_ne]; omega
    have e10 : ((c.toNat : Int) == 10) = false := by rw [beq_eq_false_iff_ne]; omega
    have e34 : ((c.toNat : Int) == 34) = false := by rw [beq_eq_false_iff_ne]; omega
    have e9 : ((c.toNat : Int) == 9) = false := by rw [beq_eq_false_iff_ne]; omega
    clear h hE
    have HMy := hid (show ∀ w, Calls Tryz.prog 139 #[.int .u8 (c.toNat : Int)] w fun e w' => e = .returned (.bool false) ∧ w' = w from fun w => by have := mayStand_any c w; rw [hm] at this; exact this)
    have hc8 : ((c.toNat : Int)) < 256 := by have := c.toNat_lt; omega
    go_enter Tryz.func184, Tryz.ntmps184
    go_wp2_with (go_at_call 139; refine (HMy.out _).mono ?_; rintro e w' ⟨rfl, hw⟩; replace hw := hw.symm; subst hw)
    go_region_with (go_at_call 119; refine Calls.mono HF.out ?_; rintro e w' ⟨rfl, hx, hk⟩)
    all_goals (go_wp2; go_end0; exact ⟨rfl, by rw [HS.out]; exact hx, hk.of_drew⟩)
  · rw [Bool.not_eq_false] at hm
    have HN := hid (add_any A G b s c w hcu hE h)
    have HS := hid (show s.plain (some c) = s.add c by unfold Rs.plain; simp [h44, h13, h10, h34, h9, hm])
    have e44 : ((c.toNat : Int) == 44) = false := by rw [beq_eq_false_iff_ne]; omega
    have e13 : ((c.toNat : Int) == 13) = false := by rw [beq_eq_false_iff_ne]; omega
    have e10 : ((c.toNat : Int) == 10) = false := by rw [beq_eq_false_iff_ne]; omega
    have e34 : ((c.toNat : Int) == 34) = false := by rw [beq_eq_false_iff_ne]; omega
    have e9 : ((c.toNat : Int) == 9) = false := by rw [beq_eq_false_iff_ne]; omega
    have HMy := hid (show ∀ w, Calls Tryz.prog 139 #[.int .u8 (c.toNat : Int)] w fun e w' => e = .returned (.bool true) ∧ w' = w from fun w => by have := mayStand_any c w; rw [hm] at this; exact this)
    have hc8 : ((c.toNat : Int)) < 256 := by have := c.toNat_lt; omega
    clear h hE
    go_enter Tryz.func184, Tryz.ntmps184
    go_wp2_with (first | (go_at_call 139; refine (HMy.out _).mono ?_; rintro e w' ⟨rfl, hw⟩; replace hw := hw.symm; subst hw) | (go_at_call 219; refine Calls.mono HN.out ?_; rintro e w' ⟨rfl, hx, hk⟩))
    go_end0
    exact ⟨rfl, by rw [HS.out]; exact hx, hk⟩
set_option maxHeartbeats 2000000 in
theorem quoted_end (A : Nat → Addr) (G : Nat → Prop) (b : Nat) (s : Rs) (w : World) (hE : Lea A G w) (h : RX A G w b s) (hcu : s.cur.length ≤ 4096) (hcl : s.cs.length ≤ 900000) (hrw : s.rw ≤ 1000000) (htd : s.td.length ≤ 1000000) :
    Calls Tryz.prog 183 #[.pointer (some ⟨b, 0, none⟩), .int .i64 (-1)] w fun e w' => Stp A G w b (s.quoted none) e w' := by
  have HF := hid (fail_any A G b s 1 (by decide) s.op w.drew (RX.drew h))
  have g1 := hE.er.e1
  have HS := hid (show s.quoted none = s.fail 1 s.op by rfl)
  have c4 := h.parts.2.2.1
  have c5 := h.parts.2.2.2.1
  clear h hE
  go_enter Tryz.func183, Tryz.ntmps183
  go_wp2_with fail
  go_region_with (go_at_call 119; refine Calls.mono HF.out ?_; rintro e w' ⟨rfl, hx, hk⟩)
  all_goals (go_wp2; go_end0; exact ⟨rfl, by rw [HS.out]; exact hx, hk.of_drew⟩)
set_option maxHeartbeats 2000000 in
theorem quoted_some (A : Nat → Addr) (G : Nat → Prop) (b : Nat) (s : Rs) (c : UInt8) (w : World) (hE : Lea A G w) (h : RX A G w b s) (hcu : s.cur.length ≤ 4096) (hcl : s.cs.length ≤ 900000) (hrw : s.rw ≤ 1000000) (htd : s.td.length ≤ 1000000) :
    Calls Tryz.prog 183 #[.pointer (some ⟨b, 0, none⟩), .int .i64 (c.toNat : Int)] w fun e w' => Stp A G w b (s.quoted (some c)) e w' := by
  have em : ((c.toNat : Int) == -1) = false := by rw [beq_eq_false_iff_ne]; omega
  by_cases h34 : c.toNat = 34
  · have hn := h.next 5
    have c0 := h.parts.2.2.2.2.2.2.2.1
    have f0 := h.parts.2.2.2.2.2.2.2.2 0
    have HS := hid (show s.quoted (some c) = { s with md := 5 } by unfold Rs.quoted; simp [h34])
    have e34 : ((c.toNat : Int) == 34) = true := by rw [beq_iff_eq]; omega
    rw [nx5] at hn
    have HN := hid hn
    clear h hE hn
    go_enter Tryz.func183, Tryz.ntmps183
    go_wp2
    go_end0
    exact ⟨rfl, by rw [HS.out]; exact HN.out.1, HN.out.2⟩
  by_cases hm : mayB c.toNat = false
  · skip
    have HF := hid (fail_any A G b s 4 (by decide) s.hp w.drew (RX.drew h))
    have g4 := hE.er.e4
    have HS := hid (show s.quoted (some c) = s.fail 4 s.hp by unfold Rs.quoted; simp [h34, hm])
    have c2 := h.parts.1
    have c3 := h.parts.2.1
    have e34 : ((c.toNat : Int) == 34) = false := by rw [beq_eq_false_iff_ne]; omega
    clear h hE
    have HMy := hid (show ∀ w, Calls Tryz.prog 139 #[.int .u8 (c.toNat : Int)] w fun e w' => e = .returned (.bool false) ∧ w' = w from fun w => by have := mayStand_any c w; rw [hm] at this; exact this)
    have hc8 : ((c.toNat : Int)) < 256 := by have := c.toNat_lt; omega
    go_enter Tryz.func183, Tryz.ntmps183
    go_wp2_with (go_at_call 139; refine (HMy.out _).mono ?_; rintro e w' ⟨rfl, hw⟩; replace hw := hw.symm; subst hw)
    go_region_with (go_at_call 119; refine Calls.mono HF.out ?_; rintro e w' ⟨rfl, hx, hk⟩)
    all_goals (go_wp2; go_end0; exact ⟨rfl, by rw [HS.out]; exact hx, hk.of_drew⟩)
  · rw [Bool.not_eq_false] at hm
    have HN := hid (add_any A G b s c w hcu hE h)
    have HS := hid (show s.quoted (some c) = s.add c by unfold Rs.quoted; simp [h34, hm])
    have e34 : ((c.toNat : Int) == 34) = false := by rw [beq_eq_false_iff_ne]; omega
    have HMy := hid (show ∀ w, Calls Tryz.prog 139 #[.int .u8 (c.toNat : Int)] w fun e w' => e = .returned (.bool true) ∧ w' = w from fun w => by have := mayStand_any c w; rw [hm] at this; exact this)
    have hc8 : ((c.toNat : Int)) < 256 := by have := c.toNat_lt; omega
    clear h hE
    go_enter Tryz.func183, Tryz.ntmps183
    go_wp2_with (first | (go_at_call 139; refine (HMy.out _).mono ?_; rintro e w' ⟨rfl, hw⟩; replace hw := hw.symm; subst hw) | (go_at_call 219; refine Calls.mono HN.out ?_; rintro e w' ⟨rfl, hx, hk⟩))
    go_end0
    exact ⟨rfl, by rw [HS.out]; exact hx, hk⟩
end Go.Proofs.YtmgfdnccmeahjaaGreatDoor

namespace Go.Proofs.YtmgfdnccmeahjaaGreatDoor
open Go.RowKit
set_option maxRecDepth 100000
set_option linter.unusedVariables false
set_option linter.unusedSimpArgs false

set_option maxHeartbeats 2000000 in
theorem behindQuote_end (A : Nat → Addr) (G : Nat → Prop) (b : Nat) (s : Rs) (w : World) (hE : Lea A G w) (h : RX A G w b s) (hcu : s.cur.length ≤ 4096) (hcl : s.cs.length ≤ 900000) (hrw : s.rw ≤ 1000000) (htd : s.td.length ≤ 1000000) :
    Calls Tryz.prog 218 #[.pointer (some ⟨b, 0, none⟩), .int .i64 (-1)] w fun e w' => Stp A G w b (s.behindQuote none) e w' := by
  have HN := hid (endCell_end A G b s w hE h hcl hrw htd)
  clear h hE
  go_enter Tryz.func218, Tryz.ntmps218
  go_wp2_with fail
  refine Calls.mono HN.out ?_
  rintro e w' ⟨rfl, hx, hk⟩
  go_wp2
  go_end0
  exact ⟨rfl, hx, hk⟩
set_option maxHeartbeats 2000000 in
theorem behindQuote_some (A : Nat → Addr) (G : Nat → Prop) (b : Nat) (s : Rs) (c : UInt8) (w : World) (hE : Lea A G w) (h : RX A G w b s) (hcu : s.cur.length ≤ 4096) (hcl : s.cs.length ≤ 900000) (hrw : s.rw ≤ 1000000) (htd : s.td.length ≤ 1000000) :
    Calls Tryz.prog 218 #[.pointer (some ⟨b, 0, none⟩), .int .i64 (c.toNat : Int)] w fun e w' => Stp A G w b (s.behindQuote (some c)) e w' := by
  have em : ((c.toNat : Int) == -1) = false := by rw [beq_eq_false_iff_ne]; omega
  by_cases h34 : c.toNat = 34
  · have hn := h.next 4
    have c0 := h.parts.2.2.2.2.2.2.2.1
    have f0 := h.parts.2.2.2.2.2.2.2.2 0
    have HN := hid (add_any A G b { s with md := 4 } c _ hcu (hE.kept hn.2) hn.1)
    have HS := hid (show s.behindQuote (some c) = Rs.add { s with md := 4 } c by unfold Rs.behindQuote; simp [h34])
    have e34 : ((c.toNat : Int) == 34) = true := by rw [beq_iff_eq]; omega
    rw [nx4] at hn HN
    have HK := hid hn.2
    clear h hE hn h34
    go_enter Tryz.func218, Tryz.ntmps218
    go_wp2_with fail
    refine Calls.mono HN.out ?_
    rintro e w' ⟨rfl, hx, hk⟩
    go_wp2
    go_end0
    exact ⟨rfl, by rw [HS.out]; exact hx, HK.out.trans hk⟩
  by_cases h44 : c.toNat = 44
  · have HN := hid (endCell_comma A G b s c w hE h hcl hrw htd h44)
    have HS := hid (show s.behindQuote (some c) = s.endCell (some c) by unfold Rs.behindQuote; simp [h44])
    have e34 : ((c.toNat : Int) == 34) = false := by rw [beq_eq_false_iff_ne]; omega
    have e44 : ((c.toNat : Int) == 44) = true := by rw [beq_iff_eq]; omega
    clear h hE h34 h44
    go_enter Tryz.func218, Tryz.ntmps218
    go_wp2_with fail
    refine Calls.mono HN.out ?_
    rintro e w' ⟨rfl, hx, hk⟩
    go_wp2
    go_end0
    exact ⟨rfl, by rw [HS.out]; exact hx, hk⟩
  by_cases h13 : c.toNat = 13
  · have HN := hid (endCell_cr A G b s c w hE h hcl hrw htd h13)
    have HS := hid (show s.behindQuote (some c) = s.endCell (some c) by unfold Rs.behindQuote; simp [h13])
    have e34 : ((c.toNat : Int) == 34) = false := by rw [beq_eq_false_iff_ne]; omega
    have e44 : ((c.toNat : Int) == 44) = false := by rw [beq_eq_false_iff_ne]; omega
    have e13 : ((c.toNat : Int) == 13) = true := by rw [beq_iff_eq]; omega
    clear h hE h34 h44 h13
    go_enter Tryz.func218, Tryz.ntmps218
    go_wp2_with fail
    refine Calls.mono HN.out ?_
    rintro e w' ⟨rfl, hx, hk⟩
    go_wp2
    go_end0
    exact ⟨rfl, by rw [HS.out]; exact hx, hk⟩
  by_cases h10 : c.toNat = 10
  · skip
    have HF := hid (fail_any A G b s 3 (by decide) s.hp w.drew (RX.drew h))
    have g3 := hE.er.e3
    have HS := hid (show s.behindQuote (some c) = s.fail 3 s.hp by unfold Rs.behindQuote; simp [h10])
    have c2 := h.parts.1
    have c3 := h.parts.2.1
    have e34 : ((c.toNat : Int) == 34) = false := by rw [beq_eq_false_iff_ne]; omega
    have e44 : ((c.toNat : Int) == 44) = false := by rw [beq_eq_false_iff_ne]; omega
    have e13 : ((c.toNat : Int) == 13) = false := by rw [beq_eq_false_iff_ne]; omega
    have e10 : ((c.toNat : Int) == 10) = true := by rw [beq_iff_eq]; omega
    clear h hE
    go_enter Tryz.func218, Tryz.ntmps218
    go_wp2_with fail
    go_region_with (go_at_call 119; refine Calls.mono HF.out ?_; rintro e w' ⟨rfl, hx, hk⟩)
    all_goals (go_wp2; go_end0; exact ⟨rfl, by rw [HS.out]; exact hx, hk.of_drew⟩)
  · skip
    have HF := hid (fail_any A G b s 2 (by decide) s.hp w.drew (RX.drew h))
    have g2 := hE.er.e2
    have HS := hid (show s.behindQuote (some c) = s.fail 2 s.hp by unfold Rs.behindQuote; simp [h34, h44, h13, h10])
    have c2 := h.parts.1
    have c3 := h.parts.2.1
    have e34 : ((c.toNat : Int) == 34) = false := by rw [beq_eq_false_iff_ne]; omega
    have e44 : ((c.toNat : Int) == 44) = false := by rw [beq_eq_false_iff_ne]; omega
    have e13 : ((c.toNat : Int) == 13) = false := by rw [beq_eq_false_iff_ne]; omega
    have e10 : ((c.toNat : Int) == 10) = false := by rw [beq_eq_false_iff_ne]; omega
    clear h hE
    go_enter Tryz.func218, Tryz.ntmps218
    go_wp2_with fail
    go_region_with (go_at_call 119; refine Calls.mono HF.out ?_; rintro e w' ⟨rfl, hx, hk⟩)
    all_goals (go_wp2; go_end0; exact ⟨rfl, by rw [HS.out]; exact hx, hk.of_drew⟩)
set_option maxHeartbeats 2000000 in
theorem behindReturn_end (A : Nat → Addr) (G : Nat → Prop) (b : Nat) (s : Rs) (w : World) (hE : Lea A G w) (h : RX A G w b s) (hcu : s.cur.length ≤ 4096) (hcl : s.cs.length ≤ 900000) (hrw : s.rw ≤ 1000000) (htd : s.td.length ≤ 1000000) :
    Calls Tryz.prog 260 #[.pointer (some ⟨b, 0, none⟩), .int .i64 (-1)] w fun e w' => Stp A G w b (s.behindReturn none) e w' := by
  have HF := hid (fail_any A G b s 3 (by decide) s.ep w.drew (RX.drew h))
  have g3 := hE.er.e3
  have HS := hid (show s.behindReturn none = s.fail 3 s.ep by rfl)
  have c6 := h.parts.2.2.2.2.1
  have c7 := h.parts.2.2.2.2.2.1
  clear h hE
  go_enter Tryz.func260, Tryz.ntmps260
  go_wp2_with fail
  go_region_with (go_at_call 119; refine Calls.mono HF.out ?_; rintro e w' ⟨rfl, hx, hk⟩)
  all_goals (go_wp2; go_end0; exact ⟨rfl, by rw [HS.out]; exact hx, hk.of_drew⟩)
set_option maxHeartbeats 2000000 in
theorem behindReturn_some (A : Nat → Addr) (G : Nat → Prop) (b : Nat) (s : Rs) (c : UInt8) (w : World) (hE : Lea A G w) (h : RX A G w b s) (hcu : s.cur.length ≤ 4096) (hcl : s.cs.length ≤ 900000) (hrw : s.rw ≤ 1000000) (htd : s.td.length ≤ 1000000) :
    Calls Tryz.prog 260 #[.pointer (some ⟨b, 0, none⟩), .int .i64 (c.toNat : Int)] w fun e w' => Stp A G w b (s.behindReturn (some c)) e w' := by
  by_cases h10 : c.toNat = 10
  · have HN := hid (endRow_any A G b s s.ep w hE h hrw htd)
    have c6 := h.parts.2.2.2.2.1
    have c7 := h.parts.2.2.2.2.2.1
    have HS := hid (show s.behindReturn (some c) = s.endRow s.ep by unfold Rs.behindReturn; simp [h10])
    have n10 : ((c.toNat : Int) != 10) = false := by simp; omega
    have e10 : ((c.toNat : Int) == 10) = true := by rw [beq_iff_eq]; omega
    clear h hE h10
    go_enter Tryz.func260, Tryz.ntmps260
    go_wp2_with fail
    refine Calls.mono HN.out ?_
    rintro e w' ⟨rfl, hx, hk⟩
    go_wp2
    go_end0
    exact ⟨rfl, by rw [HS.out]; exact hx, hk⟩
  · have n10 : ((c.toNat : Int) != 10) = true := by simp; omega
    have HF := hid (fail_any A G b s 3 (by decide) s.ep w.drew (RX.drew h))
    have g3 := hE.er.e3
    have HS := hid (show s.behindReturn (some c) = s.fail 3 s.ep by unfold Rs.behindReturn; simp [h10])
    have c6 := h.parts.2.2.2.2.1
    have c7 := h.parts.2.2.2.2.2.1
    have e10 : ((c.toNat : Int) == 10) = false := by rw [beq_eq_false_iff_ne]; omega
    clear h hE
    go_enter Tryz.func260, Tryz.ntmps260
    go_wp2_with fail
    go_region_with (go_at_call 119; refine Calls.mono HF.out ?_; rintro e w' ⟨rfl, hx, hk⟩)
    all_goals (go_wp2; go_end0; exact ⟨rfl, by rw [HS.out]; exact hx, hk.of_drew⟩)
set_option maxHeartbeats 2000000 in
theorem beginCell_end (A : Nat → Addr) (G : Nat → Prop) (b : Nat) (s : Rs) (w : World) (hE : Lea A G w) (h : RX A G w b s) (hcu : s.cur.length ≤ 4096) (hcl : s.cs.length ≤ 900000) (hrw : s.rw ≤ 1000000) (htd : s.td.length ≤ 1000000) :
    Calls Tryz.prog 155 #[.pointer (some ⟨b, 0, none⟩), .int .i64 (-1)] w fun e w' => Stp A G w b (s.beginCell none) e w' := by
  have hn := h.next 3
  have c0 := h.parts.2.2.2.2.2.2.2.1
  have f0 := h.parts.2.2.2.2.2.2.2.2 0
  have HN := hid (plain_end A G b { s with md := 3 } _ (hE.kept hn.2) hn.1 hcu hcl hrw htd)
  rw [nx3] at hn HN
  have HK := hid hn.2
  clear h hE hn
  go_enter Tryz.func155, Tryz.ntmps155
  go_wp2_with fail
  refine Calls.mono HN.out ?_
  rintro e w' ⟨rfl, hx, hk⟩
  go_wp2
  go_end0
  exact ⟨rfl, hx, HK.out.trans hk⟩
set_option maxHeartbeats 2000000 in
theorem beginCell_some (A : Nat → Addr) (G : Nat → Prop) (b : Nat) (s : Rs) (c : UInt8) (w : World) (hE : Lea A G w) (h : RX A G w b s) (hcu : s.cur.length ≤ 4096) (hcl : s.cs.length ≤ 900000) (hrw : s.rw ≤ 1000000) (htd : s.td.length ≤ 1000000) :
    Calls Tryz.prog 155 #[.pointer (some ⟨b, 0, none⟩), .int .i64 (c.toNat : Int)] w fun e w' => Stp A G w b (s.beginCell (some c)) e w' := by
  by_cases h34 : c.toNat = 34
  · have HS := hid (show s.beginCell (some c) = { s with op := s.hp, md := 4 } by unfold Rs.beginCell; simp [h34])
    have e34 : ((c.toNat : Int) == 34) = true := by rw [beq_iff_eq]; omega
    obtain ⟨bp, bv, cv, tv, V, hM⟩ := h
    have c2 := hM.top.c2
    have c3 := hM.top.c3
    have c4 := hM.top.c4
    have c5 := hM.top.c5
    have c0 := hM.top.c0
    have f4 := hM.top.fr 4
    have f5 := hM.top.fr 5
    have f0 := hM.top.fr 0
    have HM := hid hM
    clear hM hE h34
    go_enter Tryz.func155, Tryz.ntmps155
    go_wp2
    go_end0
    rw [HS.out]
    have := RM.re (s' := { s with op := s.hp, md := 4 }) HM.out ((((Kg.refl (But w b) w).set (But.not w b) _).set (But.not w b) _).set (But.not w b) _) (((HM.out.top.put4 _).put5 _).put0 _) rfl rfl rfl
    exact ⟨rfl, this.1, this.2⟩
  · have hn := h.next 3
    have c0 := h.parts.2.2.2.2.2.2.2.1
    have f0 := h.parts.2.2.2.2.2.2.2.2 0
    have HN := hid (plain_some A G b { s with md := 3 } c _ (hE.kept hn.2) hn.1 hcu hcl hrw htd)
    have HS := hid (show s.beginCell (some c) = Rs.plain { s with md := 3 } (some c) by unfold Rs.beginCell; simp [h34])
    have e34 : ((c.toNat : Int) == 34) = false := by rw [beq_eq_false_iff_ne]; omega
    rw [nx3] at hn HN
    have HK := hid hn.2
    clear h hE hn h34
    go_enter Tryz.func155, Tryz.ntmps155
    go_wp2_with fail
    refine Calls.mono HN.out ?_
    rintro e w' ⟨rfl, hx, hk⟩
    go_wp2
    go_end0
    exact ⟨rfl, by rw [HS.out]; exact hx, HK.out.trans hk⟩
set_option maxHeartbeats 2000000 in
theorem beginRow_end (A : Nat → Addr) (G : Nat → Prop) (b : Nat) (s : Rs) (w : World) (hE : Lea A G w) (h : RX A G w b s) (hcu : s.cur.length ≤ 4096) (hcl : s.cs.length ≤ 900000) (hrw : s.rw ≤ 1000000) (htd : s.td.length ≤ 1000000) :
    Calls Tryz.prog 118 #[.pointer (some ⟨b, 0, none⟩), .int .i64 (-1)] w fun e w' => Stp A G w b (s.beginRow none) e w' := by
  have HX := hid h
  clear h hE
  go_enter Tryz.func118, Tryz.ntmps118
  go_wp2
  go_end0
  exact ⟨rfl, HX.out, Kg.refl _ _⟩
set_option maxHeartbeats 2000000 in
theorem beginRow_some (A : Nat → Addr) (G : Nat → Prop) (b : Nat) (s : Rs) (c : UInt8) (w : World) (hE : Lea A G w) (h : RX A G w b s) (hcu : s.cur.length ≤ 4096) (hcl : s.cs.length ≤ 900000) (hrw : s.rw ≤ 1000000) (htd : s.td.length ≤ 1000000) :
    Calls Tryz.prog 118 #[.pointer (some ⟨b, 0, none⟩), .int .i64 (c.toNat : Int)] w fun e w' => Stp A G w b (s.beginRow (some c)) e w' := by
  have em : ((c.toNat : Int) == -1) = false := by rw [beq_eq_false_iff_ne]; omega
  have c8 := h.parts.2.2.2.2.2.2.1
  by_cases h4 : s.rw = 4096
  · have e4 : ((s.rw : Int) == 4096) = true := by rw [beq_iff_eq]; omega
    have HF := hid (fail_any A G b s 7 (by decide) s.hp w.drew (RX.drew h))
    have g7 := hE.er.e7
    have HS := hid (show s.beginRow (some c) = s.fail 7 s.hp by unfold Rs.beginRow; simp [h4])
    have c2 := h.parts.1
    have c3 := h.parts.2.1
    clear h hE
    go_enter Tryz.func118, Tryz.ntmps118
    go_wp2_with fail
    go_region_with (go_at_call 119; refine Calls.mono HF.out ?_; rintro e w' ⟨rfl, hx, hk⟩)
    all_goals (go_wp2; go_end0; exact ⟨rfl, by rw [HS.out]; exact hx, hk.of_drew⟩)
  · have e4 : ((s.rw : Int) == 4096) = false := by rw [beq_eq_false_iff_ne]; omega
    have HN := hid (beginCell_some A G b s c w hE h hcu hcl hrw htd)
    have HS := hid (show s.beginRow (some c) = s.beginCell (some c) by unfold Rs.beginRow; simp [h4])
    clear h hE h4
    go_enter Tryz.func118, Tryz.ntmps118
    go_wp2_with fail
    refine Calls.mono HN.out ?_
    rintro e w' ⟨rfl, hx, hk⟩
    go_wp2
    go_end0
    exact ⟨rfl, by rw [HS.out]; exact hx, hk⟩
/-- what a state is given -/
def cI (c : Option UInt8) : Int := match c with
  | none => -1
  | some c => (c.toNat : Int)
theorem next_any (A : Nat → Addr) (G : Nat → Prop) (b : Nat) (s : Rs) (c : Option UInt8) (w : World) (hE : Lea A G w) (h : RX A G w b s) (hcu : s.cur.length ≤ 4096) (hcl : s.cs.length ≤ 900000) (hrw : s.rw ≤ 1000000) (htd : s.td.length ≤ 1000000) :
    Calls Tryz.prog (fnO s.md) #[.pointer (some ⟨b, 0, none⟩), .int .i64 (cI c)] w fun e w' => Stp A G w b (s.next c) e w' := by
  unfold fnO Rs.next
  by_cases h1 : s.md = 1
  · rw [if_pos h1, if_pos h1]
    cases c with
    | none => exact beginRow_end A G b s w hE h hcu hcl hrw htd
    | some c => exact beginRow_some A G b s c w hE h hcu hcl hrw htd
  rw [if_neg h1, if_neg h1]
  by_cases h2 : s.md = 2
  · rw [if_pos h2, if_pos h2]
    cases c with
    | none => exact beginCell_end A G b s w hE h hcu hcl hrw htd
    | some c => exact beginCell_some A G b s c w hE h hcu hcl hrw htd
  rw [if_neg h2, if_neg h2]
  by_cases h3 : s.md = 3
  · rw [if_pos h3, if_pos h3]
    cases c with
    | none => exact plain_end A G b s w hE h hcu hcl hrw htd
    | some c => exact plain_some A G b s c w hE h hcu hcl hrw htd
  rw [if_neg h3, if_neg h3]
  by_cases h4 : s.md = 4
  · rw [if_pos h4, if_pos h4]
    cases c with
    | none => exact quoted_end A G b s w hE h hcu hcl hrw htd
    | some c => exact quoted_some A G b s c w hE h hcu hcl hrw htd
  rw [if_neg h4, if_neg h4]
  by_cases h5 : s.md = 5
  · rw [if_pos h5, if_pos h5]
    cases c with
    | none => exact behindQuote_end A G b s w hE h hcu hcl hrw htd
    | some c => exact behindQuote_some A G b s c w hE h hcu hcl hrw htd
  rw [if_neg h5, if_neg h5]
  cases c with
  | none => exact behindReturn_end A G b s w hE h hcu hcl hrw htd
  | some c => exact behindReturn_some A G b s c w hE h hcu hcl hrw htd
end Go.Proofs.YtmgfdnccmeahjaaGreatDoor

namespace Go.Proofs.YtmgfdnccmeahjaaGreatDoor
open Go.RowKit
set_option maxRecDepth 100000
set_option linter.unusedVariables false
set_option linter.unusedSimpArgs false

/-- numbers that stay small -/
structure Bdd (s : Rs) : Prop where
  cur : s.cur.length ≤ 4096
  cs : s.cs.length ≤ s.sz
  rw : s.rw ≤ s.sz
  td : s.td.length ≤ s.sz
  l : s.hp.1 ≤ s.sz + 1
  c : s.hp.2 ≤ s.sz
/-- what a step does to the numbers -/
structure Nxt (s s' : Rs) : Prop where
  sz : s'.sz = s.sz
  hp : s'.hp = s.hp
  cur : s'.cur.length ≤ 4096
  cs : s'.cs.length ≤ s.cs.length + 1
  rw : s'.rw ≤ s.rw + 1
  td : s'.td.length ≤ s.td.length + 1
theorem nxt_fail (s : Rs) (c : Nat) (p : Nat × Nat) : Nxt s (s.fail c p) := ⟨rfl, rfl, by simp [Rs.fail], by simp [Rs.fail], by simp [Rs.fail], by simp [Rs.fail]⟩
theorem nxt_add (s : Rs) (c : UInt8) (h : s.cur.length ≤ 4096) : Nxt s (s.add c) := by
  unfold Rs.add
  split
  · exact nxt_fail _ _ _
  · exact ⟨rfl, rfl, by simp; omega, by simp, by simp, by simp⟩
theorem nxt_row (s t : Rs) (p : Nat × Nat) (h1 : t.sz = s.sz) (h2 : t.hp = s.hp) (h3 : t.rw = s.rw) (h4 : t.td = s.td) : Nxt s (t.endRow p) := by
  unfold Rs.endRow
  split
  · exact ⟨h1, h2, by simp [Rs.fail], by simp [Rs.fail], by simp [Rs.fail]; omega, by simp [Rs.fail, h4]⟩
  · exact ⟨h1, h2, by simp, by simp, by simp; omega, by simp [h4]⟩
theorem nxt_endCell (s : Rs) (c : Option UInt8) : Nxt s (s.endCell c) := by
  unfold Rs.endCell
  cases c with
  | none => exact nxt_row s s.cel s.hp rfl rfl rfl rfl
  | some c =>
    simp only []
    split
    · exact ⟨rfl, rfl, by simp [Rs.cel], by simp [Rs.cel], by simp [Rs.cel], by simp [Rs.cel]⟩
    · split
      · exact ⟨rfl, rfl, by simp [Rs.fail], by simp [Rs.fail], by simp [Rs.fail, Rs.cel], by simp [Rs.fail, Rs.cel]⟩
      · exact ⟨rfl, rfl, by simp [Rs.cel], by simp [Rs.cel], by simp [Rs.cel], by simp [Rs.cel]⟩
theorem nxt_md {s t : Rs} {m : Nat} (h : Nxt { s with md := m } t) : Nxt s t := ⟨h.sz, h.hp, h.cur, h.cs, h.rw, h.td⟩
theorem nxt_plain (s : Rs) (c : Option UInt8) (h : s.cur.length ≤ 4096) : Nxt s (s.plain c) := by
  unfold Rs.plain
  cases c with
  | none => exact nxt_endCell s none
  | some c =>
    simp only []
    split
    · exact nxt_endCell s _
    · split
      · exact nxt_fail _ _ _
      · split
        · exact nxt_fail _ _ _
        · split
          · exact nxt_fail _ _ _
          · exact nxt_add s c h
theorem nxt_quoted (s : Rs) (c : Option UInt8) (h : s.cur.length ≤ 4096) : Nxt s (s.quoted c) := by
  unfold Rs.quoted
  cases c with
  | none => exact nxt_fail _ _ _
  | some c =>
    simp only []
    split
    · exact ⟨rfl, rfl, h, by simp, by simp, by simp⟩
    · split
      · exact nxt_fail _ _ _
      · exact nxt_add s c h
theorem nxt_behindQuote (s : Rs) (c : Option UInt8) (h : s.cur.length ≤ 4096) : Nxt s (s.behindQuote c) := by
  unfold Rs.behindQuote
  cases c with
  | none => exact nxt_endCell s none
  | some c =>
    simp only []
    split
    · exact nxt_md (nxt_add { s with md := 4 } c h)
    · split
      · exact nxt_endCell s _
      · split
        · exact nxt_fail _ _ _
        · exact nxt_fail _ _ _
theorem nxt_behindReturn (s : Rs) (c : Option UInt8) : Nxt s (s.behindReturn c) := by
  unfold Rs.behindReturn
  cases c with
  | none => exact nxt_fail _ _ _
  | some c =>
    simp only []
    split
    · exact nxt_row s s _ rfl rfl rfl rfl
    · exact nxt_fail _ _ _
theorem nxt_beginCell (s : Rs) (c : Option UInt8) (h : s.cur.length ≤ 4096) : Nxt s (s.beginCell c) := by
  unfold Rs.beginCell
  cases c with
  | none => exact nxt_md (nxt_plain { s with md := 3 } none h)
  | some c =>
    simp only []
    split
    · exact ⟨rfl, rfl, h, by simp, by simp, by simp⟩
    · exact nxt_md (nxt_plain { s with md := 3 } (some c) h)
theorem nxt_any (s : Rs) (c : Option UInt8) (h : s.cur.length ≤ 4096) : Nxt s (s.next c) := by
  unfold Rs.next
  split
  · unfold Rs.beginRow
    cases c with
    | none => exact ⟨rfl, rfl, h, by simp, by simp, by simp⟩
    | some c =>
      simp only []
      split
      · exact nxt_fail _ _ _
      · exact nxt_beginCell s _ h
  · split
    · exact nxt_beginCell s c h
    · split
      · exact nxt_plain s c h
      · split
        · exact nxt_quoted s c h
        · split
          · exact nxt_behindQuote s c h
          · exact nxt_behindReturn s c
theorem Bdd.take {s : Rs} (h : Bdd s) (c : UInt8) : Bdd (s.take c) := by
  unfold Rs.take
  split
  · exact ⟨by simp [Rs.fail], by simp [Rs.fail], h.rw, h.td, h.l, h.c⟩
  · have n := nxt_any s (some c) h.cur
    have h1 := h.cs
    have h2 := h.rw
    have h3 := h.td
    have h4 := h.l
    have h5 := h.c
    have n1 := n.cs
    have n2 := n.rw
    have n3 := n.td
    refine ⟨n.cur, ?_, ?_, ?_, ?_, ?_⟩
    · show (s.next (some c)).cs.length ≤ (s.next (some c)).sz + 1
      rw [n.sz]; omega
    · show (s.next (some c)).rw ≤ (s.next (some c)).sz + 1
      rw [n.sz]; omega
    · show (s.next (some c)).td.length ≤ (s.next (some c)).sz + 1
      rw [n.sz]; omega
    · show (adv (s.next (some c)).hp c.toNat).1 ≤ (s.next (some c)).sz + 1 + 1
      rw [n.sz, n.hp]
      unfold adv
      split <;> simp <;> omega
    · show (adv (s.next (some c)).hp c.toNat).2 ≤ (s.next (some c)).sz + 1
      rw [n.sz, n.hp]
      unfold adv
      split <;> simp <;> omega

set_option maxHeartbeats 2000000 in
theorem take_long (A : Nat → Addr) (G : Nat → Prop) (b : Nat) (s : Rs) (c : UInt8) (w : World) (hE : Lea A G w) (h : RX A G w b s) (hs : s.sz = 262144) :
    Calls Tryz.prog 91 #[.pointer (some ⟨b, 0, none⟩), .int .u8 (c.toNat : Int)] w fun e w' => Stp A G w b (s.take c) e w' := by
  have HF := hid (fail_any A G b s 20 (by decide) s.hp w.drew (RX.drew h))
  have g20 := hE.er.e20
  have HS := hid (show s.take c = s.fail 20 s.hp by unfold Rs.take; rw [if_pos hs])
  have c2 := h.parts.1
  have c3 := h.parts.2.1
  obtain ⟨bp, bv, cv, tv, V, hM⟩ := h
  have c1 := hM.top.c1
  have e1 : ((s.sz : Int) == 262144) = true := by rw [beq_iff_eq]; omega
  clear hE hM hs
  go_enter Tryz.func91, Tryz.ntmps91
  go_wp2_with fail
  go_region_with (go_at_call 119; refine Calls.mono HF.out ?_; rintro e w' ⟨rfl, hx, hk⟩)
  all_goals (go_wp2; go_end0; exact ⟨rfl, by rw [HS.out]; exact hx, hk.of_drew⟩)
/-- behind the state's step: the place goes on -/
theorem take_rest (A : Nat → Addr) (G : Nat → Prop) (b : Nat) (s : Rs) (c : UInt8) (w1 : World) (hx : RX A G w1 b (s.next (some c))) (hb : Bdd s) (W : World) (hk : Kg (But w1 b) w1 W)
    (ht : ∀ {v0 v4 v5 v6 v7 v8 v9 v10 v11 v12 v13 v14 v15 v16 v17 : Value}, R18 w1 b v0 (.int .i64 (s.sz : Int)) (.int .i64 (s.hp.1 : Int)) (.int .i64 (s.hp.2 : Int)) v4 v5 v6 v7 v8 v9 v10 v11 v12 v13 v14 v15 v16 v17 → R18 W b v0 (.int .i64 ((s.sz + 1 : Nat) : Int)) (.int .i64 ((adv s.hp c.toNat).1 : Int)) (.int .i64 ((adv s.hp c.toNat).2 : Int)) v4 v5 v6 v7 v8 v9 v10 v11 v12 v13 v14 v15 v16 v17) :
    RX A G W b ((s.next (some c)).gone c) ∧ Kg G w1 W := by
  obtain ⟨bp, bv, cv, tv, V, hM⟩ := hx
  have n := nxt_any s (some c) hb.cur
  refine RM.re (s' := (s.next (some c)).gone c) hM hk ?_ rfl rfl rfl
  have h1 : ((s.next (some c)).gone c).sz = s.sz + 1 := by show (s.next (some c)).sz + 1 = _; rw [n.sz]
  have h2 : ((s.next (some c)).gone c).hp = adv s.hp c.toNat := by show adv (s.next (some c)).hp c.toNat = _; rw [n.hp]
  rw [h1, h2]
  have ht1 := hM.top
  rw [n.sz, n.hp] at ht1
  exact ht ht1
set_option maxHeartbeats 2000000 in
theorem take_beginRow (A : Nat → Addr) (G : Nat → Prop) (b : Nat) (s : Rs) (c : UInt8) (w : World) (hE : Lea A G w) (h : RX A G w b s) (hs : s.sz < 262144) (hb : Bdd s) (hm : fnO s.md = 118) :
    Calls Tryz.prog 91 #[.pointer (some ⟨b, 0, none⟩), .int .u8 (c.toNat : Int)] w fun e w' => Stp A G w b (s.take c) e w' := by
  have q1 := hb.cs
  have q2 := hb.rw
  have q3 := hb.td
  have q4 := hb.l
  have q5 := hb.c
  have HN := next_any A G b s (some c) w hE h hb.cur (by omega) (by omega) (by omega)
  rw [hm] at HN
  have HS := hid (show s.take c = (s.next (some c)).gone c by unfold Rs.take; rw [if_neg (by omega)])
  have c0 : w.cell? ⟨b, 0, none⟩ = some (.func (.func 118) #[.pointer (some ⟨b, 0, none⟩)] #[]) := by rw [h.parts.2.2.2.2.2.2.2.1]; unfold nxV; rw [hm]
  obtain ⟨bp, bv, cv, tv, V, hM⟩ := h
  have c1 := hM.top.c1
  have e1 : ((s.sz : Int) == 262144) = false := by rw [beq_eq_false_iff_ne]; omega
  have HN' : Hid (Calls Tryz.prog 118 #[.pointer (some ⟨b, 0, none⟩), .int .i64 (c.toNat : Int)] w fun e w' => Stp A G w b (s.next (some c)) e w') := HN
  have HB := hid hb
  have r1 : s.sz ≤ 1000000 := by omega
  have r2 : s.hp.1 ≤ 1000000 := by omega
  have r3 : s.hp.2 ≤ 1000000 := by omega
  have hw64 : wrap64 (c.toNat : Int) = (c.toNat : Int) := by have := c.toNat_lt; unfold wrap64; omega
  clear hE hM hb HN hm q1 q2 q3 q4 q5 hs
  by_cases h10 : c.toNat = 10
  · have e10 : ((c.toNat : Int) == 10) = true := by rw [beq_iff_eq]; omega
    have HA := hid (show adv s.hp c.toNat = (s.hp.1 + 1, 0) by unfold adv; rw [if_pos h10])
    clear h10
    go_enter Tryz.func91, Tryz.ntmps91
    go_wp2_with fail
    refine Calls.mono HN'.out ?_
    rintro e w1 ⟨rfl, hx, hk⟩
    obtain ⟨bp, bv, cv, tv, V, hM⟩ := id hx
    have n := nxt_any s (some c) HB.out.cur
    have d1 := hM.top.c1
    have d2 := hM.top.c2
    have d3 := hM.top.c3
    rw [n.sz] at d1
    rw [n.hp] at d2 d3
    have f1 := hM.top.fr 1
    have f2 := hM.top.fr 2
    have f3 := hM.top.fr 3
    have HX := hid hx
    clear hM hx n
    go_wp2
    go_end0
    rw [HS.out]
    refine ⟨rfl, And.imp_right (fun h => hk.trans h) (take_rest A G b s c w1 HX.out HB.out _ ?_ ?_)⟩
    · iterate 4 refine Kg.set ?_ (But.not w1 b) _
      exact Kg.refl _ _
    · intro v0 v4 v5 v6 v7 v8 v9 v10 v11 v12 v13 v14 v15 v16 v17 hr
      rw [HA.out]
      exact (((hr.put1 _).put3 _).put2 _).put3 _
  · have e10 : ((c.toNat : Int) == 10) = false := by rw [beq_eq_false_iff_ne]; omega
    have HA := hid (show adv s.hp c.toNat = (s.hp.1, s.hp.2 + 1) by unfold adv; rw [if_neg h10])
    clear h10
    go_enter Tryz.func91, Tryz.ntmps91
    go_wp2_with fail
    refine Calls.mono HN'.out ?_
    rintro e w1 ⟨rfl, hx, hk⟩
    obtain ⟨bp, bv, cv, tv, V, hM⟩ := id hx
    have n := nxt_any s (some c) HB.out.cur
    have d1 := hM.top.c1
    have d2 := hM.top.c2
    have d3 := hM.top.c3
    rw [n.sz] at d1
    rw [n.hp] at d2 d3
    have f1 := hM.top.fr 1
    have f2 := hM.top.fr 2
    have f3 := hM.top.fr 3
    have HX := hid hx
    clear hM hx n
    go_wp2
    go_end0
    rw [HS.out]
    refine ⟨rfl, And.imp_right (fun h => hk.trans h) (take_rest A G b s c w1 HX.out HB.out _ ?_ ?_)⟩
    · iterate 2 refine Kg.set ?_ (But.not w1 b) _
      exact Kg.refl _ _
    · intro v0 v4 v5 v6 v7 v8 v9 v10 v11 v12 v13 v14 v15 v16 v17 hr
      rw [HA.out]
      exact (hr.put1 _).put3 _
set_option maxHeartbeats 2000000 in
theorem take_beginCell (A : Nat → Addr) (G : Nat → Prop) (b : Nat) (s : Rs) (c : UInt8) (w : World) (hE : Lea A G w) (h : RX A G w b s) (hs : s.sz < 262144) (hb : Bdd s) (hm : fnO s.md = 155) :
    Calls Tryz.prog 91 #[.pointer (some ⟨b, 0, none⟩), .int .u8 (c.toNat : Int)] w fun e w' => Stp A G w b (s.take c) e w' := by
  have q1 := hb.cs
  have q2 := hb.rw
  have q3 := hb.td
  have q4 := hb.l
  have q5 := hb.c
  have HN := next_any A G b s (some c) w hE h hb.cur (by omega) (by omega) (by omega)
  rw [hm] at HN
  have HS := hid (show s.take c = (s.next (some c)).gone c by unfold Rs.take; rw [if_neg (by omega)])
  have c0 : w.cell? ⟨b, 0, none⟩ = some (.func (.func 155) #[.pointer (some ⟨b, 0, none⟩)] #[]) := by rw [h.parts.2.2.2.2.2.2.2.1]; unfold nxV; rw [hm]
  obtain ⟨bp, bv, cv, tv, V, hM⟩ := h
  have c1 := hM.top.c1
  have e1 : ((s.sz : Int) == 262144) = false := by rw [beq_eq_false_iff_ne]; omega
  have HN' : Hid (Calls Tryz.prog 155 #[.pointer (some ⟨b, 0, none⟩), .int .i64 (c.toNat : Int)] w fun e w' => Stp A G w b (s.next (some c)) e w') := HN
  have HB := hid hb
  have r1 : s.sz ≤ 1000000 := by omega
  have r2 : s.hp.1 ≤ 1000000 := by omega
  have r3 : s.hp.2 ≤ 1000000 := by omega
  have hw64 : wrap64 (c.toNat : Int) = (c.toNat : Int) := by have := c.toNat_lt; unfold wrap64; omega
  clear hE hM hb HN hm q1 q2 q3 q4 q5 hs
  by_cases h10 : c.toNat = 10
  · have e10 : ((c.toNat : Int) == 10) = true := by rw [beq_iff_eq]; omega
    have HA := hid (show adv s.hp c.toNat = (s.hp.1 + 1, 0) by unfold adv; rw [if_pos h10])
    clear h10
    go_enter Tryz.func91, Tryz.ntmps91
    go_wp2_with fail
    refine Calls.mono HN'.out ?_
    rintro e w1 ⟨rfl, hx, hk⟩
    obtain ⟨bp, bv, cv, tv, V, hM⟩ := id hx
    have n := nxt_any s (some c) HB.out.cur
    have d1 := hM.top.c1
    have d2 := hM.top.c2
    have d3 := hM.top.c3
    rw [n.sz] at d1
    rw [n.hp] at d2 d3
    have f1 := hM.top.fr 1
    have f2 := hM.top.fr 2
    have f3 := hM.top.fr 3
    have HX := hid hx
    clear hM hx n
    go_wp2
    go_end0
    rw [HS.out]
    refine ⟨rfl, And.imp_right (fun h => hk.trans h) (take_rest A G b s c w1 HX.out HB.out _ ?_ ?_)⟩
    · iterate 4 refine Kg.set ?_ (But.not w1 b) _
      exact Kg.refl _ _
    · intro v0 v4 v5 v6 v7 v8 v9 v10 v11 v12 v13 v14 v15 v16 v17 hr
      rw [HA.out]
      exact (((hr.put1 _).put3 _).put2 _).put3 _
  · have e10 : ((c.toNat : Int) == 10) = false := by rw [beq_eq_false_iff_ne]; omega
    have HA := hid (show adv s.hp c.toNat = (s.hp.1, s.hp.2 + 1) by unfold adv; rw [if_neg h10])
    clear h10
    go_enter Tryz.func91, Tryz.ntmps91
    go_wp2_with fail
    refine Calls.mono HN'.out ?_
    rintro e w1 ⟨rfl, hx, hk⟩
    obtain ⟨bp, bv, cv, tv, V, hM⟩ := id hx
    have n := nxt_any s (some c) HB.out.cur
    have d1 := hM.top.c1
    have d2 := hM.top.c2
    have d3 := hM.top.c3
    rw [n.sz] at d1
    rw [n.hp] at d2 d3
    have f1 := hM.top.fr 1
    have f2 := hM.top.fr 2
    have f3 := hM.top.fr 3
    have HX := hid hx
    clear hM hx n
    go_wp2
    go_end0
    rw [HS.out]
    refine ⟨rfl, And.imp_right (fun h => hk.trans h) (take_rest A G b s c w1 HX.out HB.out _ ?_ ?_)⟩
    · iterate 2 refine Kg.set ?_ (But.not w1 b) _
      exact Kg.refl _ _
    · intro v0 v4 v5 v6 v7 v8 v9 v10 v11 v12 v13 v14 v15 v16 v17 hr
      rw [HA.out]
      exact (hr.put1 _).put3 _
set_option maxHeartbeats 2000000 in
theorem take_plain (A : Nat → Addr) (G : Nat → Prop) (b : Nat) (s : Rs) (c : UInt8) (w : World) (hE : Lea A G w) (h : RX A G w b s) (hs : s.sz < 262144) (hb : Bdd s) (hm : fnO s.md = 184) :
    Calls Tryz.prog 91 #[.pointer (some ⟨b, 0, none⟩), .int .u8 (c.toNat : Int)] w fun e w' => Stp A G w b (s.take c) e w' := by
  have q1 := hb.cs
  have q2 := hb.rw
  have q3 := hb.td
  have q4 := hb.l
  have q5 := hb.c
  have HN := next_any A G b s (some c) w hE h hb.cur (by omega) (by omega) (by omega)
  rw [hm] at HN
  have HS := hid (show s.take c = (s.next (some c)).gone c by unfold Rs.take; rw [if_neg (by omega)])
  have c0 : w.cell? ⟨b, 0, none⟩ = some (.func (.func 184) #[.pointer (some ⟨b, 0, none⟩)] #[]) := by rw [h.parts.2.2.2.2.2.2.2.1]; unfold nxV; rw [hm]
  obtain ⟨bp, bv, cv, tv, V, hM⟩ := h
  have c1 := hM.top.c1
  have e1 : ((s.sz : Int) == 262144) = false := by rw [beq_eq_false_iff_ne]; omega
  have HN' : Hid (Calls Tryz.prog 184 #[.pointer (some ⟨b, 0, none⟩), .int .i64 (c.toNat : Int)] w fun e w' => Stp A G w b (s.next (some c)) e w') := HN
  have HB := hid hb
  have r1 : s.sz ≤ 1000000 := by omega
  have r2 : s.hp.1 ≤ 1000000 := by omega
  have r3 : s.hp.2 ≤ 1000000 := by omega
  have hw64 : wrap64 (c.toNat : Int) = (c.toNat : Int) := by have := c.toNat_lt; unfold wrap64; omega
  clear hE hM hb HN hm q1 q2 q3 q4 q5 hs
  by_cases h10 : c.toNat = 10
  · have e10 : ((c.toNat : Int) == 10) = true := by rw [beq_iff_eq]; omega
    have HA := hid (show adv s.hp c.toNat = (s.hp.1 + 1, 0) by unfold adv; rw [if_pos h10])
    clear h10
    go_enter Tryz.func91, Tryz.ntmps91
    go_wp2_with fail
    refine Calls.mono HN'.out ?_
    rintro e w1 ⟨rfl, hx, hk⟩
    obtain ⟨bp, bv, cv, tv, V, hM⟩ := id hx
    have n := nxt_any s (some c) HB.out.cur
    have d1 := hM.top.c1
    have d2 := hM.top.c2
    have d3 := hM.top.c3
    rw [n.sz] at d1
    rw [n.hp] at d2 d3
    have f1 := hM.top.fr 1
    have f2 := hM.top.fr 2
    have f3 := hM.top.fr 3
    have HX := hid hx
    clear hM hx n
    go_wp2
    go_end0
    rw [HS.out]
    refine ⟨rfl, And.imp_right (fun h => hk.trans h) (take_rest A G b s c w1 HX.out HB.out _ ?_ ?_)⟩
    · iterate 4 refine Kg.set ?_ (But.not w1 b) _
      exact Kg.refl _ _
    · intro v0 v4 v5 v6 v7 v8 v9 v10 v11 v12 v13 v14 v15 v16 v17 hr
      rw [HA.out]
      exact (((hr.put1 _).put3 _).put2 _).put3 _
  · have e10 : ((c.toNat : Int) == 10) = false := by rw [beq_eq_false_iff_ne]; omega
    have HA := hid (show adv s.hp c.toNat = (s.hp.1, s.hp.2 + 1) by unfold adv; rw [if_neg h10])
    clear h10
    go_enter Tryz.func91, Tryz.ntmps91
    go_wp2_with fail
    refine Calls.mono HN'.out ?_
    rintro e w1 ⟨rfl, hx, hk⟩
    obtain ⟨bp, bv, cv, tv, V, hM⟩ := id hx
    have n := nxt_any s (some c) HB.out.cur
    have d1 := hM.top.c1
    have d2 := hM.top.c2
    have d3 := hM.top.c3
    rw [n.sz] at d1
    rw [n.hp] at d2 d3
    have f1 := hM.top.fr 1
    have f2 := hM.top.fr 2
    have f3 := hM.top.fr 3
    have HX := hid hx
    clear hM hx n
    go_wp2
    go_end0
    rw [HS.out]
    refine ⟨rfl, And.imp_right (fun h => hk.trans h) (take_rest A G b s c w1 HX.out HB.out _ ?_ ?_)⟩
    · iterate 2 refine Kg.set ?_ (But.not w1 b) _
      exact Kg.refl _ _
    · intro v0 v4 v5 v6 v7 v8 v9 v10 v11 v12 v13 v14 v15 v16 v17 hr
      rw [HA.out]
      exact (hr.put1 _).put3 _
set_option maxHeartbeats 2000000 in
theorem take_quoted (A : Nat → Addr) (G : Nat → Prop) (b : Nat) (s : Rs) (c : UInt8) (w : World) (hE : Lea A G w) (h : RX A G w b s) (hs : s.sz < 262144) (hb : Bdd s) (hm : fnO s.md = 183) :
    Calls Tryz.prog 91 #[.pointer (some ⟨b, 0, none⟩), .int .u8 (c.toNat : Int)] w fun e w' => Stp A G w b (s.take c) e w' := by
  have q1 := hb.cs
  have q2 := hb.rw
  have q3 := hb.td
  have q4 := hb.l
  have q5 := hb.c
  have HN := next_any A G b s (some c) w hE h hb.cur (by omega) (by omega) (by omega)
  rw [hm] at HN
  have HS := hid (show s.take c = (s.next (some c)).gone c by unfold Rs.take; rw [if_neg (by omega)])
  have c0 : w.cell? ⟨b, 0, none⟩ = some (.func (.func 183) #[.pointer (some ⟨b, 0, none⟩)] #[]) := by rw [h.parts.2.2.2.2.2.2.2.1]; unfold nxV; rw [hm]
  obtain ⟨bp, bv, cv, tv, V, hM⟩ := h
  have c1 := hM.top.c1
  have e1 : ((s.sz : Int) == 262144) = false := by rw [beq_eq_false_iff_ne]; omega
  have HN' : Hid (Calls Tryz.prog 183 #[.pointer (some ⟨b, 0, none⟩), .int .i64 (c.toNat : Int)] w fun e w' => Stp A G w b (s.next (some c)) e w') := HN
  have HB := hid hb
  have r1 : s.sz ≤ 1000000 := by omega
  have r2 : s.hp.1 ≤ 1000000 := by omega
  have r3 : s.hp.2 ≤ 1000000 := by omega
  have hw64 : wrap64 (c.toNat : Int) = (c.toNat : Int) := by have := c.toNat_lt; unfold wrap64; omega
  clear hE hM hb HN hm q1 q2 q3 q4 q5 hs
  by_cases h10 : c.toNat = 10
  · have e10 : ((c.toNat : Int) == 10) = true := by rw [beq_iff_eq]; omega
    have HA := hid (show adv s.hp c.toNat = (s.hp.1 + 1, 0) by unfold adv; rw [if_pos h10])
    clear h10
    go_enter Tryz.func91, Tryz.ntmps91
    go_wp2_with fail
    refine Calls.mono HN'.out ?_
    rintro e w1 ⟨rfl, hx, hk⟩
    obtain ⟨bp, bv, cv, tv, V, hM⟩ := id hx
    have n := nxt_any s (some c) HB.out.cur
    have d1 := hM.top.c1
    have d2 := hM.top.c2
    have d3 := hM.top.c3
    rw [n.sz] at d1
    rw [n.hp] at d2 d3
    have f1 := hM.top.fr 1
    have f2 := hM.top.fr 2
    have f3 := hM.top.fr 3
    have HX := hid hx
    clear hM hx n
    go_wp2
    go_end0
    rw [HS.out]
    refine ⟨rfl, And.imp_right (fun h => hk.trans h) (take_rest A G b s c w1 HX.out HB.out _ ?_ ?_)⟩
    · iterate 4 refine Kg.set ?_ (But.not w1 b) _
      exact Kg.refl _ _
    · intro v0 v4 v5 v6 v7 v8 v9 v10 v11 v12 v13 v14 v15 v16 v17 hr
      rw [HA.out]
      exact (((hr.put1 _).put3 _).put2 _).put3 _
  · have e10 : ((c.toNat : Int) == 10) = false := by rw [beq_eq_false_iff_ne]; omega
    have HA := hid (show adv s.hp c.toNat = (s.hp.1, s.hp.2 + 1) by unfold adv; rw [if_neg h10])
    clear h10
    go_enter Tryz.func91, Tryz.ntmps91
    go_wp2_with fail
    refine Calls.mono HN'.out ?_
    rintro e w1 ⟨rfl, hx, hk⟩
    obtain ⟨bp, bv, cv, tv, V, hM⟩ := id hx
    have n := nxt_any s (some c) HB.out.cur
    have d1 := hM.top.c1
    have d2 := hM.top.c2
    have d3 := hM.top.c3
    rw [n.sz] at d1
    rw [n.hp] at d2 d3
    have f1 := hM.top.fr 1
    have f2 := hM.top.fr 2
    have f3 := hM.top.fr 3
    have HX := hid hx
    clear hM hx n
    go_wp2
    go_end0
    rw [HS.out]
    refine ⟨rfl, And.imp_right (fun h => hk.trans h) (take_rest A G b s c w1 HX.out HB.out _ ?_ ?_)⟩
    · iterate 2 refine Kg.set ?_ (But.not w1 b) _
      exact Kg.refl _ _
    · intro v0 v4 v5 v6 v7 v8 v9 v10 v11 v12 v13 v14 v15 v16 v17 hr
      rw [HA.out]
      exact (hr.put1 _).put3 _
set_option maxHeartbeats 2000000 in
theorem take_behindQuote (A : Nat → Addr) (G : Nat → Prop) (b : Nat) (s : Rs) (c : UInt8) (w : World) (hE : Lea A G w) (h : RX A G w b s) (hs : s.sz < 262144) (hb : Bdd s) (hm : fnO s.md = 218) :
    Calls Tryz.prog 91 #[.pointer (some ⟨b, 0, none⟩), .int .u8 (c.toNat : Int)] w fun e w' => Stp A G w b (s.take c) e w' := by
  have q1 := hb.cs
  have q2 := hb.rw
  have q3 := hb.td
  have q4 := hb.l
  have q5 := hb.c
  have HN := next_any A G b s (some c) w hE h hb.cur (by omega) (by omega) (by omega)
  rw [hm] at HN
  have HS := hid (show s.take c = (s.next (some c)).gone c by unfold Rs.take; rw [if_neg (by omega)])
  have c0 : w.cell? ⟨b, 0, none⟩ = some (.func (.func 218) #[.pointer (some ⟨b, 0, none⟩)] #[]) := by rw [h.parts.2.2.2.2.2.2.2.1]; unfold nxV; rw [hm]
  obtain ⟨bp, bv, cv, tv, V, hM⟩ := h
  have c1 := hM.top.c1
  have e1 : ((s.sz : Int) == 262144) = false := by rw [beq_eq_false_iff_ne]; omega
  have HN' : Hid (Calls Tryz.prog 218 #[.pointer (some ⟨b, 0, none⟩), .int .i64 (c.toNat : Int)] w fun e w' => Stp A G w b (s.next (some c)) e w') := HN
  have HB := hid hb
  have r1 : s.sz ≤ 1000000 := by omega
  have r2 : s.hp.1 ≤ 1000000 := by omega
  have r3 : s.hp.2 ≤ 1000000 := by omega
  have hw64 : wrap64 (c.toNat : Int) = (c.toNat : Int) := by have := c.toNat_lt; unfold wrap64; omega
  clear hE hM hb HN hm q1 q2 q3 q4 q5 hs
  by_cases h10 : c.toNat = 10
  · have e10 : ((c.toNat : Int) == 10) = true := by rw [beq_iff_eq]; omega
    have HA := hid (show adv s.hp c.toNat = (s.hp.1 + 1, 0) by unfold adv; rw [if_pos h10])
    clear h10
    go_enter Tryz.func91, Tryz.ntmps91
    go_wp2_with fail
    refine Calls.mono HN'.out ?_
    rintro e w1 ⟨rfl, hx, hk⟩
    obtain ⟨bp, bv, cv, tv, V, hM⟩ := id hx
    have n := nxt_any s (some c) HB.out.cur
    have d1 := hM.top.c1
    have d2 := hM.top.c2
    have d3 := hM.top.c3
    rw [n.sz] at d1
    rw [n.hp] at d2 d3
    have f1 := hM.top.fr 1
    have f2 := hM.top.fr 2
    have f3 := hM.top.fr 3
    have HX := hid hx
    clear hM hx n
    go_wp2
    go_end0
    rw [HS.out]
    refine ⟨rfl, And.imp_right (fun h => hk.trans h) (take_rest A G b s c w1 HX.out HB.out _ ?_ ?_)⟩
    · iterate 4 refine Kg.set ?_ (But.not w1 b) _
      exact Kg.refl _ _
    · intro v0 v4 v5 v6 v7 v8 v9 v10 v11 v12 v13 v14 v15 v16 v17 hr
      rw [HA.out]
      exact (((hr.put1 _).put3 _).put2 _).put3 _
  · have e10 : ((c.toNat : Int) == 10) = false := by rw [beq_eq_false_iff_ne]; omega
    have HA := hid (show adv s.hp c.toNat = (s.hp.1, s.hp.2 + 1) by unfold adv; rw [if_neg h10])
    clear h10
    go_enter Tryz.func91, Tryz.ntmps91
    go_wp2_with fail
    refine Calls.mono HN'.out ?_
    rintro e w1 ⟨rfl, hx, hk⟩
    obtain ⟨bp, bv, cv, tv, V, hM⟩ := id hx
    have n := nxt_any s (some c) HB.out.cur
    have d1 := hM.top.c1
    have d2 := hM.top.c2
    have d3 := hM.top.c3
    rw [n.sz] at d1
    rw [n.hp] at d2 d3
    have f1 := hM.top.fr 1
    have f2 := hM.top.fr 2
    have f3 := hM.top.fr 3
    have HX := hid hx
    clear hM hx n
    go_wp2
    go_end0
    rw [HS.out]
    refine ⟨rfl, And.imp_right (fun h => hk.trans h) (take_rest A G b s c w1 HX.out HB.out _ ?_ ?_)⟩
    · iterate 2 refine Kg.set ?_ (But.not w1 b) _
      exact Kg.refl _ _
    · intro v0 v4 v5 v6 v7 v8 v9 v10 v11 v12 v13 v14 v15 v16 v17 hr
      rw [HA.out]
      exact (hr.put1 _).put3 _
set_option maxHeartbeats 2000000 in
theorem take_behindReturn (A : Nat → Addr) (G : Nat → Prop) (b : Nat) (s : Rs) (c : UInt8) (w : World) (hE : Lea A G w) (h : RX A G w b s) (hs : s.sz < 262144) (hb : Bdd s) (hm : fnO s.md = 260) :
    Calls Tryz.prog 91 #[.pointer (some ⟨b, 0, none⟩), .int .u8 (c.toNat : Int)] w fun e w' => Stp A G w b (s.take c) e w' := by
  have q1 := hb.cs
  have q2 := hb.rw
  have q3 := hb.td
  have q4 := hb.l
  have q5 := hb.c
  have HN := next_any A G b s (some c) w hE h hb.cur (by omega) (by omega) (by omega)
  rw [hm] at HN
  have HS := hid (show s.take c = (s.next (some c)).gone c by unfold Rs.take; rw [if_neg (by omega)])
  have c0 : w.cell? ⟨b, 0, none⟩ = some (.func (.func 260) #[.pointer (some ⟨b, 0, none⟩)] #[]) := by rw [h.parts.2.2.2.2.2.2.2.1]; unfold nxV; rw [hm]
  obtain ⟨bp, bv, cv, tv, V, hM⟩ := h
  have c1 := hM.top.c1
  have e1 : ((s.sz : Int) == 262144) = false := by rw [beq_eq_false_iff_ne]; omega
  have HN' : Hid (Calls Tryz.prog 260 #[.pointer (some ⟨b, 0, none⟩), .int .i64 (c.toNat : Int)] w fun e w' => Stp A G w b (s.next (some c)) e w') := HN
  have HB := hid hb
  have r1 : s.sz ≤ 1000000 := by omega
  have r2 : s.hp.1 ≤ 1000000 := by omega
  have r3 : s.hp.2 ≤ 1000000 := by omega
  have hw64 : wrap64 (c.toNat : Int) = (c.toNat : Int) := by have := c.toNat_lt; unfold wrap64; omega
  clear hE hM hb HN hm q1 q2 q3 q4 q5 hs
  by_cases h10 : c.toNat = 10
  · have e10 : ((c.toNat : Int) == 10) = true := by rw [beq_iff_eq]; omega
    have HA := hid (show adv s.hp c.toNat = (s.hp.1 + 1, 0) by unfold adv; rw [if_pos h10])
    clear h10
    go_enter Tryz.func91, Tryz.ntmps91
    go_wp2_with fail
    refine Calls.mono HN'.out ?_
    rintro e w1 ⟨rfl, hx, hk⟩
    obtain ⟨bp, bv, cv, tv, V, hM⟩ := id hx
    have n := nxt_any s (some c) HB.out.cur
    have d1 := hM.top.c1
    have d2 := hM.top.c2
    have d3 := hM.top.c3
    rw [n.sz] at d1
    rw [n.hp] at d2 d3
    have f1 := hM.top.fr 1
    have f2 := hM.top.fr 2
    have f3 := hM.top.fr 3
    have HX := hid hx
    clear hM hx n
    go_wp2
    go_end0
    rw [HS.out]
    refine ⟨rfl, And.imp_right (fun h => hk.trans h) (take_rest A G b s c w1 HX.out HB.out _ ?_ ?_)⟩
    · iterate 4 refine Kg.set ?_ (But.not w1 b) _
      exact Kg.refl _ _
    · intro v0 v4 v5 v6 v7 v8 v9 v10 v11 v12 v13 v14 v15 v16 v17 hr
      rw [HA.out]
      exact (((hr.put1 _).put3 _).put2 _).put3 _
  · have e10 : ((c.toNat : Int) == 10) = false := by rw [beq_eq_false_iff_ne]; omega
    have HA := hid (show adv s.hp c.toNat = (s.hp.1, s.hp.2 + 1) by unfold adv; rw [if_neg h10])
    clear h10
    go_enter Tryz.func91, Tryz.ntmps91
    go_wp2_with fail
    refine Calls.mono HN'.out ?_
    rintro e w1 ⟨rfl, hx, hk⟩
    obtain ⟨bp, bv, cv, tv, V, hM⟩ := id hx
    have n := nxt_any s (some c) HB.out.cur
    have d1 := hM.top.c1
    have d2 := hM.top.c2
    have d3 := hM.top.c3
    rw [n.sz] at d1
    rw [n.hp] at d2 d3
    have f1 := hM.top.fr 1
    have f2 := hM.top.fr 2
    have f3 := hM.top.fr 3
    have HX := hid hx
    clear hM hx n
    go_wp2
    go_end0
    rw [HS.out]
    refine ⟨rfl, And.imp_right (fun h => hk.trans h) (take_rest A G b s c w1 HX.out HB.out _ ?_ ?_)⟩
    · iterate 2 refine Kg.set ?_ (But.not w1 b) _
      exact Kg.refl _ _
    · intro v0 v4 v5 v6 v7 v8 v9 v10 v11 v12 v13 v14 v15 v16 v17 hr
      rw [HA.out]
      exact (hr.put1 _).put3 _
theorem take_any (A : Nat → Addr) (G : Nat → Prop) (b : Nat) (s : Rs) (c : UInt8) (w : World) (hE : Lea A G w) (h : RX A G w b s) (hs : s.sz ≤ 262144) (hb : Bdd s) :
    Calls Tryz.prog 91 #[.pointer (some ⟨b, 0, none⟩), .int .u8 (c.toNat : Int)] w fun e w' => Stp A G w b (s.take c) e w' := by
  by_cases hl : s.sz = 262144
  · exact take_long A G b s c w hE h hl
  have hs' : s.sz < 262144 := by omega
  by_cases h1 : s.md = 1
  · exact take_beginRow A G b s c w hE h hs' hb (by unfold fnO; simp [h1])
  by_cases h2 : s.md = 2
  · exact take_beginCell A G b s c w hE h hs' hb (by unfold fnO; simp [h2])
  by_cases h3 : s.md = 3
  · exact take_plain A G b s c w hE h hs' hb (by unfold fnO; simp [h3])
  by_cases h4 : s.md = 4
  · exact take_quoted A G b s c w hE h hs' hb (by unfold fnO; simp [h4])
  by_cases h5 : s.md = 5
  · exact take_behindQuote A G b s c w hE h hs' hb (by unfold fnO; simp [h5])
  exact take_behindReturn A G b s c w hE h hs' hb (by unfold fnO; simp [h1, h2, h3, h4, h5])
end Go.Proofs.YtmgfdnccmeahjaaGreatDoor

namespace Go.Proofs.YtmgfdnccmeahjaaGreatDoor
open Go.RowKit
set_option maxRecDepth 100000
set_option linter.unusedVariables false
set_option linter.unusedSimpArgs false

/-- rows that were told -/
structure TR (w : World) (tv : Value) (V : List Value) (T : List (List (List UInt8))) : Prop where
  own : w.ownsRow 0 32 1 tv V.length V
  rws : RwS w V T
/-- an error: none, or a Fault in a block -/
def FT (A : Nat → Addr) (w : World) (e : Value) (c : Nat) (p : Nat × Nat) : Prop :=
  (c = 0 ∧ e = .nilIface) ∨ (c ≠ 0 ∧ ∃ f, e = .iface 38 (.pointer (some ⟨f, 0, none⟩)) ∧ w.heap[f]? = some (.cells #[.int .i64 (p.1 : Int), .int .i64 (p.2 : Int), erV A c] 42 (0, 0)))
/-- the blocks of rows, beside others -/
def Gs (G : Nat → Prop) (tv : Value) (V : List Value) : Nat → Prop := fun k => G k ∨ tv.ownBlock = some k ∨ ∃ v ∈ V, v.ownBlock = some k

/-- what is told lies outside of G, its rows apart -/
def NvD (G : Nat → Prop) (tv : Value) (V : List Value) : Prop := (∀ g, tv.ownBlock = some g → ¬ G g) ∧ (∀ v ∈ V, ∀ g, v.ownBlock = some g → ¬ G g) ∧ Dj V
theorem RM.told {A : Nat → Addr} {G : Nat → Prop} {w : World} {b : Nat} {s : Rs} {bp bv cv tv : Value} {V : List Value} (h : RM A G w b s bp bv cv tv V) :
    RM A (Gs G tv V) (w.setCell ⟨b, 13, none⟩ (.slice none 0 0)) b { s with td := [] } bp bv cv (.slice none 0 0) [] ∧ Kg G w (w.setCell ⟨b, 13, none⟩ (.slice none 0 0)) ∧ TR (w.setCell ⟨b, 13, none⟩ (.slice none 0 0)) tv V s.td := by
  have hk : Kg (But w b) w (w.setCell ⟨b, 13, none⟩ (.slice none 0 0)) := (Kg.refl _ w).set (But.not w b) _
  obtain ⟨r1, r2, r3, r4⟩ := h.rows hk
  have nV : ∀ v ∈ V, ∀ g, v.ownBlock = some g → ∃ j, ∃ (hj : j < s.td.length) (hv : j < V.length), V[j] = v := by
    intro v hv g hg
    obtain ⟨j, hj, rfl⟩ := List.mem_iff_getElem.1 hv
    exact ⟨j, by rw [← h.rws.len]; exact hj, hj, rfl⟩
  refine ⟨?_, h.kg hk, ⟨r3, r4⟩⟩
  have lt : ∀ k, Gs G tv V k → k < w.heap.size := by
    rintro k (hk | hk | ⟨v, hv, hg⟩)
    · exact h.gs k hk
    · exact (World.ownsRow.lt h.tol k hk).2
    · obtain ⟨j, hj, hv', rfl⟩ := nV v hv k hg
      exact (World.ownsRow.lt (h.rws.row j hj hv') k hg).2
  exact { gs := fun k hG => Nat.lt_of_lt_of_le (lt k hG) hk.size,
          nb := by
            rintro (hk | hk | ⟨v, hv, hg⟩)
            · exact h.nb hk
            · exact own_ne h.tol h.top (by decide) hk
            · obtain ⟨j, hj, hv', rfl⟩ := nV v hv b hg
              exact own_ne (h.rws.row j hj hv') h.top (by decide) hg,
          nbv := by
            rintro g hb (hk | hk | ⟨v, hv, hg⟩)
            · exact h.nbv g hb hk
            · exact own_two h.buf h.tol (by decide) g hb hk
            · obtain ⟨j, hj, hv', rfl⟩ := nV v hv g hg
              exact own_two h.buf (h.rws.row j hj hv') (by decide) g hb hg,
          ncv := by
            rintro g hb (hk | hk | ⟨v, hv, hg⟩)
            · exact h.ncv g hb hk
            · exact own_two h.cel h.tol (by decide) g hb hk
            · exact h.ap v hv g hg hb,
          ntv := by simp [Value.ownBlock], top := h.top.put13 _, bpo := h.bpo, bz := h.bz, buf := r1, cel := r2, tol := World.ownsRow_nil _ _ _ _, rws := RwS.nil _, ap := by simp, vlt := by simp, dis := Dj.nil }
theorem RX.of {A : Nat → Addr} {G : Nat → Prop} {w : World} {b : Nat} {s : Rs} {bp bv cv tv : Value} {V : List Value} (h : RM A G w b s bp bv cv tv V) : RX A G w b s := ⟨bp, bv, cv, tv, V, h⟩
theorem TR.alloc {w : World} {tv : Value} {V : List Value} {T : List (List (List UInt8))} (h : TR w tv V T) (o : Obj) : TR (w.alloc o) tv V T := ⟨h.own.alloc _, h.rws.len, fun j hj hv => (h.rws.row j hj hv).alloc _⟩
theorem TR.kept {w w' : World} {tv : Value} {V : List Value} {T : List (List (List UInt8))} (h : TR w tv V T) {G : Nat → Prop} (hk : Kg (Gs G tv V) w w') : TR w' tv V T :=
  ⟨own_of h.own fun g hg => hk.block g (.inr (.inl hg)), h.rws.kept fun k hv => hk.block k (.inr (.inr hv))⟩

set_option maxHeartbeats 2000000 in
theorem tell_any (A : Nat → Addr) (G : Nat → Prop) (b : Nat) (s : Rs) (w : World) (h : RX A G w b s) :
    Calls Tryz.prog 92 #[.pointer (some ⟨b, 0, none⟩)] w fun e w' => ∃ tv V ev, e = .returned (.tuple #[tv, ev]) ∧ TR w' tv V s.td ∧ FT A w' ev s.er s.fp ∧ RX A (Gs G tv V) w' b { s with td := [] } ∧ Kg G w w' ∧ NvD G tv V := by
  obtain ⟨bp, bv, cv, tv, V, h⟩ := h
  obtain ⟨hm, hk, ht⟩ := h.told
  obtain ⟨to, tp, rfl⟩ := own_slice h.tol
  have hlt := h.top.lt
  have hne : b ≠ w.heap.size := by omega
  have c13 := h.top.c13
  have c14 := h.top.c14
  have c15 := h.top.c15
  have c16 := h.top.c16
  have f13 := h.top.fr 13
  have HM := hid hm
  have HK := hid hk
  have HT := hid ht
  have HG := hid h.gs
  have HNv := hid (show NvD G _ V from ⟨h.ntv, h.vlt, h.dis⟩)
  clear h hm hk ht
  by_cases he : s.er = 0
  · rw [he, erV_zero] at c16
    go_enter Tryz.func92, Tryz.ntmps92
    go_wp2
    go_ret2
    exact ⟨_, V, _, rfl, HT.out, .inl ⟨he, rfl⟩, RX.of HM.out, HK.out, HNv.out⟩
  · have he' := erV_pos A he
    rw [he'] at c16
    have HE := hid he
    have HE' := hid he'
    clear he he'
    go_enter Tryz.func92, Tryz.ntmps92
    go_wp2
    go_ret2
    refine ⟨.slice to V.length tp, V, .iface 38 (.pointer (some ⟨w.heap.size, 0, none⟩)), rfl, HT.out.alloc _, .inr ⟨HE.out, _, rfl, ?_⟩, RX.alloc (RX.of HM.out) _, HK.out.alloc HG.out _, HNv.out⟩
    rw [HE'.out]
    have hz : (w.setCell ⟨b, 13, none⟩ (.slice none 0 0)).heap.size = w.heap.size := by simp [World.setCell]
    have := heap_alloc_new (w.setCell ⟨b, 13, none⟩ (.slice none 0 0)) (.cells #[.int .i64 (s.fp.1 : Int), .int .i64 (s.fp.2 : Int), .iface 312 (.pointer (some (A s.er)))] 42)
    rw [hz] at this
    exact this

theorem equalIn_func_nil {P : Program} (w : World) (n : Nat) {t : TypeId} {ps rs : Array TypeId} {vd : Bool} (h : P.underlying t = some (.func ps rs vd)) (fn : Fn) (fi ca : Array Value) :
    (Op.equalIn (n + 1) t (.func fn fi ca) .nilFunc).run P w = .ok false w := by
  simp [Op.equalIn, run_underlying h]
theorem equalIn_nil_nil {P : Program} (w : World) (n : Nat) {t : TypeId} {ps rs : Array TypeId} {vd : Bool} (h : P.underlying t = some (.func ps rs vd)) :
    (Op.equalIn (n + 1) t .nilFunc .nilFunc).run P w = .ok true w := by
  simp [Op.equalIn, run_underlying h]
theorem nx_nil (fn : Fn) (fi ca : Array Value) (w : World) : (binOp .eql 173 (.func fn fi ca) .nilFunc).run Tryz.prog w = .ok (.bool false) w := by
  simp only [binOp]
  simp [Op.equal, Op.maxDepth, equalIn_func_nil w 9999 Tryz.underlying173 fn fi ca]
theorem nil_nil (w : World) : (binOp .eql 173 .nilFunc .nilFunc).run Tryz.prog w = .ok (.bool true) w := by
  simp only [binOp]
  simp [Op.equal, Op.maxDepth, equalIn_nil_nil w 9999 Tryz.underlying173]
/-- a Reader to which nothing has come -/
abbrev RZ (w : World) (b : Nat) : Prop := RB w b .nilFunc 0 (0, 0) (0, 0) (0, 0) 0 0 (.pointer none) (.slice none 0 0) (.slice none 0 0) (.slice none 0 0) (0, 0) .nilIface false
set_option maxHeartbeats 1000000 in
theorem begin_new (A : Nat → Addr) (G : Nat → Prop) (b : Nat) (w : World) (h : RZ w b) (hG : ∀ k, G k → k < w.heap.size) (hb : ¬ G b) :
    Calls Tryz.prog 90 #[.pointer (some ⟨b, 0, none⟩)] w fun e w' => Stp A G w b s0 e w' := by
  have c0 := h.c0
  have c2 := h.c2
  have f0 := h.fr 0
  have f2 := h.fr 2
  have H := hid h
  have hnn := nil_nil
  clear h
  go_enter Tryz.func90, Tryz.ntmps90
  go_wp2
  go_end0
  refine ⟨rfl, ⟨.pointer none, .slice none 0 0, .slice none 0 0, .slice none 0 0, [], ?_⟩, ((Kg.refl G w).set hb _).set hb _⟩
  exact { gs := fun k hk => by simpa [World.setCell] using hG k hk, nb := hb, nbv := by simp [Value.ownBlock], ncv := by simp [Value.ownBlock], ntv := by simp [Value.ownBlock], top := (H.out.put0 _).put2 _, bpo := .inl rfl, bz := fun _ => rfl, buf := World.ownsRow_nil _ _ _ _, cel := World.ownsRow_nil _ _ _ _, tol := World.ownsRow_nil _ _ _ _, rws := RwS.nil _, ap := by simp, vlt := by simp, dis := Dj.nil }
set_option maxHeartbeats 1000000 in
theorem begin_old (A : Nat → Addr) (G : Nat → Prop) (b : Nat) (s : Rs) (w : World) (h : RX A G w b s) :
    Calls Tryz.prog 90 #[.pointer (some ⟨b, 0, none⟩)] w fun e w' => e = .returned (.tuple #[]) ∧ w' = w := by
  have c0 : w.cell? ⟨b, 0, none⟩ = some (.func (.func (fnO s.md)) #[.pointer (some ⟨b, 0, none⟩)] #[]) := h.parts.2.2.2.2.2.2.2.1
  have hnn := nx_nil
  clear h
  go_enter Tryz.func90, Tryz.ntmps90
  go_wp2
  go_end0
  exact ⟨rfl, rfl⟩
end Go.Proofs.YtmgfdnccmeahjaaGreatDoor
