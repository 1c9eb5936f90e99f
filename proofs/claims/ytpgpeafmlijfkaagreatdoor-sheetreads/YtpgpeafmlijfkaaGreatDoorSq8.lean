/-
  Sheets: the Reader's states, one step each: plain, quoted, behind a quote, behind a return, the beginnings. Laid by mksq8.py.
-/
import Derived.Test.YtpgpeafmlijfkaaGreatDoorSq7
namespace Go.Proofs.YtpgpeafmlijfkaaGreatDoor
open Go.RowKit
set_option maxRecDepth 100000
set_option linter.unusedVariables false
set_option linter.unusedSimpArgs false

/-- what is laid of a state -/
theorem RX.parts {A : Nat → Addr} {G : Nat → Prop} {w : World} {b : Nat} {s : Rs} (h : RX A G w b s) : w.cell? ⟨b, 2, none⟩ = some (.int .i64 (s.hp.1 : Int)) ∧ w.cell? ⟨b, 3, none⟩ = some (.int .i64 (s.hp.2 : Int)) ∧ w.cell? ⟨b, 4, none⟩ = some (.int .i64 (s.op.1 : Int)) ∧ w.cell? ⟨b, 5, none⟩ = some (.int .i64 (s.op.2 : Int)) ∧ w.cell? ⟨b, 6, none⟩ = some (.int .i64 (s.ep.1 : Int)) ∧ w.cell? ⟨b, 7, none⟩ = some (.int .i64 (s.ep.2 : Int)) ∧ w.cell? ⟨b, 8, none⟩ = some (.int .i64 (s.rw : Int)) ∧ w.cell? ⟨b, 0, none⟩ = some (nxV b s.md) ∧ ∀ j, w.frozen? ⟨b, j, none⟩ = false := by
  obtain ⟨bp, bv, cv, tv, V, h⟩ := h
  exact ⟨h.top.c2, h.top.c3, h.top.c4, h.top.c5, h.top.c6, h.top.c7, h.top.c8, h.top.c0, fun j => h.top.fr j⟩
/-- the next state's function laid down -/
theorem RX.next {A : Nat → Addr} {G : Nat → Prop} {w : World} {b : Nat} {s : Rs} (h : RX A G w b s) (m : Nat) : RX A G (w.setCell ⟨b, 0, none⟩ (nxV b m)) b { s with md := m } ∧ Kg G w (w.setCell ⟨b, 0, none⟩ (nxV b m)) := by
  obtain ⟨bp, bv, cv, tv, V, h⟩ := h
  exact RM.re (s' := { s with md := m }) h ((Kg.refl (But w b) w).set (But.not w b) _) (h.top.put0 _) rfl rfl rfl

set_option maxHeartbeats 2000000 in
theorem plain_end (A : Nat → Addr) (G : Nat → Prop) (b : Nat) (s : Rs) (w : World) (hE : Lea A G w) (h : RX A G w b s) (hcu : s.cur.length ≤ 4096) (hcl : s.cs.length ≤ 900000) (hrw : s.rw ≤ 1000000) (htd : s.td.length ≤ 1000000) :
    Calls Tryz.prog 78 #[.pointer (some ⟨b, 0, none⟩), .int .i64 (-1)] w fun e w' => Stp A G w b (s.plain none) e w' := by
  have HN := hid (endCell_end A G b s w hE h hcl hrw htd)
  clear h hE
  go_enter Tryz.func78, Tryz.ntmps78
  go_wp2_with fail
  refine Calls.mono HN.out ?_
  rintro e w' ⟨rfl, hx, hk⟩
  go_wp2
  go_end0
  exact ⟨rfl, hx, hk⟩
set_option maxHeartbeats 2000000 in
theorem plain_some (A : Nat → Addr) (G : Nat → Prop) (b : Nat) (s : Rs) (c : UInt8) (w : World) (hE : Lea A G w) (h : RX A G w b s) (hcu : s.cur.length ≤ 4096) (hcl : s.cs.length ≤ 900000) (hrw : s.rw ≤ 1000000) (htd : s.td.length ≤ 1000000) :
    Calls Tryz.prog 78 #[.pointer (some ⟨b, 0, none⟩), .int .i64 (c.toNat : Int)] w fun e w' => Stp A G w b (s.plain (some c)) e w' := by
  by_cases h44 : c.toNat = 44
  · have HN := hid (endCell_comma A G b s c w hE h hcl hrw htd h44)
    have HS := hid (show s.plain (some c) = s.endCell (some c) by unfold Rs.plain; simp [h44])
    have e44 : ((c.toNat : Int) == 44) = true := by rw [beq_iff_eq]; omega
    clear h hE h44
    go_enter Tryz.func78, Tryz.ntmps78
    go_wp2_with fail
    refine Calls.mono HN.out ?_
    rintro e w' ⟨rfl, hx, hk⟩
    go_wp2
    go_end0
    exact ⟨rfl, by rw [HS.out]; exact hx, hk⟩
  by_cases h13 : c.toNat = 13
  · have HN := hid (endCell_cr A G b s c w hE h hcl hrw htd h13)
    have HS := hid (show s.plain (some c) = s.endCell (some c) by unfold Rs.plain; simp [h13])
    have e44 : ((c.toNat : Int) == 44) = false := by rw [beq_eq_false_iff_ne]; omega
    have e13 : ((c.toNat : Int) == 13) = true := by rw [beq_iff_eq]; omega
    clear h hE h44 h13
    go_enter Tryz.func78, Tryz.ntmps78
    go_wp2_with fail
    refine Calls.mono HN.out ?_
    rintro e w' ⟨rfl, hx, hk⟩
    go_wp2
    go_end0
    exact ⟨rfl, by rw [HS.out]; exact hx, hk⟩
  have em : ((c.toNat : Int) == -1) = false := by rw [beq_eq_false_iff_ne]; omega
  by_cases h10 : c.toNat = 10
  · skip
    have HF := hid (fail_any A G b s 3 (by decide) s.hp w.drew (RX.drew h))
    have g3 := hE.er.e3
    have HS := hid (show s.plain (some c) = s.fail 3 s.hp by unfold Rs.plain; simp [h10])
    have c2 := h.parts.1
    have c3 := h.parts.2.1
    have e44 : ((c.toNat : Int) == 44) = false := by rw [beq_eq_false_iff_ne]; omega
    have e13 : ((c.toNat : Int) == 13) = false := by rw [beq_eq_false_iff_ne]; omega
    have e10 : ((c.toNat : Int) == 10) = true := by rw [beq_iff_eq]; omega
    clear h hE
    go_enter Tryz.func78, Tryz.ntmps78
    go_wp2_with fail
    go_region_with (go_at_call 59; refine Calls.mono HF.out ?_; rintro e w' ⟨rfl, hx, hk⟩)
    all_goals (go_wp2; go_end0; exact ⟨rfl, by rw [HS.out]; exact hx, hk.of_drew⟩)
  by_cases h34 : c.toNat = 34
  · skip
    have HF := hid (fail_any A G b s 2 (by decide) s.hp w.drew (RX.drew h))
    have g2 := hE.er.e2
    have HS := hid (show s.plain (some c) = s.fail 2 s.hp by unfold Rs.plain; simp [h34])
    have c2 := h.parts.1
    have c3 := h.parts.2.1
    have e44 : ((c.toNat : Int) == 44) = false := by rw [beq_eq_false_iff_ne]; omega
    have e13 : ((c.toNat : Int) == 13) = false := by rw [beq_eq_false_iff_ne]; omega
    have e10 : ((c.toNat : Int) == 10) = false := by rw [beq_eq_false_iff_ne]; omega
    have e34 : ((c.toNat : Int) == 34) = true := by rw [beq_iff_eq]; omega
    clear h hE
    go_enter Tryz.func78, Tryz.ntmps78
    go_wp2_with fail
    go_region_with (go_at_call 59; refine Calls.mono HF.out ?_; rintro e w' ⟨rfl, hx, hk⟩)
    all_goals (go_wp2; go_end0; exact ⟨rfl, by rw [HS.out]; exact hx, hk.of_drew⟩)
  by_cases h9 : c.toNat = 9
  · skip
    have HF := hid (fail_any A G b s 4 (by decide) s.hp w.drew (RX.drew h))
    have g4 := hE.er.e4
    have HS := hid (show s.plain (some c) = s.fail 4 s.hp by unfold Rs.plain; simp [h9])
    have c2 := h.parts.1
    have c3 := h.parts.2.1
    have e44 : ((c.toNat : Int) == 44) = false := by rw [beq_eq_false_iff_ne]; omega
    have e13 : ((c.toNat : Int) == 13) = false := by rw [beq_eq_false_iff_ne]; omega
    have e10 : ((c.toNat : Int) == 10) = false := by rw [beq_eq_false_iff_ne]; omega
    have e34 : ((c.toNat : Int) == 34) = false := by rw [beq_eq_false_iff_ne]; omega
    have e9 : ((c.toNat : Int) == 9) = true := by rw [beq_iff_eq]; omega
    clear h hE
    go_enter Tryz.func78, Tryz.ntmps78
    go_wp2_with fail
    go_region_with (go_at_call 59; refine Calls.mono HF.out ?_; rintro e w' ⟨rfl, hx, hk⟩)
    all_goals (go_wp2; go_end0; exact ⟨rfl, by rw [HS.out]; exact hx, hk.of_drew⟩)
  by_cases hm : mayB c.toNat = false
  · skip
    have HF := hid (fail_any A G b s 4 (by decide) s.hp w.drew (RX.drew h))
    have g4 := hE.er.e4
    have HS := hid (show s.plain (some c) = s.fail 4 s.hp by unfold Rs.plain; simp [h44, h13, h10, h34, hm])
    have c2 := h.parts.1
    have c3 := h.parts.2.1
    have e44 : ((c.toNat : Int) == 44) = false := by rw [beq_eq_false_iff_ne]; omega
    have e13 : ((c.toNat : Int) == 13) = false := by rw [beq_eq_false_iff_ne]; omega
    have e10 : ((c.toNat : Int) == 10) = false := by rw [beq_eq_false_iff_ne]; omega
    have e34 : ((c.toNat : Int) == 34) = false := by rw [beq_eq_false_iff_ne]; omega
    have e9 : ((c.toNat : Int) == 9) = false := by rw [beq_eq_false_iff_ne]; omega
    clear h hE
    have HMy := hid (show ∀ w, Calls Tryz.prog 86 #[.int .u8 (c.toNat : Int)] w fun e w' => e = .returned (.bool false) ∧ w' = w from fun w => by have := mayStand_any c w; rw [hm] at this; exact this)
    have hc8 : ((c.toNat : Int)) < 256 := by have := c.toNat_lt; omega
    go_enter Tryz.func78, Tryz.ntmps78
    go_wp2_with (go_at_call 86; refine (HMy.out _).mono ?_; rintro e w' ⟨rfl, hw⟩; replace hw := hw.symm; subst hw)
    go_region_with (go_at_call 59; refine Calls.mono HF.out ?_; rintro e w' ⟨rfl, hx, hk⟩)
    all_goals (go_wp2; go_end0; exact ⟨rfl, by rw [HS.out]; exact hx, hk.of_drew⟩)
  · rw [Bool.not_eq_false] at hm
    have HN := hid (add_any A G b s c w hcu hE h)
    have HS := hid (show s.plain (some c) = s.add c by unfold Rs.plain; simp [h44, h13, h10, h34, h9, hm])
    have e44 : ((c.toNat : Int) == 44) = false := by rw [beq_eq_false_iff_ne]; omega
    have e13 : ((c.toNat : Int) == 13) = false := by rw [beq_eq_false_iff_ne]; omega
    have e10 : ((c.toNat : Int) == 10) = false := by rw [beq_eq_false_iff_ne]; omega
    have e34 : ((c.toNat : Int) == 34) = false := by rw [beq_eq_false_iff_ne]; omega
    have e9 : ((c.toNat : Int) == 9) = false := by rw [beq_eq_false_iff_ne]; omega
    have HMy := hid (show ∀ w, Calls Tryz.prog 86 #[.int .u8 (c.toNat : Int)] w fun e w' => e = .returned (.bool true) ∧ w' = w from fun w => by have := mayStand_any c w; rw [hm] at this; exact this)
    have hc8 : ((c.toNat : Int)) < 256 := by have := c.toNat_lt; omega
    clear h hE
    go_enter Tryz.func78, Tryz.ntmps78
    go_wp2_with (first | (go_at_call 86; refine (HMy.out _).mono ?_; rintro e w' ⟨rfl, hw⟩; replace hw := hw.symm; subst hw) | (go_at_call 87; refine Calls.mono HN.out ?_; rintro e w' ⟨rfl, hx, hk⟩))
    go_end0
    exact ⟨rfl, by rw [HS.out]; exact hx, hk⟩
set_option maxHeartbeats 2000000 in
theorem quoted_end (A : Nat → Addr) (G : Nat → Prop) (b : Nat) (s : Rs) (w : World) (hE : Lea A G w) (h : RX A G w b s) (hcu : s.cur.length ≤ 4096) (hcl : s.cs.length ≤ 900000) (hrw : s.rw ≤ 1000000) (htd : s.td.length ≤ 1000000) :
    Calls Tryz.prog 77 #[.pointer (some ⟨b, 0, none⟩), .int .i64 (-1)] w fun e w' => Stp A G w b (s.quoted none) e w' := by
  have HF := hid (fail_any A G b s 1 (by decide) s.op w.drew (RX.drew h))
  have g1 := hE.er.e1
  have HS := hid (show s.quoted none = s.fail 1 s.op by rfl)
  have c4 := h.parts.2.2.1
  have c5 := h.parts.2.2.2.1
  clear h hE
  go_enter Tryz.func77, Tryz.ntmps77
  go_wp2_with fail
  go_region_with (go_at_call 59; refine Calls.mono HF.out ?_; rintro e w' ⟨rfl, hx, hk⟩)
  all_goals (go_wp2; go_end0; exact ⟨rfl, by rw [HS.out]; exact hx, hk.of_drew⟩)
set_option maxHeartbeats 2000000 in
theorem quoted_some (A : Nat → Addr) (G : Nat → Prop) (b : Nat) (s : Rs) (c : UInt8) (w : World) (hE : Lea A G w) (h : RX A G w b s) (hcu : s.cur.length ≤ 4096) (hcl : s.cs.length ≤ 900000) (hrw : s.rw ≤ 1000000) (htd : s.td.length ≤ 1000000) :
    Calls Tryz.prog 77 #[.pointer (some ⟨b, 0, none⟩), .int .i64 (c.toNat : Int)] w fun e w' => Stp A G w b (s.quoted (some c)) e w' := by
  have em : ((c.toNat : Int) == -1) = false := by rw [beq_eq_false_iff_ne]; omega
  by_cases h34 : c.toNat = 34
  · have hn := h.next 5
    have c0 := h.parts.2.2.2.2.2.2.2.1
    have f0 := h.parts.2.2.2.2.2.2.2.2 0
    have HS := hid (show s.quoted (some c) = { s with md := 5 } by unfold Rs.quoted; simp [h34])
    have e34 : ((c.toNat : Int) == 34) = true := by rw [beq_iff_eq]; omega
    rw [nx5] at hn
    have HN := hid hn
    clear h hE hn
    go_enter Tryz.func77, Tryz.ntmps77
    go_wp2
    go_end0
    exact ⟨rfl, by rw [HS.out]; exact HN.out.1, HN.out.2⟩
  by_cases hm : mayB c.toNat = false
  · skip
    have HF := hid (fail_any A G b s 4 (by decide) s.hp w.drew (RX.drew h))
    have g4 := hE.er.e4
    have HS := hid (show s.quoted (some c) = s.fail 4 s.hp by unfold Rs.quoted; simp [h34, hm])
    have c2 := h.parts.1
    have c3 := h.parts.2.1
    have e34 : ((c.toNat : Int) == 34) = false := by rw [beq_eq_false_iff_ne]; omega
    clear h hE
    have HMy := hid (show ∀ w, Calls Tryz.prog 86 #[.int .u8 (c.toNat : Int)] w fun e w' => e = .returned (.bool false) ∧ w' = w from fun w => by have := mayStand_any c w; rw [hm] at this; exact this)
    have hc8 : ((c.toNat : Int)) < 256 := by have := c.toNat_lt; omega
    go_enter Tryz.func77, Tryz.ntmps77
    go_wp2_with (go_at_call 86; refine (HMy.out _).mono ?_; rintro e w' ⟨rfl, hw⟩; replace hw := hw.symm; subst hw)
    go_region_with (go_at_call 59; refine Calls.mono HF.out ?_; rintro e w' ⟨rfl, hx, hk⟩)
    all_goals (go_wp2; go_end0; exact ⟨rfl, by rw [HS.out]; exact hx, hk.of_drew⟩)
  · rw [Bool.not_eq_false] at hm
    have HN := hid (add_any A G b s c w hcu hE h)
    have HS := hid (show s.quoted (some c) = s.add c by unfold Rs.quoted; simp [h34, hm])
    have e34 : ((c.toNat : Int) == 34) = false := by rw [beq_eq_false_iff_ne]; omega
    have HMy := hid (show ∀ w, Calls Tryz.prog 86 #[.int .u8 (c.toNat : Int)] w fun e w' => e = .returned (.bool true) ∧ w' = w from fun w => by have := mayStand_any c w; rw [hm] at this; exact this)
    have hc8 : ((c.toNat : Int)) < 256 := by have := c.toNat_lt; omega
    clear h hE
    go_enter Tryz.func77, Tryz.ntmps77
    go_wp2_with (first | (go_at_call 86; refine (HMy.out _).mono ?_; rintro e w' ⟨rfl, hw⟩; replace hw := hw.symm; subst hw) | (go_at_call 87; refine Calls.mono HN.out ?_; rintro e w' ⟨rfl, hx, hk⟩))
    go_end0
    exact ⟨rfl, by rw [HS.out]; exact hx, hk⟩
end Go.Proofs.YtpgpeafmlijfkaaGreatDoor
