/-
  Sheets: the Reader's states, one step each: behind a quote, behind a return, the beginnings. Laid by mksq9.py.
-/
import Derived.Test.YtpgpeafmlijfkaaGreatDoorSq8
namespace Go.Proofs.YtpgpeafmlijfkaaGreatDoor
open Go.RowKit
set_option maxRecDepth 100000
set_option linter.unusedVariables false
set_option linter.unusedSimpArgs false

set_option maxHeartbeats 2000000 in
theorem behindQuote_end (A : Nat → Addr) (G : Nat → Prop) (b : Nat) (s : Rs) (w : World) (hE : Lea A G w) (h : RX A G w b s) (hcu : s.cur.length ≤ 4096) (hcl : s.cs.length ≤ 900000) (hrw : s.rw ≤ 1000000) (htd : s.td.length ≤ 1000000) :
    Calls Tryz.prog 85 #[.pointer (some ⟨b, 0, none⟩), .int .i64 (-1)] w fun e w' => Stp A G w b (s.behindQuote none) e w' := by
  have HN := hid (endCell_end A G b s w hE h hcl hrw htd)
  clear h hE
  go_enter Tryz.func85, Tryz.ntmps85
  go_wp2_with fail
  refine Calls.mono HN.out ?_
  rintro e w' ⟨rfl, hx, hk⟩
  go_wp2
  go_end0
  exact ⟨rfl, hx, hk⟩
set_option maxHeartbeats 2000000 in
theorem behindQuote_some (A : Nat → Addr) (G : Nat → Prop) (b : Nat) (s : Rs) (c : UInt8) (w : World) (hE : Lea A G w) (h : RX A G w b s) (hcu : s.cur.length ≤ 4096) (hcl : s.cs.length ≤ 900000) (hrw : s.rw ≤ 1000000) (htd : s.td.length ≤ 1000000) :
    Calls Tryz.prog 85 #[.pointer (some ⟨b, 0, none⟩), .int .i64 (c.toNat : Int)] w fun e w' => Stp A G w b (s.behindQuote (some c)) e w' := by
  have em : ((c.toNat : Int) == -1) = false := by rw [beq_eq_false_iff_ne]; omega
  by_cases h34 : c.toNat = 34
  · have hn := h.next 4
    have c0 := h.parts.2.2.2.2.2.2.2.1
    have f0 := h.parts.2.2.2.2.2.2.2.2 0
    have HN := hid (add_any A G b { s with md := 4 } c _ hcu (hE.kept hn.2) hn.1)
    have HS := hid (show s.behindQuote (some c) = Rs.add { s with md := 4 } c by unfold Rs.behindQuote; simp [h34])
    have e34 : ((c.toNat : Int) == 34) = true := by rw [beq_iff_eq]; omega
    rw [nx4] at hn HN
    have HK := hid hn.2
    clear h hE hn h34
    go_enter Tryz.func85, Tryz.ntmps85
    go_wp2_with fail
    refine Calls.mono HN.out ?_
    rintro e w' ⟨rfl, hx, hk⟩
    go_wp2
    go_end0
    exact ⟨rfl, by rw [HS.out]; exact hx, HK.out.trans hk⟩
  by_cases h44 : c.toNat = 44
  · have HN := hid (endCell_comma A G b s c w hE h hcl hrw htd h44)
    have HS := hid (show s.behindQuote (some c) = s.endCell (some c) by unfold Rs.behindQuote; simp [h44])
    have e34 : ((c.toNat : Int) == 34) = false := by rw [beq_eq_false_iff_ne]; omega
    have e44 : ((c.toNat : Int) == 44) = true := by rw [beq_iff_eq]; omega
    clear h hE h34 h44
    go_enter Tryz.func85, Tryz.ntmps85
    go_wp2_with fail
    refine Calls.mono HN.out ?_
    rintro e w' ⟨rfl, hx, hk⟩
    go_wp2
    go_end0
    exact ⟨rfl, by rw [HS.out]; exact hx, hk⟩
  by_cases h13 : c.toNat = 13
  · have HN := hid (endCell_cr A G b s c w hE h hcl hrw htd h13)
    have HS := hid (show s.behindQuote (some c) = s.endCell (some c) by unfold Rs.behindQuote; simp [h13])
    have e34 : ((c.toNat : Int) == 34) = false := by rw [beq_eq_false_iff_ne]; omega
    have e44 : ((c.toNat : Int) == 44) = false := by rw [beq_eq_false_iff_ne]; omega
    have e13 : ((c.toNat : Int) == 13) = true := by rw [beq_iff_eq]; omega
    clear h hE h34 h44 h13
    go_enter Tryz.func85, Tryz.ntmps85
    go_wp2_with fail
    refine Calls.mono HN.out ?_
    rintro e w' ⟨rfl, hx, hk⟩
    go_wp2
    go_end0
    exact ⟨rfl, by rw [HS.out]; exact hx, hk⟩
  by_cases h10 : c.toNat = 10
  · skip
    have HF := hid (fail_any A G b s 3 (by decide) s.hp w.drew (RX.drew h))
    have g3 := hE.er.e3
    have HS := hid (show s.behindQuote (some c) = s.fail 3 s.hp by unfold Rs.behindQuote; simp [h10])
    have c2 := h.parts.1
    have c3 := h.parts.2.1
    have e34 : ((c.toNat : Int) == 34) = false := by rw [beq_eq_false_iff_ne]; omega
    have e44 : ((c.toNat : Int) == 44) = false := by rw [beq_eq_false_iff_ne]; omega
    have e13 : ((c.toNat : Int) == 13) = false := by rw [beq_eq_false_iff_ne]; omega
    have e10 : ((c.toNat : Int) == 10) = true := by rw [beq_iff_eq]; omega
    clear h hE
    go_enter Tryz.func85, Tryz.ntmps85
    go_wp2_with fail
    go_region_with (go_at_call 59; refine Calls.mono HF.out ?_; rintro e w' ⟨rfl, hx, hk⟩)
    all_goals (go_wp2; go_end0; exact ⟨rfl, by rw [HS.out]; exact hx, hk.of_drew⟩)
  · skip
    have HF := hid (fail_any A G b s 2 (by decide) s.hp w.drew (RX.drew h))
    have g2 := hE.er.e2
    have HS := hid (show s.behindQuote (some c) = s.fail 2 s.hp by unfold Rs.behindQuote; simp [h34, h44, h13, h10])
    have c2 := h.parts.1
    have c3 := h.parts.2.1
    have e34 : ((c.toNat : Int) == 34) = false := by rw [beq_eq_false_iff_ne]; omega
    have e44 : ((c.toNat : Int) == 44) = false := by rw [beq_eq_false_iff_ne]; omega
    have e13 : ((c.toNat : Int) == 13) = false := by rw [beq_eq_false_iff_ne]; omega
    have e10 : ((c.toNat : Int) == 10) = false := by rw [beq_eq_false_iff_ne]; omega
    clear h hE
    go_enter Tryz.func85, Tryz.ntmps85
    go_wp2_with fail
    go_region_with (go_at_call 59; refine Calls.mono HF.out ?_; rintro e w' ⟨rfl, hx, hk⟩)
    all_goals (go_wp2; go_end0; exact ⟨rfl, by rw [HS.out]; exact hx, hk.of_drew⟩)
set_option maxHeartbeats 2000000 in
theorem behindReturn_end (A : Nat → Addr) (G : Nat → Prop) (b : Nat) (s : Rs) (w : World) (hE : Lea A G w) (h : RX A G w b s) (hcu : s.cur.length ≤ 4096) (hcl : s.cs.length ≤ 900000) (hrw : s.rw ≤ 1000000) (htd : s.td.length ≤ 1000000) :
    Calls Tryz.prog 100 #[.pointer (some ⟨b, 0, none⟩), .int .i64 (-1)] w fun e w' => Stp A G w b (s.behindReturn none) e w' := by
  have HF := hid (fail_any A G b s 3 (by decide) s.ep w.drew (RX.drew h))
  have g3 := hE.er.e3
  have HS := hid (show s.behindReturn none = s.fail 3 s.ep by rfl)
  have c6 := h.parts.2.2.2.2.1
  have c7 := h.parts.2.2.2.2.2.1
  clear h hE
  go_enter Tryz.func100, Tryz.ntmps100
  go_wp2_with fail
  go_region_with (go_at_call 59; refine Calls.mono HF.out ?_; rintro e w' ⟨rfl, hx, hk⟩)
  all_goals (go_wp2; go_end0; exact ⟨rfl, by rw [HS.out]; exact hx, hk.of_drew⟩)
set_option maxHeartbeats 2000000 in
theorem behindReturn_some (A : Nat → Addr) (G : Nat → Prop) (b : Nat) (s : Rs) (c : UInt8) (w : World) (hE : Lea A G w) (h : RX A G w b s) (hcu : s.cur.length ≤ 4096) (hcl : s.cs.length ≤ 900000) (hrw : s.rw ≤ 1000000) (htd : s.td.length ≤ 1000000) :
    Calls Tryz.prog 100 #[.pointer (some ⟨b, 0, none⟩), .int .i64 (c.toNat : Int)] w fun e w' => Stp A G w b (s.behindReturn (some c)) e w' := by
  by_cases h10 : c.toNat = 10
  · have HN := hid (endRow_any A G b s s.ep w hE h hrw htd)
    have c6 := h.parts.2.2.2.2.1
    have c7 := h.parts.2.2.2.2.2.1
    have HS := hid (show s.behindReturn (some c) = s.endRow s.ep by unfold Rs.behindReturn; simp [h10])
    have n10 : ((c.toNat : Int) != 10) = false := by simp; omega
    have e10 : ((c.toNat : Int) == 10) = true := by rw [beq_iff_eq]; omega
    clear h hE h10
    go_enter Tryz.func100, Tryz.ntmps100
    go_wp2_with fail
    refine Calls.mono HN.out ?_
    rintro e w' ⟨rfl, hx, hk⟩
    go_wp2
    go_end0
    exact ⟨rfl, by rw [HS.out]; exact hx, hk⟩
  · have n10 : ((c.toNat : Int) != 10) = true := by simp; omega
    have HF := hid (fail_any A G b s 3 (by decide) s.ep w.drew (RX.drew h))
    have g3 := hE.er.e3
    have HS := hid (show s.behindReturn (some c) = s.fail 3 s.ep by unfold Rs.behindReturn; simp [h10])
    have c6 := h.parts.2.2.2.2.1
    have c7 := h.parts.2.2.2.2.2.1
    have e10 : ((c.toNat : Int) == 10) = false := by rw [beq_eq_false_iff_ne]; omega
    clear h hE
    go_enter Tryz.func100, Tryz.ntmps100
    go_wp2_with fail
    go_region_with (go_at_call 59; refine Calls.mono HF.out ?_; rintro e w' ⟨rfl, hx, hk⟩)
    all_goals (go_wp2; go_end0; exact ⟨rfl, by rw [HS.out]; exact hx, hk.of_drew⟩)
set_option maxHeartbeats 2000000 in
theorem beginCell_end (A : Nat → Addr) (G : Nat → Prop) (b : Nat) (s : Rs) (w : World) (hE : Lea A G w) (h : RX A G w b s) (hcu : s.cur.length ≤ 4096) (hcl : s.cs.length ≤ 900000) (hrw : s.rw ≤ 1000000) (htd : s.td.length ≤ 1000000) :
    Calls Tryz.prog 69 #[.pointer (some ⟨b, 0, none⟩), .int .i64 (-1)] w fun e w' => Stp A G w b (s.beginCell none) e w' := by
  have hn := h.next 3
  have c0 := h.parts.2.2.2.2.2.2.2.1
  have f0 := h.parts.2.2.2.2.2.2.2.2 0
  have HN := hid (plain_end A G b { s with md := 3 } _ (hE.kept hn.2) hn.1 hcu hcl hrw htd)
  rw [nx3] at hn HN
  have HK := hid hn.2
  clear h hE hn
  go_enter Tryz.func69, Tryz.ntmps69
  go_wp2_with fail
  refine Calls.mono HN.out ?_
  rintro e w' ⟨rfl, hx, hk⟩
  go_wp2
  go_end0
  exact ⟨rfl, hx, HK.out.trans hk⟩
set_option maxHeartbeats 2000000 in
theorem beginCell_some (A : Nat → Addr) (G : Nat → Prop) (b : Nat) (s : Rs) (c : UInt8) (w : World) (hE : Lea A G w) (h : RX A G w b s) (hcu : s.cur.length ≤ 4096) (hcl : s.cs.length ≤ 900000) (hrw : s.rw ≤ 1000000) (htd : s.td.length ≤ 1000000) :
    Calls Tryz.prog 69 #[.pointer (some ⟨b, 0, none⟩), .int .i64 (c.toNat : Int)] w fun e w' => Stp A G w b (s.beginCell (some c)) e w' := by
  by_cases h34 : c.toNat = 34
  · have HS := hid (show s.beginCell (some c) = { s with op := s.hp, md := 4 } by unfold Rs.beginCell; simp [h34])
    have e34 : ((c.toNat : Int) == 34) = true := by rw [beq_iff_eq]; omega
    obtain ⟨bp, bv, cv, tv, V, hM⟩ := h
    have c2 := hM.top.c2
    have c3 := hM.top.c3
    have c4 := hM.top.c4
    have c5 := hM.top.c5
    have c0 := hM.top.c0
    have f4 := hM.top.fr 4
    have f5 := hM.top.fr 5
    have f0 := hM.top.fr 0
    have HM := hid hM
    clear hM hE h34
    go_enter Tryz.func69, Tryz.ntmps69
    go_wp2
    go_end0
    rw [HS.out]
    have := RM.re (s' := { s with op := s.hp, md := 4 }) HM.out ((((Kg.refl (But w b) w).set (But.not w b) _).set (But.not w b) _).set (But.not w b) _) (((HM.out.top.put4 _).put5 _).put0 _) rfl rfl rfl
    exact ⟨rfl, this.1, this.2⟩
  · have hn := h.next 3
    have c0 := h.parts.2.2.2.2.2.2.2.1
    have f0 := h.parts.2.2.2.2.2.2.2.2 0
    have HN := hid (plain_some A G b { s with md := 3 } c _ (hE.kept hn.2) hn.1 hcu hcl hrw htd)
    have HS := hid (show s.beginCell (some c) = Rs.plain { s with md := 3 } (some c) by unfold Rs.beginCell; simp [h34])
    have e34 : ((c.toNat : Int) == 34) = false := by rw [beq_eq_false_iff_ne]; omega
    rw [nx3] at hn HN
    have HK := hid hn.2
    clear h hE hn h34
    go_enter Tryz.func69, Tryz.ntmps69
    go_wp2_with fail
    refine Calls.mono HN.out ?_
    rintro e w' ⟨rfl, hx, hk⟩
    go_wp2
    go_end0
    exact ⟨rfl, by rw [HS.out]; exact hx, HK.out.trans hk⟩
set_option maxHeartbeats 2000000 in
theorem beginRow_end (A : Nat → Addr) (G : Nat → Prop) (b : Nat) (s : Rs) (w : World) (hE : Lea A G w) (h : RX A G w b s) (hcu : s.cur.length ≤ 4096) (hcl : s.cs.length ≤ 900000) (hrw : s.rw ≤ 1000000) (htd : s.td.length ≤ 1000000) :
    Calls Tryz.prog 52 #[.pointer (some ⟨b, 0, none⟩), .int .i64 (-1)] w fun e w' => Stp A G w b (s.beginRow none) e w' := by
  have HX := hid h
  clear h hE
  go_enter Tryz.func52, Tryz.ntmps52
  go_wp2
  go_end0
  exact ⟨rfl, HX.out, Kg.refl _ _⟩
set_option maxHeartbeats 2000000 in
theorem beginRow_some (A : Nat → Addr) (G : Nat → Prop) (b : Nat) (s : Rs) (c : UInt8) (w : World) (hE : Lea A G w) (h : RX A G w b s) (hcu : s.cur.length ≤ 4096) (hcl : s.cs.length ≤ 900000) (hrw : s.rw ≤ 1000000) (htd : s.td.length ≤ 1000000) :
    Calls Tryz.prog 52 #[.pointer (some ⟨b, 0, none⟩), .int .i64 (c.toNat : Int)] w fun e w' => Stp A G w b (s.beginRow (some c)) e w' := by
  have em : ((c.toNat : Int) == -1) = false := by rw [beq_eq_false_iff_ne]; omega
  have c8 := h.parts.2.2.2.2.2.2.1
  by_cases h4 : s.rw = 4096
  · have e4 : ((s.rw : Int) == 4096) = true := by rw [beq_iff_eq]; omega
    have HF := hid (fail_any A G b s 7 (by decide) s.hp w.drew (RX.drew h))
    have g7 := hE.er.e7
    have HS := hid (show s.beginRow (some c) = s.fail 7 s.hp by unfold Rs.beginRow; simp [h4])
    have c2 := h.parts.1
    have c3 := h.parts.2.1
    clear h hE
    go_enter Tryz.func52, Tryz.ntmps52
    go_wp2_with fail
    go_region_with (go_at_call 59; refine Calls.mono HF.out ?_; rintro e w' ⟨rfl, hx, hk⟩)
    all_goals (go_wp2; go_end0; exact ⟨rfl, by rw [HS.out]; exact hx, hk.of_drew⟩)
  · have e4 : ((s.rw : Int) == 4096) = false := by rw [beq_eq_false_iff_ne]; omega
    have HN := hid (beginCell_some A G b s c w hE h hcu hcl hrw htd)
    have HS := hid (show s.beginRow (some c) = s.beginCell (some c) by unfold Rs.beginRow; simp [h4])
    clear h hE h4
    go_enter Tryz.func52, Tryz.ntmps52
    go_wp2_with fail
    refine Calls.mono HN.out ?_
    rintro e w' ⟨rfl, hx, hk⟩
    go_wp2
    go_end0
    exact ⟨rfl, by rw [HS.out]; exact hx, hk⟩
/-- what a state is given -/
def cI (c : Option UInt8) : Int := match c with
  | none => -1
  | some c => (c.toNat : Int)
theorem next_any (A : Nat → Addr) (G : Nat → Prop) (b : Nat) (s : Rs) (c : Option UInt8) (w : World) (hE : Lea A G w) (h : RX A G w b s) (hcu : s.cur.length ≤ 4096) (hcl : s.cs.length ≤ 900000) (hrw : s.rw ≤ 1000000) (htd : s.td.length ≤ 1000000) :
    Calls Tryz.prog (fnO s.md) #[.pointer (some ⟨b, 0, none⟩), .int .i64 (cI c)] w fun e w' => Stp A G w b (s.next c) e w' := by
  unfold fnO Rs.next
  by_cases h1 : s.md = 1
  · rw [if_pos h1, if_pos h1]
    cases c with
    | none => exact beginRow_end A G b s w hE h hcu hcl hrw htd
    | some c => exact beginRow_some A G b s c w hE h hcu hcl hrw htd
  rw [if_neg h1, if_neg h1]
  by_cases h2 : s.md = 2
  · rw [if_pos h2, if_pos h2]
    cases c with
    | none => exact beginCell_end A G b s w hE h hcu hcl hrw htd
    | some c => exact beginCell_some A G b s c w hE h hcu hcl hrw htd
  rw [if_neg h2, if_neg h2]
  by_cases h3 : s.md = 3
  · rw [if_pos h3, if_pos h3]
    cases c with
    | none => exact plain_end A G b s w hE h hcu hcl hrw htd
    | some c => exact plain_some A G b s c w hE h hcu hcl hrw htd
  rw [if_neg h3, if_neg h3]
  by_cases h4 : s.md = 4
  · rw [if_pos h4, if_pos h4]
    cases c with
    | none => exact quoted_end A G b s w hE h hcu hcl hrw htd
    | some c => exact quoted_some A G b s c w hE h hcu hcl hrw htd
  rw [if_neg h4, if_neg h4]
  by_cases h5 : s.md = 5
  · rw [if_pos h5, if_pos h5]
    cases c with
    | none => exact behindQuote_end A G b s w hE h hcu hcl hrw htd
    | some c => exact behindQuote_some A G b s c w hE h hcu hcl hrw htd
  rw [if_neg h5, if_neg h5]
  cases c with
  | none => exact behindReturn_end A G b s w hE h hcu hcl hrw htd
  | some c => exact behindReturn_some A G b s c w hE h hcu hcl hrw htd
end Go.Proofs.YtpgpeafmlijfkaaGreatDoor
