/-
  Sheets: a byte is taken; what is told. Laid by mksqa.py.
-/
import Derived.Test.YtpgpeafmlijfkaaGreatDoorSq9
namespace Go.Proofs.YtpgpeafmlijfkaaGreatDoor
open Go.RowKit
set_option maxRecDepth 100000
set_option linter.unusedVariables false
set_option linter.unusedSimpArgs false

/-- numbers that stay small -/
structure Bdd (s : Rs) : Prop where
  cur : s.cur.length ≤ 4096
  cs : s.cs.length ≤ s.sz
  rw : s.rw ≤ s.sz
  td : s.td.length ≤ s.sz
  l : s.hp.1 ≤ s.sz + 1
  c : s.hp.2 ≤ s.sz
/-- what a step does to the numbers -/
structure Nxt (s s' : Rs) : Prop where
  sz : s'.sz = s.sz
  hp : s'.hp = s.hp
  cur : s'.cur.length ≤ 4096
  cs : s'.cs.length ≤ s.cs.length + 1
  rw : s'.rw ≤ s.rw + 1
  td : s'.td.length ≤ s.td.length + 1
theorem nxt_fail (s : Rs) (c : Nat) (p : Nat × Nat) : Nxt s (s.fail c p) := ⟨rfl, rfl, by simp [Rs.fail], by simp [Rs.fail], by simp [Rs.fail], by simp [Rs.fail]⟩
theorem nxt_add (s : Rs) (c : UInt8) (h : s.cur.length ≤ 4096) : Nxt s (s.add c) := by
  unfold Rs.add
  split
  · exact nxt_fail _ _ _
  · exact ⟨rfl, rfl, by simp; omega, by simp, by simp, by simp⟩
theorem nxt_endRow (s : Rs) (p : Nat × Nat) : (s.endRow p).sz = s.sz ∧ (s.endRow p).hp = s.hp ∧ (s.endRow p).cur.length ≤ 4096 ∨ False := by
  unfold Rs.endRow
  split
  · exact .inl ⟨rfl, rfl, by simp [Rs.fail]⟩
  · exact .inl ⟨rfl, rfl, by simp⟩
theorem nxt_row (s t : Rs) (p : Nat × Nat) (h1 : t.sz = s.sz) (h2 : t.hp = s.hp) (h3 : t.rw = s.rw) (h4 : t.td = s.td) : Nxt s (t.endRow p) := by
  unfold Rs.endRow
  split
  · exact ⟨h1, h2, by simp [Rs.fail], by simp [Rs.fail], by simp [Rs.fail]; omega, by simp [Rs.fail, h4]⟩
  · exact ⟨h1, h2, by simp, by simp, by simp; omega, by simp [h4]⟩
theorem nxt_endCell (s : Rs) (c : Option UInt8) : Nxt s (s.endCell c) := by
  unfold Rs.endCell
  cases c with
  | none => exact nxt_row s s.cel s.hp rfl rfl rfl rfl
  | some c =>
    simp only []
    split
    · exact ⟨rfl, rfl, by simp [Rs.cel], by simp [Rs.cel], by simp [Rs.cel], by simp [Rs.cel]⟩
    · split
      · exact ⟨rfl, rfl, by simp [Rs.fail], by simp [Rs.fail], by simp [Rs.fail, Rs.cel], by simp [Rs.fail, Rs.cel]⟩
      · exact ⟨rfl, rfl, by simp [Rs.cel], by simp [Rs.cel], by simp [Rs.cel], by simp [Rs.cel]⟩
theorem nxt_md {s t : Rs} {m : Nat} (h : Nxt { s with md := m } t) : Nxt s t := ⟨h.sz, h.hp, h.cur, h.cs, h.rw, h.td⟩
theorem nxt_plain (s : Rs) (c : Option UInt8) (h : s.cur.length ≤ 4096) : Nxt s (s.plain c) := by
  unfold Rs.plain
  cases c with
  | none => exact nxt_endCell s none
  | some c =>
    simp only []
    split
    · exact nxt_endCell s _
    · split
      · exact nxt_fail _ _ _
      · split
        · exact nxt_fail _ _ _
        · split
          · exact nxt_fail _ _ _
          · exact nxt_add s c h
theorem nxt_quoted (s : Rs) (c : Option UInt8) (h : s.cur.length ≤ 4096) : Nxt s (s.quoted c) := by
  unfold Rs.quoted
  cases c with
  | none => exact nxt_fail _ _ _
  | some c =>
    simp only []
    split
    · exact ⟨rfl, rfl, h, by simp, by simp, by simp⟩
    · split
      · exact nxt_fail _ _ _
      · exact nxt_add s c h
theorem nxt_behindQuote (s : Rs) (c : Option UInt8) (h : s.cur.length ≤ 4096) : Nxt s (s.behindQuote c) := by
  unfold Rs.behindQuote
  cases c with
  | none => exact nxt_endCell s none
  | some c =>
    simp only []
    split
    · exact nxt_md (nxt_add { s with md := 4 } c h)
    · split
      · exact nxt_endCell s _
      · split
        · exact nxt_fail _ _ _
        · exact nxt_fail _ _ _
theorem nxt_behindReturn (s : Rs) (c : Option UInt8) : Nxt s (s.behindReturn c) := by
  unfold Rs.behindReturn
  cases c with
  | none => exact nxt_fail _ _ _
  | some c =>
    simp only []
    split
    · exact nxt_row s s _ rfl rfl rfl rfl
    · exact nxt_fail _ _ _
theorem nxt_beginCell (s : Rs) (c : Option UInt8) (h : s.cur.length ≤ 4096) : Nxt s (s.beginCell c) := by
  unfold Rs.beginCell
  cases c with
  | none => exact nxt_md (nxt_plain { s with md := 3 } none h)
  | some c =>
    simp only []
    split
    · exact ⟨rfl, rfl, h, by simp, by simp, by simp⟩
    · exact nxt_md (nxt_plain { s with md := 3 } (some c) h)
theorem nxt_any (s : Rs) (c : Option UInt8) (h : s.cur.length ≤ 4096) : Nxt s (s.next c) := by
  unfold Rs.next
  split
  · unfold Rs.beginRow
    cases c with
    | none => exact ⟨rfl, rfl, h, by simp, by simp, by simp⟩
    | some c =>
      simp only []
      split
      · exact nxt_fail _ _ _
      · exact nxt_beginCell s _ h
  · split
    · exact nxt_beginCell s c h
    · split
      · exact nxt_plain s c h
      · split
        · exact nxt_quoted s c h
        · split
          · exact nxt_behindQuote s c h
          · exact nxt_behindReturn s c
theorem Bdd.take {s : Rs} (h : Bdd s) (c : UInt8) : Bdd (s.take c) := by
  unfold Rs.take
  split
  · exact ⟨by simp [Rs.fail], by simp [Rs.fail], h.rw, h.td, h.l, h.c⟩
  · have n := nxt_any s (some c) h.cur
    have h1 := h.cs
    have h2 := h.rw
    have h3 := h.td
    have h4 := h.l
    have h5 := h.c
    have n1 := n.cs
    have n2 := n.rw
    have n3 := n.td
    refine ⟨n.cur, ?_, ?_, ?_, ?_, ?_⟩
    · show (s.next (some c)).cs.length ≤ (s.next (some c)).sz + 1
      rw [n.sz]; omega
    · show (s.next (some c)).rw ≤ (s.next (some c)).sz + 1
      rw [n.sz]; omega
    · show (s.next (some c)).td.length ≤ (s.next (some c)).sz + 1
      rw [n.sz]; omega
    · show (adv (s.next (some c)).hp c.toNat).1 ≤ (s.next (some c)).sz + 1 + 1
      rw [n.sz, n.hp]
      unfold adv
      split <;> simp <;> omega
    · show (adv (s.next (some c)).hp c.toNat).2 ≤ (s.next (some c)).sz + 1
      rw [n.sz, n.hp]
      unfold adv
      split <;> simp <;> omega

set_option maxHeartbeats 2000000 in
theorem take_long (A : Nat → Addr) (G : Nat → Prop) (b : Nat) (s : Rs) (c : UInt8) (w : World) (hE : Lea A G w) (h : RX A G w b s) (hs : s.sz = 262144) :
    Calls Tryz.prog 35 #[.pointer (some ⟨b, 0, none⟩), .int .u8 (c.toNat : Int)] w fun e w' => Stp A G w b (s.take c) e w' := by
  have HF := hid (fail_any A G b s 20 (by decide) s.hp w.drew (RX.drew h))
  have g20 := hE.er.e20
  have HS := hid (show s.take c = s.fail 20 s.hp by unfold Rs.take; rw [if_pos hs])
  have c2 := h.parts.1
  have c3 := h.parts.2.1
  obtain ⟨bp, bv, cv, tv, V, hM⟩ := h
  have c1 := hM.top.c1
  have e1 : ((s.sz : Int) == 262144) = true := by rw [beq_iff_eq]; omega
  clear hE hM hs
  go_enter Tryz.func35, Tryz.ntmps35
  go_wp2_with fail
  go_region_with (go_at_call 59; refine Calls.mono HF.out ?_; rintro e w' ⟨rfl, hx, hk⟩)
  all_goals (go_wp2; go_end0; exact ⟨rfl, by rw [HS.out]; exact hx, hk.of_drew⟩)
/-- behind the state's step: the place goes on -/
theorem take_rest (A : Nat → Addr) (G : Nat → Prop) (b : Nat) (s : Rs) (c : UInt8) (w1 : World) (hx : RX A G w1 b (s.next (some c))) (hb : Bdd s) (W : World) (hk : Kg (But w1 b) w1 W)
    (ht : ∀ {v0 v4 v5 v6 v7 v8 v9 v10 v11 v12 v13 v14 v15 v16 v17 : Value}, R18 w1 b v0 (.int .i64 (s.sz : Int)) (.int .i64 (s.hp.1 : Int)) (.int .i64 (s.hp.2 : Int)) v4 v5 v6 v7 v8 v9 v10 v11 v12 v13 v14 v15 v16 v17 → R18 W b v0 (.int .i64 ((s.sz + 1 : Nat) : Int)) (.int .i64 ((adv s.hp c.toNat).1 : Int)) (.int .i64 ((adv s.hp c.toNat).2 : Int)) v4 v5 v6 v7 v8 v9 v10 v11 v12 v13 v14 v15 v16 v17) :
    RX A G W b ((s.next (some c)).gone c) ∧ Kg G w1 W := by
  obtain ⟨bp, bv, cv, tv, V, hM⟩ := hx
  have n := nxt_any s (some c) hb.cur
  refine RM.re (s' := (s.next (some c)).gone c) hM hk ?_ rfl rfl rfl
  have h1 : ((s.next (some c)).gone c).sz = s.sz + 1 := by show (s.next (some c)).sz + 1 = _; rw [n.sz]
  have h2 : ((s.next (some c)).gone c).hp = adv s.hp c.toNat := by show adv (s.next (some c)).hp c.toNat = _; rw [n.hp]
  rw [h1, h2]
  have ht1 := hM.top
  rw [n.sz, n.hp] at ht1
  exact ht ht1
set_option maxHeartbeats 2000000 in
theorem take_beginRow (A : Nat → Addr) (G : Nat → Prop) (b : Nat) (s : Rs) (c : UInt8) (w : World) (hE : Lea A G w) (h : RX A G w b s) (hs : s.sz < 262144) (hb : Bdd s) (hm : fnO s.md = 52) :
    Calls Tryz.prog 35 #[.pointer (some ⟨b, 0, none⟩), .int .u8 (c.toNat : Int)] w fun e w' => Stp A G w b (s.take c) e w' := by
  have q1 := hb.cs
  have q2 := hb.rw
  have q3 := hb.td
  have q4 := hb.l
  have q5 := hb.c
  have HN := next_any A G b s (some c) w hE h hb.cur (by omega) (by omega) (by omega)
  rw [hm] at HN
  have HS := hid (show s.take c = (s.next (some c)).gone c by unfold Rs.take; rw [if_neg (by omega)])
  have c0 : w.cell? ⟨b, 0, none⟩ = some (.func (.func 52) #[.pointer (some ⟨b, 0, none⟩)] #[]) := by rw [h.parts.2.2.2.2.2.2.2.1]; unfold nxV; rw [hm]
  obtain ⟨bp, bv, cv, tv, V, hM⟩ := h
  have c1 := hM.top.c1
  have e1 : ((s.sz : Int) == 262144) = false := by rw [beq_eq_false_iff_ne]; omega
  have HN' : Hid (Calls Tryz.prog 52 #[.pointer (some ⟨b, 0, none⟩), .int .i64 (c.toNat : Int)] w fun e w' => Stp A G w b (s.next (some c)) e w') := HN
  have HB := hid hb
  have r1 : s.sz ≤ 1000000 := by omega
  have r2 : s.hp.1 ≤ 1000000 := by omega
  have r3 : s.hp.2 ≤ 1000000 := by omega
  have hw64 : wrap64 (c.toNat : Int) = (c.toNat : Int) := by have := c.toNat_lt; unfold wrap64; omega
  clear hE hM hb HN hm q1 q2 q3 q4 q5 hs
  by_cases h10 : c.toNat = 10
  · have e10 : ((c.toNat : Int) == 10) = true := by rw [beq_iff_eq]; omega
    have HA := hid (show adv s.hp c.toNat = (s.hp.1 + 1, 0) by unfold adv; rw [if_pos h10])
    clear h10
    go_enter Tryz.func35, Tryz.ntmps35
    go_wp2_with fail
    refine Calls.mono HN'.out ?_
    rintro e w1 ⟨rfl, hx, hk⟩
    obtain ⟨bp, bv, cv, tv, V, hM⟩ := id hx
    have n := nxt_any s (some c) HB.out.cur
    have d1 := hM.top.c1
    have d2 := hM.top.c2
    have d3 := hM.top.c3
    rw [n.sz] at d1
    rw [n.hp] at d2 d3
    have f1 := hM.top.fr 1
    have f2 := hM.top.fr 2
    have f3 := hM.top.fr 3
    have HX := hid hx
    clear hM hx n
    go_wp2
    go_end0
    rw [HS.out]
    refine ⟨rfl, And.imp_right (fun h => hk.trans h) (take_rest A G b s c w1 HX.out HB.out _ ?_ ?_)⟩
    · iterate 4 refine Kg.set ?_ (But.not w1 b) _
      exact Kg.refl _ _
    · intro v0 v4 v5 v6 v7 v8 v9 v10 v11 v12 v13 v14 v15 v16 v17 hr
      rw [HA.out]
      exact (((hr.put1 _).put3 _).put2 _).put3 _
  · have e10 : ((c.toNat : Int) == 10) = false := by rw [beq_eq_false_iff_ne]; omega
    have HA := hid (show adv s.hp c.toNat = (s.hp.1, s.hp.2 + 1) by unfold adv; rw [if_neg h10])
    clear h10
    go_enter Tryz.func35, Tryz.ntmps35
    go_wp2_with fail
    refine Calls.mono HN'.out ?_
    rintro e w1 ⟨rfl, hx, hk⟩
    obtain ⟨bp, bv, cv, tv, V, hM⟩ := id hx
    have n := nxt_any s (some c) HB.out.cur
    have d1 := hM.top.c1
    have d2 := hM.top.c2
    have d3 := hM.top.c3
    rw [n.sz] at d1
    rw [n.hp] at d2 d3
    have f1 := hM.top.fr 1
    have f2 := hM.top.fr 2
    have f3 := hM.top.fr 3
    have HX := hid hx
    clear hM hx n
    go_wp2
    go_end0
    rw [HS.out]
    refine ⟨rfl, And.imp_right (fun h => hk.trans h) (take_rest A G b s c w1 HX.out HB.out _ ?_ ?_)⟩
    · iterate 2 refine Kg.set ?_ (But.not w1 b) _
      exact Kg.refl _ _
    · intro v0 v4 v5 v6 v7 v8 v9 v10 v11 v12 v13 v14 v15 v16 v17 hr
      rw [HA.out]
      exact (hr.put1 _).put3 _
set_option maxHeartbeats 2000000 in
theorem take_beginCell (A : Nat → Addr) (G : Nat → Prop) (b : Nat) (s : Rs) (c : UInt8) (w : World) (hE : Lea A G w) (h : RX A G w b s) (hs : s.sz < 262144) (hb : Bdd s) (hm : fnO s.md = 69) :
    Calls Tryz.prog 35 #[.pointer (some ⟨b, 0, none⟩), .int .u8 (c.toNat : Int)] w fun e w' => Stp A G w b (s.take c) e w' := by
  have q1 := hb.cs
  have q2 := hb.rw
  have q3 := hb.td
  have q4 := hb.l
  have q5 := hb.c
  have HN := next_any A G b s (some c) w hE h hb.cur (by omega) (by omega) (by omega)
  rw [hm] at HN
  have HS := hid (show s.take c = (s.next (some c)).gone c by unfold Rs.take; rw [if_neg (by omega)])
  have c0 : w.cell? ⟨b, 0, none⟩ = some (.func (.func 69) #[.pointer (some ⟨b, 0, none⟩)] #[]) := by rw [h.parts.2.2.2.2.2.2.2.1]; unfold nxV; rw [hm]
  obtain ⟨bp, bv, cv, tv, V, hM⟩ := h
  have c1 := hM.top.c1
  have e1 : ((s.sz : Int) == 262144) = false := by rw [beq_eq_false_iff_ne]; omega
  have HN' : Hid (Calls Tryz.prog 69 #[.pointer (some ⟨b, 0, none⟩), .int .i64 (c.toNat : Int)] w fun e w' => Stp A G w b (s.next (some c)) e w') := HN
  have HB := hid hb
  have r1 : s.sz ≤ 1000000 := by omega
  have r2 : s.hp.1 ≤ 1000000 := by omega
  have r3 : s.hp.2 ≤ 1000000 := by omega
  have hw64 : wrap64 (c.toNat : Int) = (c.toNat : Int) := by have := c.toNat_lt; unfold wrap64; omega
  clear hE hM hb HN hm q1 q2 q3 q4 q5 hs
  by_cases h10 : c.toNat = 10
  · have e10 : ((c.toNat : Int) == 10) = true := by rw [beq_iff_eq]; omega
    have HA := hid (show adv s.hp c.toNat = (s.hp.1 + 1, 0) by unfold adv; rw [if_pos h10])
    clear h10
    go_enter Tryz.func35, Tryz.ntmps35
    go_wp2_with fail
    refine Calls.mono HN'.out ?_
    rintro e w1 ⟨rfl, hx, hk⟩
    obtain ⟨bp, bv, cv, tv, V, hM⟩ := id hx
    have n := nxt_any s (some c) HB.out.cur
    have d1 := hM.top.c1
    have d2 := hM.top.c2
    have d3 := hM.top.c3
    rw [n.sz] at d1
    rw [n.hp] at d2 d3
    have f1 := hM.top.fr 1
    have f2 := hM.top.fr 2
    have f3 := hM.top.fr 3
    have HX := hid hx
    clear hM hx n
    go_wp2
    go_end0
    rw [HS.out]
    refine ⟨rfl, And.imp_right (fun h => hk.trans h) (take_rest A G b s c w1 HX.out HB.out _ ?_ ?_)⟩
    · iterate 4 refine Kg.set ?_ (But.not w1 b) _
      exact Kg.refl _ _
    · intro v0 v4 v5 v6 v7 v8 v9 v10 v11 v12 v13 v14 v15 v16 v17 hr
      rw [HA.out]
      exact (((hr.put1 _).put3 _).put2 _).put3 _
  · have e10 : ((c.toNat : Int) == 10) = false := by rw [beq_eq_false_iff_ne]; omega
    have HA := hid (show adv s.hp c.toNat = (s.hp.1, s.hp.2 + 1) by unfold adv; rw [if_neg h10])
    clear h10
    go_enter Tryz.func35, Tryz.ntmps35
    go_wp2_with fail
    refine Calls.mono HN'.out ?_
    rintro e w1 ⟨rfl, hx, hk⟩
    obtain ⟨bp, bv, cv, tv, V, hM⟩ := id hx
    have n := nxt_any s (some c) HB.out.cur
    have d1 := hM.top.c1
    have d2 := hM.top.c2
    have d3 := hM.top.c3
    rw [n.sz] at d1
    rw [n.hp] at d2 d3
    have f1 := hM.top.fr 1
    have f2 := hM.top.fr 2
    have f3 := hM.top.fr 3
    have HX := hid hx
    clear hM hx n
    go_wp2
    go_end0
    rw [HS.out]
    refine ⟨rfl, And.imp_right (fun h => hk.trans h) (take_rest A G b s c w1 HX.out HB.out _ ?_ ?_)⟩
    · iterate 2 refine Kg.set ?_ (But.not w1 b) _
      exact Kg.refl _ _
    · intro v0 v4 v5 v6 v7 v8 v9 v10 v11 v12 v13 v14 v15 v16 v17 hr
      rw [HA.out]
      exact (hr.put1 _).put3 _
set_option maxHeartbeats 2000000 in
theorem take_plain (A : Nat → Addr) (G : Nat → Prop) (b : Nat) (s : Rs) (c : UInt8) (w : World) (hE : Lea A G w) (h : RX A G w b s) (hs : s.sz < 262144) (hb : Bdd s) (hm : fnO s.md = 78) :
    Calls Tryz.prog 35 #[.pointer (some ⟨b, 0, none⟩), .int .u8 (c.toNat : Int)] w fun e w' => Stp A G w b (s.take c) e w' := by
  have q1 := hb.cs
  have q2 := hb.rw
  have q3 := hb.td
  have q4 := hb.l
  have q5 := hb.c
  have HN := next_any A G b s (some c) w hE h hb.cur (by omega) (by omega) (by omega)
  rw [hm] at HN
  have HS := hid (show s.take c = (s.next (some c)).gone c by unfold Rs.take; rw [if_neg (by omega)])
  have c0 : w.cell? ⟨b, 0, none⟩ = some (.func (.func 78) #[.pointer (some ⟨b, 0, none⟩)] #[]) := by rw [h.parts.2.2.2.2.2.2.2.1]; unfold nxV; rw [hm]
  obtain ⟨bp, bv, cv, tv, V, hM⟩ := h
  have c1 := hM.top.c1
  have e1 : ((s.sz : Int) == 262144) = false := by rw [beq_eq_false_iff_ne]; omega
  have HN' : Hid (Calls Tryz.prog 78 #[.pointer (some ⟨b, 0, none⟩), .int .i64 (c.toNat : Int)] w fun e w' => Stp A G w b (s.next (some c)) e w') := HN
  have HB := hid hb
  have r1 : s.sz ≤ 1000000 := by omega
  have r2 : s.hp.1 ≤ 1000000 := by omega
  have r3 : s.hp.2 ≤ 1000000 := by omega
  have hw64 : wrap64 (c.toNat : Int) = (c.toNat : Int) := by have := c.toNat_lt; unfold wrap64; omega
  clear hE hM hb HN hm q1 q2 q3 q4 q5 hs
  by_cases h10 : c.toNat = 10
  · have e10 : ((c.toNat : Int) == 10) = true := by rw [beq_iff_eq]; omega
    have HA := hid (show adv s.hp c.toNat = (s.hp.1 + 1, 0) by unfold adv; rw [if_pos h10])
    clear h10
    go_enter Tryz.func35, Tryz.ntmps35
    go_wp2_with fail
    refine Calls.mono HN'.out ?_
    rintro e w1 ⟨rfl, hx, hk⟩
    obtain ⟨bp, bv, cv, tv, V, hM⟩ := id hx
    have n := nxt_any s (some c) HB.out.cur
    have d1 := hM.top.c1
    have d2 := hM.top.c2
    have d3 := hM.top.c3
    rw [n.sz] at d1
    rw [n.hp] at d2 d3
    have f1 := hM.top.fr 1
    have f2 := hM.top.fr 2
    have f3 := hM.top.fr 3
    have HX := hid hx
    clear hM hx n
    go_wp2
    go_end0
    rw [HS.out]
    refine ⟨rfl, And.imp_right (fun h => hk.trans h) (take_rest A G b s c w1 HX.out HB.out _ ?_ ?_)⟩
    · iterate 4 refine Kg.set ?_ (But.not w1 b) _
      exact Kg.refl _ _
    · intro v0 v4 v5 v6 v7 v8 v9 v10 v11 v12 v13 v14 v15 v16 v17 hr
      rw [HA.out]
      exact (((hr.put1 _).put3 _).put2 _).put3 _
  · have e10 : ((c.toNat : Int) == 10) = false := by rw [beq_eq_false_iff_ne]; omega
    have HA := hid (show adv s.hp c.toNat = (s.hp.1, s.hp.2 + 1) by unfold adv; rw [if_neg h10])
    clear h10
    go_enter Tryz.func35, Tryz.ntmps35
    go_wp2_with fail
    refine Calls.mono HN'.out ?_
    rintro e w1 ⟨rfl, hx, hk⟩
    obtain ⟨bp, bv, cv, tv, V, hM⟩ := id hx
    have n := nxt_any s (some c) HB.out.cur
    have d1 := hM.top.c1
    have d2 := hM.top.c2
    have d3 := hM.top.c3
    rw [n.sz] at d1
    rw [n.hp] at d2 d3
    have f1 := hM.top.fr 1
    have f2 := hM.top.fr 2
    have f3 := hM.top.fr 3
    have HX := hid hx
    clear hM hx n
    go_wp2
    go_end0
    rw [HS.out]
    refine ⟨rfl, And.imp_right (fun h => hk.trans h) (take_rest A G b s c w1 HX.out HB.out _ ?_ ?_)⟩
    · iterate 2 refine Kg.set ?_ (But.not w1 b) _
      exact Kg.refl _ _
    · intro v0 v4 v5 v6 v7 v8 v9 v10 v11 v12 v13 v14 v15 v16 v17 hr
      rw [HA.out]
      exact (hr.put1 _).put3 _
set_option maxHeartbeats 2000000 in
theorem take_quoted (A : Nat → Addr) (G : Nat → Prop) (b : Nat) (s : Rs) (c : UInt8) (w : World) (hE : Lea A G w) (h : RX A G w b s) (hs : s.sz < 262144) (hb : Bdd s) (hm : fnO s.md = 77) :
    Calls Tryz.prog 35 #[.pointer (some ⟨b, 0, none⟩), .int .u8 (c.toNat : Int)] w fun e w' => Stp A G w b (s.take c) e w' := by
  have q1 := hb.cs
  have q2 := hb.rw
  have q3 := hb.td
  have q4 := hb.l
  have q5 := hb.c
  have HN := next_any A G b s (some c) w hE h hb.cur (by omega) (by omega) (by omega)
  rw [hm] at HN
  have HS := hid (show s.take c = (s.next (some c)).gone c by unfold Rs.take; rw [if_neg (by omega)])
  have c0 : w.cell? ⟨b, 0, none⟩ = some (.func (.func 77) #[.pointer (some ⟨b, 0, none⟩)] #[]) := by rw [h.parts.2.2.2.2.2.2.2.1]; unfold nxV; rw [hm]
  obtain ⟨bp, bv, cv, tv, V, hM⟩ := h
  have c1 := hM.top.c1
  have e1 : ((s.sz : Int) == 262144) = false := by rw [beq_eq_false_iff_ne]; omega
  have HN' : Hid (Calls Tryz.prog 77 #[.pointer (some ⟨b, 0, none⟩), .int .i64 (c.toNat : Int)] w fun e w' => Stp A G w b (s.next (some c)) e w') := HN
  have HB := hid hb
  have r1 : s.sz ≤ 1000000 := by omega
  have r2 : s.hp.1 ≤ 1000000 := by omega
  have r3 : s.hp.2 ≤ 1000000 := by omega
  have hw64 : wrap64 (c.toNat : Int) = (c.toNat : Int) := by have := c.toNat_lt; unfold wrap64; omega
  clear hE hM hb HN hm q1 q2 q3 q4 q5 hs
  by_cases h10 : c.toNat = 10
  · have e10 : ((c.toNat : Int) == 10) = true := by rw [beq_iff_eq]; omega
    have HA := hid (show adv s.hp c.toNat = (s.hp.1 + 1, 0) by unfold adv; rw [if_pos h10])
    clear h10
    go_enter Tryz.func35, Tryz.ntmps35
    go_wp2_with fail
    refine Calls.mono HN'.out ?_
    rintro e w1 ⟨rfl, hx, hk⟩
    obtain ⟨bp, bv, cv, tv, V, hM⟩ := id hx
    have n := nxt_any s (some c) HB.out.cur
    have d1 := hM.top.c1
    have d2 := hM.top.c2
    have d3 := hM.top.c3
    rw [n.sz] at d1
    rw [n.hp] at d2 d3
    have f1 := hM.top.fr 1
    have f2 := hM.top.fr 2
    have f3 := hM.top.fr 3
    have HX := hid hx
    clear hM hx n
    go_wp2
    go_end0
    rw [HS.out]
    refine ⟨rfl, And.imp_right (fun h => hk.trans h) (take_rest A G b s c w1 HX.out HB.out _ ?_ ?_)⟩
    · iterate 4 refine Kg.set ?_ (But.not w1 b) _
      exact Kg.refl _ _
    · intro v0 v4 v5 v6 v7 v8 v9 v10 v11 v12 v13 v14 v15 v16 v17 hr
      rw [HA.out]
      exact (((hr.put1 _).put3 _).put2 _).put3 _
  · have e10 : ((c.toNat : Int) == 10) = false := by rw [beq_eq_false_iff_ne]; omega
    have HA := hid (show adv s.hp c.toNat = (s.hp.1, s.hp.2 + 1) by unfold adv; rw [if_neg h10])
    clear h10
    go_enter Tryz.func35, Tryz.ntmps35
    go_wp2_with fail
    refine Calls.mono HN'.out ?_
    rintro e w1 ⟨rfl, hx, hk⟩
    obtain ⟨bp, bv, cv, tv, V, hM⟩ := id hx
    have n := nxt_any s (some c) HB.out.cur
    have d1 := hM.top.c1
    have d2 := hM.top.c2
    have d3 := hM.top.c3
    rw [n.sz] at d1
    rw [n.hp] at d2 d3
    have f1 := hM.top.fr 1
    have f2 := hM.top.fr 2
    have f3 := hM.top.fr 3
    have HX := hid hx
    clear hM hx n
    go_wp2
    go_end0
    rw [HS.out]
    refine ⟨rfl, And.imp_right (fun h => hk.trans h) (take_rest A G b s c w1 HX.out HB.out _ ?_ ?_)⟩
    · iterate 2 refine Kg.set ?_ (But.not w1 b) _
      exact Kg.refl _ _
    · intro v0 v4 v5 v6 v7 v8 v9 v10 v11 v12 v13 v14 v15 v16 v17 hr
      rw [HA.out]
      exact (hr.put1 _).put3 _
set_option maxHeartbeats 2000000 in
theorem take_behindQuote (A : Nat → Addr) (G : Nat → Prop) (b : Nat) (s : Rs) (c : UInt8) (w : World) (hE : Lea A G w) (h : RX A G w b s) (hs : s.sz < 262144) (hb : Bdd s) (hm : fnO s.md = 85) :
    Calls Tryz.prog 35 #[.pointer (some ⟨b, 0, none⟩), .int .u8 (c.toNat : Int)] w fun e w' => Stp A G w b (s.take c) e w' := by
  have q1 := hb.cs
  have q2 := hb.rw
  have q3 := hb.td
  have q4 := hb.l
  have q5 := hb.c
  have HN := next_any A G b s (some c) w hE h hb.cur (by omega) (by omega) (by omega)
  rw [hm] at HN
  have HS := hid (show s.take c = (s.next (some c)).gone c by unfold Rs.take; rw [if_neg (by omega)])
  have c0 : w.cell? ⟨b, 0, none⟩ = some (.func (.func 85) #[.pointer (some ⟨b, 0, none⟩)] #[]) := by rw [h.parts.2.2.2.2.2.2.2.1]; unfold nxV; rw [hm]
  obtain ⟨bp, bv, cv, tv, V, hM⟩ := h
  have c1 := hM.top.c1
  have e1 : ((s.sz : Int) == 262144) = false := by rw [beq_eq_false_iff_ne]; omega
  have HN' : Hid (Calls Tryz.prog 85 #[.pointer (some ⟨b, 0, none⟩), .int .i64 (c.toNat : Int)] w fun e w' => Stp A G w b (s.next (some c)) e w') := HN
  have HB := hid hb
  have r1 : s.sz ≤ 1000000 := by omega
  have r2 : s.hp.1 ≤ 1000000 := by omega
  have r3 : s.hp.2 ≤ 1000000 := by omega
  have hw64 : wrap64 (c.toNat : Int) = (c.toNat : Int) := by have := c.toNat_lt; unfold wrap64; omega
  clear hE hM hb HN hm q1 q2 q3 q4 q5 hs
  by_cases h10 : c.toNat = 10
  · have e10 : ((c.toNat : Int) == 10) = true := by rw [beq_iff_eq]; omega
    have HA := hid (show adv s.hp c.toNat = (s.hp.1 + 1, 0) by unfold adv; rw [if_pos h10])
    clear h10
    go_enter Tryz.func35, Tryz.ntmps35
    go_wp2_with fail
    refine Calls.mono HN'.out ?_
    rintro e w1 ⟨rfl, hx, hk⟩
    obtain ⟨bp, bv, cv, tv, V, hM⟩ := id hx
    have n := nxt_any s (some c) HB.out.cur
    have d1 := hM.top.c1
    have d2 := hM.top.c2
    have d3 := hM.top.c3
    rw [n.sz] at d1
    rw [n.hp] at d2 d3
    have f1 := hM.top.fr 1
    have f2 := hM.top.fr 2
    have f3 := hM.top.fr 3
    have HX := hid hx
    clear hM hx n
    go_wp2
    go_end0
    rw [HS.out]
    refine ⟨rfl, And.imp_right (fun h => hk.trans h) (take_rest A G b s c w1 HX.out HB.out _ ?_ ?_)⟩
    · iterate 4 refine Kg.set ?_ (But.not w1 b) _
      exact Kg.refl _ _
    · intro v0 v4 v5 v6 v7 v8 v9 v10 v11 v12 v13 v14 v15 v16 v17 hr
      rw [HA.out]
      exact (((hr.put1 _).put3 _).put2 _).put3 _
  · have e10 : ((c.toNat : Int) == 10) = false := by rw [beq_eq_false_iff_ne]; omega
    have HA := hid (show adv s.hp c.toNat = (s.hp.1, s.hp.2 + 1) by unfold adv; rw [if_neg h10])
    clear h10
    go_enter Tryz.func35, Tryz.ntmps35
    go_wp2_with fail
    refine Calls.mono HN'.out ?_
    rintro e w1 ⟨rfl, hx, hk⟩
    obtain ⟨bp, bv, cv, tv, V, hM⟩ := id hx
    have n := nxt_any s (some c) HB.out.cur
    have d1 := hM.top.c1
    have d2 := hM.top.c2
    have d3 := hM.top.c3
    rw [n.sz] at d1
    rw [n.hp] at d2 d3
    have f1 := hM.top.fr 1
    have f2 := hM.top.fr 2
    have f3 := hM.top.fr 3
    have HX := hid hx
    clear hM hx n
    go_wp2
    go_end0
    rw [HS.out]
    refine ⟨rfl, And.imp_right (fun h => hk.trans h) (take_rest A G b s c w1 HX.out HB.out _ ?_ ?_)⟩
    · iterate 2 refine Kg.set ?_ (But.not w1 b) _
      exact Kg.refl _ _
    · intro v0 v4 v5 v6 v7 v8 v9 v10 v11 v12 v13 v14 v15 v16 v17 hr
      rw [HA.out]
      exact (hr.put1 _).put3 _
set_option maxHeartbeats 2000000 in
theorem take_behindReturn (A : Nat → Addr) (G : Nat → Prop) (b : Nat) (s : Rs) (c : UInt8) (w : World) (hE : Lea A G w) (h : RX A G w b s) (hs : s.sz < 262144) (hb : Bdd s) (hm : fnO s.md = 100) :
    Calls Tryz.prog 35 #[.pointer (some ⟨b, 0, none⟩), .int .u8 (c.toNat : Int)] w fun e w' => Stp A G w b (s.take c) e w' := by
  have q1 := hb.cs
  have q2 := hb.rw
  have q3 := hb.td
  have q4 := hb.l
  have q5 := hb.c
  have HN := next_any A G b s (some c) w hE h hb.cur (by omega) (by omega) (by omega)
  rw [hm] at HN
  have HS := hid (show s.take c = (s.next (some c)).gone c by unfold Rs.take; rw [if_neg (by omega)])
  have c0 : w.cell? ⟨b, 0, none⟩ = some (.func (.func 100) #[.pointer (some ⟨b, 0, none⟩)] #[]) := by rw [h.parts.2.2.2.2.2.2.2.1]; unfold nxV; rw [hm]
  obtain ⟨bp, bv, cv, tv, V, hM⟩ := h
  have c1 := hM.top.c1
  have e1 : ((s.sz : Int) == 262144) = false := by rw [beq_eq_false_iff_ne]; omega
  have HN' : Hid (Calls Tryz.prog 100 #[.pointer (some ⟨b, 0, none⟩), .int .i64 (c.toNat : Int)] w fun e w' => Stp A G w b (s.next (some c)) e w') := HN
  have HB := hid hb
  have r1 : s.sz ≤ 1000000 := by omega
  have r2 : s.hp.1 ≤ 1000000 := by omega
  have r3 : s.hp.2 ≤ 1000000 := by omega
  have hw64 : wrap64 (c.toNat : Int) = (c.toNat : Int) := by have := c.toNat_lt; unfold wrap64; omega
  clear hE hM hb HN hm q1 q2 q3 q4 q5 hs
  by_cases h10 : c.toNat = 10
  · have e10 : ((c.toNat : Int) == 10) = true := by rw [beq_iff_eq]; omega
    have HA := hid (show adv s.hp c.toNat = (s.hp.1 + 1, 0) by unfold adv; rw [if_pos h10])
    clear h10
    go_enter Tryz.func35, Tryz.ntmps35
    go_wp2_with fail
    refine Calls.mono HN'.out ?_
    rintro e w1 ⟨rfl, hx, hk⟩
    obtain ⟨bp, bv, cv, tv, V, hM⟩ := id hx
    have n := nxt_any s (some c) HB.out.cur
    have d1 := hM.top.c1
    have d2 := hM.top.c2
    have d3 := hM.top.c3
    rw [n.sz] at d1
    rw [n.hp] at d2 d3
    have f1 := hM.top.fr 1
    have f2 := hM.top.fr 2
    have f3 := hM.top.fr 3
    have HX := hid hx
    clear hM hx n
    go_wp2
    go_end0
    rw [HS.out]
    refine ⟨rfl, And.imp_right (fun h => hk.trans h) (take_rest A G b s c w1 HX.out HB.out _ ?_ ?_)⟩
    · iterate 4 refine Kg.set ?_ (But.not w1 b) _
      exact Kg.refl _ _
    · intro v0 v4 v5 v6 v7 v8 v9 v10 v11 v12 v13 v14 v15 v16 v17 hr
      rw [HA.out]
      exact (((hr.put1 _).put3 _).put2 _).put3 _
  · have e10 : ((c.toNat : Int) == 10) = false := by rw [beq_eq_false_iff_ne]; omega
    have HA := hid (show adv s.hp c.toNat = (s.hp.1, s.hp.2 + 1) by unfold adv; rw [if_neg h10])
    clear h10
    go_enter Tryz.func35, Tryz.ntmps35
    go_wp2_with fail
    refine Calls.mono HN'.out ?_
    rintro e w1 ⟨rfl, hx, hk⟩
    obtain ⟨bp, bv, cv, tv, V, hM⟩ := id hx
    have n := nxt_any s (some c) HB.out.cur
    have d1 := hM.top.c1
    have d2 := hM.top.c2
    have d3 := hM.top.c3
    rw [n.sz] at d1
    rw [n.hp] at d2 d3
    have f1 := hM.top.fr 1
    have f2 := hM.top.fr 2
    have f3 := hM.top.fr 3
    have HX := hid hx
    clear hM hx n
    go_wp2
    go_end0
    rw [HS.out]
    refine ⟨rfl, And.imp_right (fun h => hk.trans h) (take_rest A G b s c w1 HX.out HB.out _ ?_ ?_)⟩
    · iterate 2 refine Kg.set ?_ (But.not w1 b) _
      exact Kg.refl _ _
    · intro v0 v4 v5 v6 v7 v8 v9 v10 v11 v12 v13 v14 v15 v16 v17 hr
      rw [HA.out]
      exact (hr.put1 _).put3 _
theorem take_any (A : Nat → Addr) (G : Nat → Prop) (b : Nat) (s : Rs) (c : UInt8) (w : World) (hE : Lea A G w) (h : RX A G w b s) (hs : s.sz ≤ 262144) (hb : Bdd s) :
    Calls Tryz.prog 35 #[.pointer (some ⟨b, 0, none⟩), .int .u8 (c.toNat : Int)] w fun e w' => Stp A G w b (s.take c) e w' := by
  by_cases hl : s.sz = 262144
  · exact take_long A G b s c w hE h hl
  have hs' : s.sz < 262144 := by omega
  by_cases h1 : s.md = 1
  · exact take_beginRow A G b s c w hE h hs' hb (by unfold fnO; simp [h1])
  by_cases h2 : s.md = 2
  · exact take_beginCell A G b s c w hE h hs' hb (by unfold fnO; simp [h2])
  by_cases h3 : s.md = 3
  · exact take_plain A G b s c w hE h hs' hb (by unfold fnO; simp [h3])
  by_cases h4 : s.md = 4
  · exact take_quoted A G b s c w hE h hs' hb (by unfold fnO; simp [h4])
  by_cases h5 : s.md = 5
  · exact take_behindQuote A G b s c w hE h hs' hb (by unfold fnO; simp [h5])
  exact take_behindReturn A G b s c w hE h hs' hb (by unfold fnO; simp [h1, h2, h3, h4, h5])
end Go.Proofs.YtpgpeafmlijfkaaGreatDoor
