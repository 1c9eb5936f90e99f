/-
  Texts of days stand in the order of the days, form by form.
-/
import Derived.Test.YtjpglgemnaknhaaGreatDoorRnd2
namespace Go.Proofs.YtjpglgemnaknhaaGreatDoor
open Go.RowKit
set_option maxRecDepth 100000

theorem nm_1 (a : UInt8) : nm [a] = a.toNat - 48 := by show 0 * 10 + (a.toNat - 48) = _; omega
theorem nm_2 (a b : UInt8) : nm [a, b] = (a.toNat - 48) * 10 + (b.toNat - 48) := by show (0 * 10 + (a.toNat - 48)) * 10 + (b.toNat - 48) = _; omega
theorem nm_3 (a b c : UInt8) : nm [a, b, c] = ((a.toNat - 48) * 10 + (b.toNat - 48)) * 10 + (c.toNat - 48) := by show ((0 * 10 + (a.toNat - 48)) * 10 + (b.toNat - 48)) * 10 + (c.toNat - 48) = _; omega
theorem nm_4 (a b c d : UInt8) : nm [a, b, c, d] = (((a.toNat - 48) * 10 + (b.toNat - 48)) * 10 + (c.toNat - 48)) * 10 + (d.toNat - 48) := by show (((0 * 10 + (a.toNat - 48)) * 10 + (b.toNat - 48)) * 10 + (c.toNat - 48)) * 10 + (d.toNat - 48) = _; omega

theorem lex_0 (y m d y' m' d' : Int) (hv : VD y m d) (hv' : VD y' m' d') (_hw : 0 ≤ wkY y (nb y m d)) (_hw' : 0 ≤ wkY y' (nb y' m' d')) : Op.bytesLess (pdL 0 y m d) (pdL 0 y' m' d') = decide (nb y m d < nb y' m' d') := by
  have hlt := ymd_lt y m d y' m' d' hv hv'
  have hl := lg_le y m
  have hl' := lg_le y' m'
  have hy := yd_in y m d hv
  have hy' := yd_in y' m' d' hv'
  have hwb := week_bounds y m d hv
  have hwb' := week_bounds y' m' d' hv'
  have hw9 := wkY_le y m d hv
  have hw9' := wkY_le y' m' d' hv'
  have hwd := wd_lt (nb y m d)
  have hwd' := wd_lt (nb y' m' d')
  obtain ⟨v0, v1, v2, v3, v4, v5⟩ := hv
  obtain ⟨x0, x1, x2, x3, x4, x5⟩ := hv'
  obtain ⟨p0a, p0b, p0c, p0d, e0, hp0a, hp0b, hp0c, hp0d, n0⟩ := pad_4 (y) (by omega) (by show (y).toNat < 10000; omega)
  obtain ⟨q0a, q0b, q0c, q0d, f0, hq0a, hq0b, hq0c, hq0d, r0⟩ := pad_4 (y') (by omega) (by show (y').toNat < 10000; omega)
  rw [nm_4] at n0 r0
  obtain ⟨p1a, p1b, e1, hp1a, hp1b, n1⟩ := pad_2 (m) (by omega) (by show (m).toNat < 100; omega)
  obtain ⟨q1a, q1b, f1, hq1a, hq1b, r1⟩ := pad_2 (m') (by omega) (by show (m').toNat < 100; omega)
  rw [nm_2] at n1 r1
  obtain ⟨p2a, p2b, e2, hp2a, hp2b, n2⟩ := pad_2 (d) (by omega) (by show (d).toNat < 100; omega)
  obtain ⟨q2a, q2b, f2, hq2a, hq2b, r2⟩ := pad_2 (d') (by omega) (by show (d').toNat < 100; omega)
  rw [nm_2] at n2 r2
  have hT : pdL 0 y m d = [p0a, p0b, p0c, p0d, 45, p1a, p1b, 45, p2a, p2b] := by
    unfold pdL
    simp only [e0, e1, e2]
    rfl
  have hU : pdL 0 y' m' d' = [q0a, q0b, q0c, q0d, 45, q1a, q1b, 45, q2a, q2b] := by
    unfold pdL
    simp only [f0, f1, f2]
    rfl
  have hC : Cl [p0a, p0b, p0c, p0d, 45, p1a, p1b, 45, p2a, p2b] [q0a, q0b, q0c, q0d, 45, q1a, q1b, 45, q2a, q2b] := ⟨.inr ⟨hp0a, hq0a⟩, .inr ⟨hp0b, hq0b⟩, .inr ⟨hp0c, hq0c⟩, .inr ⟨hp0d, hq0d⟩, .inl rfl, .inr ⟨hp1a, hq1a⟩, .inr ⟨hp1b, hq1b⟩, .inl rfl, .inr ⟨hp2a, hq2a⟩, .inr ⟨hp2b, hq2b⟩, trivial⟩
  rw [hT, hU, less_val _ _ hC]
  clear hC hT hU
  clear e0 f0
  have ip0a := isDB_in hp0a
  have ip0b := isDB_in hp0b
  have ip0c := isDB_in hp0c
  have ip0d := isDB_in hp0d
  have iq0a := isDB_in hq0a
  have iq0b := isDB_in hq0b
  have iq0c := isDB_in hq0c
  have iq0d := isDB_in hq0d
  clear e1 f1
  have ip1a := isDB_in hp1a
  have ip1b := isDB_in hp1b
  have iq1a := isDB_in hq1a
  have iq1b := isDB_in hq1b
  clear e2 f2
  have ip2a := isDB_in hp2a
  have ip2b := isDB_in hp2b
  have iq2a := isDB_in hq2a
  have iq2b := isDB_in hq2b
  have se0 : ((p0a.toNat * 1000 + p0b.toNat * 100 + p0c.toNat * 10 + p0d.toNat * 1 : Nat) : Int) = (y) + 53328 := by omega
  have sf0 : ((q0a.toNat * 1000 + q0b.toNat * 100 + q0c.toNat * 10 + q0d.toNat * 1 : Nat) : Int) = (y') + 53328 := by omega
  have se1 : ((p1a.toNat * 10 + p1b.toNat * 1 : Nat) : Int) = (m) + 528 := by omega
  have sf1 : ((q1a.toNat * 10 + q1b.toNat * 1 : Nat) : Int) = (m') + 528 := by omega
  have se2 : ((p2a.toNat * 10 + p2b.toNat * 1 : Nat) : Int) = (d) + 528 := by omega
  have sf2 : ((q2a.toNat * 10 + q2b.toNat * 1 : Nat) : Int) = (d') + 528 := by omega
  clear n0 r0 n1 r1 n2 r2
  have key : (val [p0a, p0b, p0c, p0d, 45, p1a, p1b, 45, p2a, p2b] < val [q0a, q0b, q0c, q0d, 45, q1a, q1b, 45, q2a, q2b]) ↔ nb y m d < nb y' m' d' := by
    rw [← hlt]
    simp only [val, List.length_cons, List.length_nil, Nat.zero_add, Nat.reduceAdd, Nat.reducePow]
    try generalize (45 : UInt8).toNat = z45
    try generalize (87 : UInt8).toNat = z87
    omega
  exact decide_eq_decide.2 key

theorem lex_1 (y m d y' m' d' : Int) (hv : VD y m d) (hv' : VD y' m' d') (_hw : 0 ≤ wkY y (nb y m d)) (_hw' : 0 ≤ wkY y' (nb y' m' d')) : Op.bytesLess (pdL 1 y m d) (pdL 1 y' m' d') = decide (nb y m d < nb y' m' d') := by
  have hlt := ymd_lt y m d y' m' d' hv hv'
  have hl := lg_le y m
  have hl' := lg_le y' m'
  have hy := yd_in y m d hv
  have hy' := yd_in y' m' d' hv'
  have hwb := week_bounds y m d hv
  have hwb' := week_bounds y' m' d' hv'
  have hw9 := wkY_le y m d hv
  have hw9' := wkY_le y' m' d' hv'
  have hwd := wd_lt (nb y m d)
  have hwd' := wd_lt (nb y' m' d')
  obtain ⟨v0, v1, v2, v3, v4, v5⟩ := hv
  obtain ⟨x0, x1, x2, x3, x4, x5⟩ := hv'
  obtain ⟨p0a, p0b, p0c, p0d, e0, hp0a, hp0b, hp0c, hp0d, n0⟩ := pad_4 (y) (by omega) (by show (y).toNat < 10000; omega)
  obtain ⟨q0a, q0b, q0c, q0d, f0, hq0a, hq0b, hq0c, hq0d, r0⟩ := pad_4 (y') (by omega) (by show (y').toNat < 10000; omega)
  rw [nm_4] at n0 r0
  obtain ⟨p1a, p1b, e1, hp1a, hp1b, n1⟩ := pad_2 (m) (by omega) (by show (m).toNat < 100; omega)
  obtain ⟨q1a, q1b, f1, hq1a, hq1b, r1⟩ := pad_2 (m') (by omega) (by show (m').toNat < 100; omega)
  rw [nm_2] at n1 r1
  obtain ⟨p2a, p2b, e2, hp2a, hp2b, n2⟩ := pad_2 (d) (by omega) (by show (d).toNat < 100; omega)
  obtain ⟨q2a, q2b, f2, hq2a, hq2b, r2⟩ := pad_2 (d') (by omega) (by show (d').toNat < 100; omega)
  rw [nm_2] at n2 r2
  have hT : pdL 1 y m d = [p0a, p0b, p0c, p0d, p1a, p1b, p2a, p2b] := by
    unfold pdL
    simp only [e0, e1, e2]
    rfl
  have hU : pdL 1 y' m' d' = [q0a, q0b, q0c, q0d, q1a, q1b, q2a, q2b] := by
    unfold pdL
    simp only [f0, f1, f2]
    rfl
  have hC : Cl [p0a, p0b, p0c, p0d, p1a, p1b, p2a, p2b] [q0a, q0b, q0c, q0d, q1a, q1b, q2a, q2b] := ⟨.inr ⟨hp0a, hq0a⟩, .inr ⟨hp0b, hq0b⟩, .inr ⟨hp0c, hq0c⟩, .inr ⟨hp0d, hq0d⟩, .inr ⟨hp1a, hq1a⟩, .inr ⟨hp1b, hq1b⟩, .inr ⟨hp2a, hq2a⟩, .inr ⟨hp2b, hq2b⟩, trivial⟩
  rw [hT, hU, less_val _ _ hC]
  clear hC hT hU
  clear e0 f0
  have ip0a := isDB_in hp0a
  have ip0b := isDB_in hp0b
  have ip0c := isDB_in hp0c
  have ip0d := isDB_in hp0d
  have iq0a := isDB_in hq0a
  have iq0b := isDB_in hq0b
  have iq0c := isDB_in hq0c
  have iq0d := isDB_in hq0d
  clear e1 f1
  have ip1a := isDB_in hp1a
  have ip1b := isDB_in hp1b
  have iq1a := isDB_in hq1a
  have iq1b := isDB_in hq1b
  clear e2 f2
  have ip2a := isDB_in hp2a
  have ip2b := isDB_in hp2b
  have iq2a := isDB_in hq2a
  have iq2b := isDB_in hq2b
  have se0 : ((p0a.toNat * 1000 + p0b.toNat * 100 + p0c.toNat * 10 + p0d.toNat * 1 : Nat) : Int) = (y) + 53328 := by omega
  have sf0 : ((q0a.toNat * 1000 + q0b.toNat * 100 + q0c.toNat * 10 + q0d.toNat * 1 : Nat) : Int) = (y') + 53328 := by omega
  have se1 : ((p1a.toNat * 10 + p1b.toNat * 1 : Nat) : Int) = (m) + 528 := by omega
  have sf1 : ((q1a.toNat * 10 + q1b.toNat * 1 : Nat) : Int) = (m') + 528 := by omega
  have se2 : ((p2a.toNat * 10 + p2b.toNat * 1 : Nat) : Int) = (d) + 528 := by omega
  have sf2 : ((q2a.toNat * 10 + q2b.toNat * 1 : Nat) : Int) = (d') + 528 := by omega
  clear n0 r0 n1 r1 n2 r2
  have key : (val [p0a, p0b, p0c, p0d, p1a, p1b, p2a, p2b] < val [q0a, q0b, q0c, q0d, q1a, q1b, q2a, q2b]) ↔ nb y m d < nb y' m' d' := by
    rw [← hlt]
    simp only [val, List.length_cons, List.length_nil, Nat.zero_add, Nat.reduceAdd, Nat.reducePow]
    try generalize (45 : UInt8).toNat = z45
    try generalize (87 : UInt8).toNat = z87
    omega
  exact decide_eq_decide.2 key

theorem lex_2 (y m d y' m' d' : Int) (hv : VD y m d) (hv' : VD y' m' d') (_hw : 0 ≤ wkY y (nb y m d)) (_hw' : 0 ≤ wkY y' (nb y' m' d')) : Op.bytesLess (pdL 2 y m d) (pdL 2 y' m' d') = decide (nb y m d < nb y' m' d') := by
  have hlt := yd_lt y m d y' m' d' hv hv'
  have hl := lg_le y m
  have hl' := lg_le y' m'
  have hy := yd_in y m d hv
  have hy' := yd_in y' m' d' hv'
  have hwb := week_bounds y m d hv
  have hwb' := week_bounds y' m' d' hv'
  have hw9 := wkY_le y m d hv
  have hw9' := wkY_le y' m' d' hv'
  have hwd := wd_lt (nb y m d)
  have hwd' := wd_lt (nb y' m' d')
  obtain ⟨v0, v1, v2, v3, v4, v5⟩ := hv
  obtain ⟨x0, x1, x2, x3, x4, x5⟩ := hv'
  obtain ⟨p0a, p0b, p0c, p0d, e0, hp0a, hp0b, hp0c, hp0d, n0⟩ := pad_4 (y) (by omega) (by show (y).toNat < 10000; omega)
  obtain ⟨q0a, q0b, q0c, q0d, f0, hq0a, hq0b, hq0c, hq0d, r0⟩ := pad_4 (y') (by omega) (by show (y').toNat < 10000; omega)
  rw [nm_4] at n0 r0
  obtain ⟨p1a, p1b, p1c, e1, hp1a, hp1b, hp1c, n1⟩ := pad_3 (yd y m d) (by omega) (by show (yd y m d).toNat < 1000; omega)
  obtain ⟨q1a, q1b, q1c, f1, hq1a, hq1b, hq1c, r1⟩ := pad_3 (yd y' m' d') (by omega) (by show (yd y' m' d').toNat < 1000; omega)
  rw [nm_3] at n1 r1
  have hT : pdL 2 y m d = [p0a, p0b, p0c, p0d, 45, p1a, p1b, p1c] := by
    unfold pdL
    simp only [e0, e1]
    rfl
  have hU : pdL 2 y' m' d' = [q0a, q0b, q0c, q0d, 45, q1a, q1b, q1c] := by
    unfold pdL
    simp only [f0, f1]
    rfl
  have hC : Cl [p0a, p0b, p0c, p0d, 45, p1a, p1b, p1c] [q0a, q0b, q0c, q0d, 45, q1a, q1b, q1c] := ⟨.inr ⟨hp0a, hq0a⟩, .inr ⟨hp0b, hq0b⟩, .inr ⟨hp0c, hq0c⟩, .inr ⟨hp0d, hq0d⟩, .inl rfl, .inr ⟨hp1a, hq1a⟩, .inr ⟨hp1b, hq1b⟩, .inr ⟨hp1c, hq1c⟩, trivial⟩
  rw [hT, hU, less_val _ _ hC]
  clear hC hT hU
  clear e0 f0
  have ip0a := isDB_in hp0a
  have ip0b := isDB_in hp0b
  have ip0c := isDB_in hp0c
  have ip0d := isDB_in hp0d
  have iq0a := isDB_in hq0a
  have iq0b := isDB_in hq0b
  have iq0c := isDB_in hq0c
  have iq0d := isDB_in hq0d
  clear e1 f1
  have ip1a := isDB_in hp1a
  have ip1b := isDB_in hp1b
  have ip1c := isDB_in hp1c
  have iq1a := isDB_in hq1a
  have iq1b := isDB_in hq1b
  have iq1c := isDB_in hq1c
  have se0 : ((p0a.toNat * 1000 + p0b.toNat * 100 + p0c.toNat * 10 + p0d.toNat * 1 : Nat) : Int) = (y) + 53328 := by omega
  have sf0 : ((q0a.toNat * 1000 + q0b.toNat * 100 + q0c.toNat * 10 + q0d.toNat * 1 : Nat) : Int) = (y') + 53328 := by omega
  have se1 : ((p1a.toNat * 100 + p1b.toNat * 10 + p1c.toNat * 1 : Nat) : Int) = (yd y m d) + 5328 := by omega
  have sf1 : ((q1a.toNat * 100 + q1b.toNat * 10 + q1c.toNat * 1 : Nat) : Int) = (yd y' m' d') + 5328 := by omega
  clear n0 r0 n1 r1
  have key : (val [p0a, p0b, p0c, p0d, 45, p1a, p1b, p1c] < val [q0a, q0b, q0c, q0d, 45, q1a, q1b, q1c]) ↔ nb y m d < nb y' m' d' := by
    rw [← hlt]
    simp only [val, List.length_cons, List.length_nil, Nat.zero_add, Nat.reduceAdd, Nat.reducePow]
    try generalize (45 : UInt8).toNat = z45
    try generalize (87 : UInt8).toNat = z87
    omega
  exact decide_eq_decide.2 key

theorem lex_4 (y m d y' m' d' : Int) (hv : VD y m d) (hv' : VD y' m' d') (hw : 0 ≤ wkY y (nb y m d)) (hw' : 0 ≤ wkY y' (nb y' m' d')) : Op.bytesLess (pdL 4 y m d) (pdL 4 y' m' d') = decide (nb y m d < nb y' m' d') := by
  have hlt := wk_lt y m d y' m' d' hv hv'
  have hl := lg_le y m
  have hl' := lg_le y' m'
  have hy := yd_in y m d hv
  have hy' := yd_in y' m' d' hv'
  have hwb := week_bounds y m d hv
  have hwb' := week_bounds y' m' d' hv'
  have hw9 := wkY_le y m d hv
  have hw9' := wkY_le y' m' d' hv'
  have hwd := wd_lt (nb y m d)
  have hwd' := wd_lt (nb y' m' d')
  obtain ⟨v0, v1, v2, v3, v4, v5⟩ := hv
  obtain ⟨x0, x1, x2, x3, x4, x5⟩ := hv'
  obtain ⟨p0a, p0b, p0c, p0d, e0, hp0a, hp0b, hp0c, hp0d, n0⟩ := pad_4 (wkY y (nb y m d)) (by omega) (by show (wkY y (nb y m d)).toNat < 10000; omega)
  obtain ⟨q0a, q0b, q0c, q0d, f0, hq0a, hq0b, hq0c, hq0d, r0⟩ := pad_4 (wkY y' (nb y' m' d')) (by omega) (by show (wkY y' (nb y' m' d')).toNat < 10000; omega)
  rw [nm_4] at n0 r0
  obtain ⟨p1a, p1b, e1, hp1a, hp1b, n1⟩ := pad_2 (wkW y (nb y m d)) (by omega) (by show (wkW y (nb y m d)).toNat < 100; omega)
  obtain ⟨q1a, q1b, f1, hq1a, hq1b, r1⟩ := pad_2 (wkW y' (nb y' m' d')) (by omega) (by show (wkW y' (nb y' m' d')).toNat < 100; omega)
  rw [nm_2] at n1 r1
  obtain ⟨p2a, e2, hp2a, n2⟩ := pad_1 (wd (nb y m d) + 1) (by omega) (by show (wd (nb y m d) + 1).toNat < 10; omega)
  obtain ⟨q2a, f2, hq2a, r2⟩ := pad_1 (wd (nb y' m' d') + 1) (by omega) (by show (wd (nb y' m' d') + 1).toNat < 10; omega)
  rw [nm_1] at n2 r2
  have hT : pdL 4 y m d = [p0a, p0b, p0c, p0d, 45, 87, p1a, p1b, 45, p2a] := by
    unfold pdL wtL
    simp only [e0, e1, e2]
    rfl
  have hU : pdL 4 y' m' d' = [q0a, q0b, q0c, q0d, 45, 87, q1a, q1b, 45, q2a] := by
    unfold pdL wtL
    simp only [f0, f1, f2]
    rfl
  have hC : Cl [p0a, p0b, p0c, p0d, 45, 87, p1a, p1b, 45, p2a] [q0a, q0b, q0c, q0d, 45, 87, q1a, q1b, 45, q2a] := ⟨.inr ⟨hp0a, hq0a⟩, .inr ⟨hp0b, hq0b⟩, .inr ⟨hp0c, hq0c⟩, .inr ⟨hp0d, hq0d⟩, .inl rfl, .inl rfl, .inr ⟨hp1a, hq1a⟩, .inr ⟨hp1b, hq1b⟩, .inl rfl, .inr ⟨hp2a, hq2a⟩, trivial⟩
  rw [hT, hU, less_val _ _ hC]
  clear hC hT hU
  clear e0 f0
  have ip0a := isDB_in hp0a
  have ip0b := isDB_in hp0b
  have ip0c := isDB_in hp0c
  have ip0d := isDB_in hp0d
  have iq0a := isDB_in hq0a
  have iq0b := isDB_in hq0b
  have iq0c := isDB_in hq0c
  have iq0d := isDB_in hq0d
  clear e1 f1
  have ip1a := isDB_in hp1a
  have ip1b := isDB_in hp1b
  have iq1a := isDB_in hq1a
  have iq1b := isDB_in hq1b
  clear e2 f2
  have ip2a := isDB_in hp2a
  have iq2a := isDB_in hq2a
  have se0 : ((p0a.toNat * 1000 + p0b.toNat * 100 + p0c.toNat * 10 + p0d.toNat * 1 : Nat) : Int) = (wkY y (nb y m d)) + 53328 := by omega
  have sf0 : ((q0a.toNat * 1000 + q0b.toNat * 100 + q0c.toNat * 10 + q0d.toNat * 1 : Nat) : Int) = (wkY y' (nb y' m' d')) + 53328 := by omega
  have se1 : ((p1a.toNat * 10 + p1b.toNat * 1 : Nat) : Int) = (wkW y (nb y m d)) + 528 := by omega
  have sf1 : ((q1a.toNat * 10 + q1b.toNat * 1 : Nat) : Int) = (wkW y' (nb y' m' d')) + 528 := by omega
  have se2 : ((p2a.toNat * 1 : Nat) : Int) = (wd (nb y m d) + 1) + 48 := by omega
  have sf2 : ((q2a.toNat * 1 : Nat) : Int) = (wd (nb y' m' d') + 1) + 48 := by omega
  clear n0 r0 n1 r1 n2 r2
  have key : (val [p0a, p0b, p0c, p0d, 45, 87, p1a, p1b, 45, p2a] < val [q0a, q0b, q0c, q0d, 45, 87, q1a, q1b, 45, q2a]) ↔ nb y m d < nb y' m' d' := by
    rw [← hlt]
    simp only [val, List.length_cons, List.length_nil, Nat.zero_add, Nat.reduceAdd, Nat.reducePow]
    try generalize (45 : UInt8).toNat = z45
    try generalize (87 : UInt8).toNat = z87
    omega
  exact decide_eq_decide.2 key

end Go.Proofs.YtjpglgemnaknhaaGreatDoor
