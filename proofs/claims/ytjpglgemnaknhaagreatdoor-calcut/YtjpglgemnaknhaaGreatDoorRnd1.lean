/-
  A day's own texts are read as the day.
-/
import Derived.Test.YtjpglgemnaknhaaGreatDoorPprint
import Derived.Test.YtjpglgemnaknhaaGreatDoorPd
namespace Go.Proofs.YtjpglgemnaknhaaGreatDoor
open Go.RowKit
set_option maxRecDepth 100000

theorem dec_dig (n : Nat) : ∀ c ∈ Lib.decDigits n, isDB c = true := by
  induction n using Nat.strongRecOn with
  | _ n ih =>
    have hdg : isDB (dgt n) = true := by
      unfold isDB
      rw [dgt_toNat]
      have : n % 10 < 10 := Nat.mod_lt _ (by omega)
      simp
      omega
    intro c hc
    by_cases h : 10 ≤ n
    · rw [dec_big n h] at hc
      rcases List.mem_append.1 hc with hc | hc
      · exact ih (n / 10) (by omega) c hc
      · rw [List.mem_singleton.1 hc]; exact hdg
    · rw [dec_small n (by omega)] at hc
      rw [List.mem_singleton.1 hc]; exact hdg
theorem dec_nm (n : Nat) : nm (Lib.decDigits n) = n := by
  induction n using Nat.strongRecOn with
  | _ n ih =>
    by_cases h : 10 ≤ n
    · rw [dec_big n h, nm, nmA_snoc, dgt_toNat]
      have := ih (n / 10) (by omega)
      unfold nm at this
      rw [this]
      omega
    · rw [dec_small n (by omega)]
      show 0 * 10 + ((dgt n).toNat - 48) = n
      rw [dgt_toNat]
      omega
theorem padD_dig (n k : Nat) : ∀ c ∈ padD n k, isDB c = true := by
  intro c hc
  unfold padD at hc
  rcases List.mem_append.1 hc with hc | hc
  · rw [List.eq_of_mem_replicate hc]; decide
  · exact dec_dig n c hc
theorem nm_zeros (j : Nat) (l : List UInt8) : nm (List.replicate j 48 ++ l) = nm l := by
  induction j with
  | zero => rfl
  | succ j ih =>
    rw [List.replicate_succ, List.cons_append]
    show nmA (0 * 10 + ((48 : UInt8).toNat - 48)) (List.replicate j 48 ++ l) = nm l
    exact ih
theorem padD_nm (n k : Nat) : nm (padD n k) = n := by
  unfold padD
  rw [nm_zeros, dec_nm]

theorem pad_1 (n : Int) (h0 : 0 ≤ n) (hn : n.toNat < 10 ^ 1) : ∃ c0 : UInt8, padD n.toNat 1 = [c0] ∧ isDB c0 = true ∧ (nm [c0] : Int) = n := by
  have hl := padD_len n.toNat 1 (nDig_lt 1 n.toNat (by omega) hn)
  have hd := padD_dig n.toNat 1
  have hm := padD_nm n.toNat 1
  match hq : padD n.toNat 1, hl with
  | [c0], _ =>
    rw [hq] at hd hm
    exact ⟨c0, rfl, hd c0 (by simp), by rw [hm]; omega⟩
theorem pad_2 (n : Int) (h0 : 0 ≤ n) (hn : n.toNat < 10 ^ 2) : ∃ c0 c1 : UInt8, padD n.toNat 2 = [c0, c1] ∧ isDB c0 = true ∧ isDB c1 = true ∧ (nm [c0, c1] : Int) = n := by
  have hl := padD_len n.toNat 2 (nDig_lt 2 n.toNat (by omega) hn)
  have hd := padD_dig n.toNat 2
  have hm := padD_nm n.toNat 2
  match hq : padD n.toNat 2, hl with
  | [c0, c1], _ =>
    rw [hq] at hd hm
    exact ⟨c0, c1, rfl, hd c0 (by simp), hd c1 (by simp), by rw [hm]; omega⟩
theorem pad_3 (n : Int) (h0 : 0 ≤ n) (hn : n.toNat < 10 ^ 3) : ∃ c0 c1 c2 : UInt8, padD n.toNat 3 = [c0, c1, c2] ∧ isDB c0 = true ∧ isDB c1 = true ∧ isDB c2 = true ∧ (nm [c0, c1, c2] : Int) = n := by
  have hl := padD_len n.toNat 3 (nDig_lt 3 n.toNat (by omega) hn)
  have hd := padD_dig n.toNat 3
  have hm := padD_nm n.toNat 3
  match hq : padD n.toNat 3, hl with
  | [c0, c1, c2], _ =>
    rw [hq] at hd hm
    exact ⟨c0, c1, c2, rfl, hd c0 (by simp), hd c1 (by simp), hd c2 (by simp), by rw [hm]; omega⟩
theorem pad_4 (n : Int) (h0 : 0 ≤ n) (hn : n.toNat < 10 ^ 4) : ∃ c0 c1 c2 c3 : UInt8, padD n.toNat 4 = [c0, c1, c2, c3] ∧ isDB c0 = true ∧ isDB c1 = true ∧ isDB c2 = true ∧ isDB c3 = true ∧ (nm [c0, c1, c2, c3] : Int) = n := by
  have hl := padD_len n.toNat 4 (nDig_lt 4 n.toNat (by omega) hn)
  have hd := padD_dig n.toNat 4
  have hm := padD_nm n.toNat 4
  match hq : padD n.toNat 4, hl with
  | [c0, c1, c2, c3], _ =>
    rw [hq] at hd hm
    exact ⟨c0, c1, c2, c3, rfl, hd c0 (by simp), hd c1 (by simp), hd c2 (by simp), hd c3 (by simp), by rw [hm]; omega⟩

theorem week_ok (y m d : Int) (hv : VD y m d) : OkW (wkY y (nb y m d)) (wkW y (nb y m d)) (wd (nb y m d) + 1) ∧ wkD (wkY y (nb y m d)) (wkW y (nb y m d)) (wd (nb y m d) + 1) = nb y m d := by
  have hn := nb_year y m d hv
  have hb := week_bounds y m d hv
  have h9 := wkY_le y m d hv
  obtain ⟨h1, h2⟩ := wkY_is y (nb y m d) hn.1 hn.2
  have h3 := wk_in _ _ h1 h2
  have h4 := wk_num (wkY y (nb y m d)) (nb y m d)
  have h5 := wd_lt (nb y m d)
  have h6 : wkW y (nb y m d) = (nb y m d - wkS (wkY y (nb y m d))) / 7 + 1 := by unfold wkW; rw [h4]
  refine ⟨⟨hb.1, h9, hb.2.2.1, by omega, by omega, by omega⟩, ?_⟩
  unfold wkD
  omega

theorem isDB_no {c : UInt8} (h : isDB c = true) : ¬ c = 45 ∧ ¬ c = 87 := by
  constructor
  · intro e; rw [e] at h; revert h; decide
  · intro e; rw [e] at h; revert h; decide

theorem rnd_0 (y m d : Int) (hv : VD y m d) (_hw : 0 ≤ wkY y (nb y m d)) (t : ByteArray) (ht : t.data.toList = pdL 0 y m d) : MK t 0 ∧ fitL t.data.toList (SS DS) 0 0 = (0, 0) ∧ shA t 0 = rT y m d 0 0 := by
  have hl := lg_le y m
  have hy := yd_in y m d hv
  have hwb := week_bounds y m d hv
  have hw9 := wkY_le y m d hv
  have hwd := wd_lt (nb y m d)
  obtain ⟨v0, v1, v2, v3, v4, v5⟩ := hv
  obtain ⟨p0a, p0b, p0c, p0d, e0, hp0a, hp0b, hp0c, hp0d, n0⟩ := pad_4 (y) (by omega) (by show (y).toNat < 10000; omega)
  obtain ⟨p1a, p1b, e1, hp1a, hp1b, n1⟩ := pad_2 (m) (by omega) (by show (m).toNat < 100; omega)
  obtain ⟨p2a, p2b, e2, hp2a, hp2b, n2⟩ := pad_2 (d) (by omega) (by show (d).toNat < 100; omega)
  have hT : t.data.toList = [p0a, p0b, p0c, p0d, 45, p1a, p1b, 45, p2a, p2b] := by
    rw [ht]
    unfold pdL
    simp only [e0, e1, e2]
    rfl
  refine ⟨?_, ?_, ?_⟩
  · unfold MK
    rw [hT]
    simp only [List.map_cons, List.map_nil, hp0a, hp0b, hp0c, hp0d, hp1a, hp1b, hp2a, hp2b]
    decide +kernel
  · rw [hT]
    obtain ⟨hp0ax, hp0ay⟩ := isDB_no hp0a
    obtain ⟨hp0bx, hp0by⟩ := isDB_no hp0b
    obtain ⟨hp0cx, hp0cy⟩ := isDB_no hp0c
    obtain ⟨hp0dx, hp0dy⟩ := isDB_no hp0d
    obtain ⟨hp1ax, hp1ay⟩ := isDB_no hp1a
    obtain ⟨hp1bx, hp1by⟩ := isDB_no hp1b
    obtain ⟨hp2ax, hp2ay⟩ := isDB_no hp2a
    obtain ⟨hp2bx, hp2by⟩ := isDB_no hp2b
    clear ht hT e0 e1 e2
    have z45 : isDB 45 = false := by decide
    have z87 : isDB 87 = false := by decide
    simp [fitL, SS, DS, S0, S1, S2, S3, S4, S5, rl, fitB, *]
  · have t0 : nt t 0 4 = y := by
      unfold nt
      rw [hT]
      exact n0
    have t1 : nt t 5 2 = m := by
      unfold nt
      rw [hT]
      exact n1
    have t2 : nt t 8 2 = d := by
      unfold nt
      rw [hT]
      exact n2
    show rdV 5 8 (nt t 0 4) (nt t 5 2) (nt t 8 2) = _
    rw [t0, t1, t2]
    unfold rdV
    rw [if_pos ⟨v2, v3⟩, if_pos ⟨v0, v1, v2, v3, v4, v5⟩]
    rfl

theorem rnd_1 (y m d : Int) (hv : VD y m d) (_hw : 0 ≤ wkY y (nb y m d)) (t : ByteArray) (ht : t.data.toList = pdL 1 y m d) : MK t 1 ∧ fitL t.data.toList (SS DS) 0 0 = (1, 0) ∧ shA t 1 = rT y m d 0 0 := by
  have hl := lg_le y m
  have hy := yd_in y m d hv
  have hwb := week_bounds y m d hv
  have hw9 := wkY_le y m d hv
  have hwd := wd_lt (nb y m d)
  obtain ⟨v0, v1, v2, v3, v4, v5⟩ := hv
  obtain ⟨p0a, p0b, p0c, p0d, e0, hp0a, hp0b, hp0c, hp0d, n0⟩ := pad_4 (y) (by omega) (by show (y).toNat < 10000; omega)
  obtain ⟨p1a, p1b, e1, hp1a, hp1b, n1⟩ := pad_2 (m) (by omega) (by show (m).toNat < 100; omega)
  obtain ⟨p2a, p2b, e2, hp2a, hp2b, n2⟩ := pad_2 (d) (by omega) (by show (d).toNat < 100; omega)
  have hT : t.data.toList = [p0a, p0b, p0c, p0d, p1a, p1b, p2a, p2b] := by
    rw [ht]
    unfold pdL
    simp only [e0, e1, e2]
    rfl
  refine ⟨?_, ?_, ?_⟩
  · unfold MK
    rw [hT]
    simp only [List.map_cons, List.map_nil, hp0a, hp0b, hp0c, hp0d, hp1a, hp1b, hp2a, hp2b]
    decide +kernel
  · rw [hT]
    obtain ⟨hp0ax, hp0ay⟩ := isDB_no hp0a
    obtain ⟨hp0bx, hp0by⟩ := isDB_no hp0b
    obtain ⟨hp0cx, hp0cy⟩ := isDB_no hp0c
    obtain ⟨hp0dx, hp0dy⟩ := isDB_no hp0d
    obtain ⟨hp1ax, hp1ay⟩ := isDB_no hp1a
    obtain ⟨hp1bx, hp1by⟩ := isDB_no hp1b
    obtain ⟨hp2ax, hp2ay⟩ := isDB_no hp2a
    obtain ⟨hp2bx, hp2by⟩ := isDB_no hp2b
    clear ht hT e0 e1 e2
    have z45 : isDB 45 = false := by decide
    have z87 : isDB 87 = false := by decide
    simp [fitL, SS, DS, S0, S1, S2, S3, S4, S5, rl, fitB, *]
  · have t0 : nt t 0 4 = y := by
      unfold nt
      rw [hT]
      exact n0
    have t1 : nt t 4 2 = m := by
      unfold nt
      rw [hT]
      exact n1
    have t2 : nt t 6 2 = d := by
      unfold nt
      rw [hT]
      exact n2
    show rdV 4 6 (nt t 0 4) (nt t 4 2) (nt t 6 2) = _
    rw [t0, t1, t2]
    unfold rdV
    rw [if_pos ⟨v2, v3⟩, if_pos ⟨v0, v1, v2, v3, v4, v5⟩]
    rfl

theorem rnd_2 (y m d : Int) (hv : VD y m d) (_hw : 0 ≤ wkY y (nb y m d)) (t : ByteArray) (ht : t.data.toList = pdL 2 y m d) : MK t 2 ∧ fitL t.data.toList (SS DS) 0 0 = (2, 0) ∧ shA t 2 = rT y m d 0 0 := by
  have hl := lg_le y m
  have hy := yd_in y m d hv
  have hwb := week_bounds y m d hv
  have hw9 := wkY_le y m d hv
  have hwd := wd_lt (nb y m d)
  obtain ⟨v0, v1, v2, v3, v4, v5⟩ := hv
  obtain ⟨p0a, p0b, p0c, p0d, e0, hp0a, hp0b, hp0c, hp0d, n0⟩ := pad_4 (y) (by omega) (by show (y).toNat < 10000; omega)
  obtain ⟨p1a, p1b, p1c, e1, hp1a, hp1b, hp1c, n1⟩ := pad_3 (yd y m d) (by omega) (by show (yd y m d).toNat < 1000; omega)
  have hT : t.data.toList = [p0a, p0b, p0c, p0d, 45, p1a, p1b, p1c] := by
    rw [ht]
    unfold pdL
    simp only [e0, e1]
    rfl
  refine ⟨?_, ?_, ?_⟩
  · unfold MK
    rw [hT]
    simp only [List.map_cons, List.map_nil, hp0a, hp0b, hp0c, hp0d, hp1a, hp1b, hp1c]
    decide +kernel
  · rw [hT]
    obtain ⟨hp0ax, hp0ay⟩ := isDB_no hp0a
    obtain ⟨hp0bx, hp0by⟩ := isDB_no hp0b
    obtain ⟨hp0cx, hp0cy⟩ := isDB_no hp0c
    obtain ⟨hp0dx, hp0dy⟩ := isDB_no hp0d
    obtain ⟨hp1ax, hp1ay⟩ := isDB_no hp1a
    obtain ⟨hp1bx, hp1by⟩ := isDB_no hp1b
    obtain ⟨hp1cx, hp1cy⟩ := isDB_no hp1c
    clear ht hT e0 e1
    have z45 : isDB 45 = false := by decide
    have z87 : isDB 87 = false := by decide
    simp [fitL, SS, DS, S0, S1, S2, S3, S4, S5, rl, fitB, *]
  · have t0 : nt t 0 4 = y := by
      unfold nt
      rw [hT]
      exact n0
    have t1 : nt t 5 3 = yd y m d := by
      unfold nt
      rw [hT]
      exact n1
    show ryV 5 (nt t 0 4) (nt t 5 3) = _
    rw [t0, t1]
    have hnb : ys y + yd y m d - 1 = nb y m d := by unfold yd nb; omega
    have hy2 := nb_year y m d ⟨v0, v1, v2, v3, v4, v5⟩
    have hyn := ys_next y
    unfold ryV
    rw [if_pos ⟨hy.1, by omega⟩, hnb]
    obtain ⟨q0, q1, q2⟩ := dt_eq y m d _ ⟨v0, v1, v2, v3, v4, v5⟩ rfl
    rw [← q0, ← q1, ← q2]
    rfl

theorem rnd_3 (y m d : Int) (hv : VD y m d) (_hw : 0 ≤ wkY y (nb y m d)) (t : ByteArray) (ht : t.data.toList = pdL 3 y m d) : MK t 3 ∧ fitL t.data.toList (SS DS) 0 0 = (3, 0) ∧ shA t 3 = rT y m d 0 0 := by
  have hl := lg_le y m
  have hy := yd_in y m d hv
  have hwb := week_bounds y m d hv
  have hw9 := wkY_le y m d hv
  have hwd := wd_lt (nb y m d)
  obtain ⟨v0, v1, v2, v3, v4, v5⟩ := hv
  obtain ⟨p0a, p0b, p0c, p0d, e0, hp0a, hp0b, hp0c, hp0d, n0⟩ := pad_4 (y) (by omega) (by show (y).toNat < 10000; omega)
  obtain ⟨p1a, p1b, p1c, e1, hp1a, hp1b, hp1c, n1⟩ := pad_3 (yd y m d) (by omega) (by show (yd y m d).toNat < 1000; omega)
  have hT : t.data.toList = [p0a, p0b, p0c, p0d, p1a, p1b, p1c] := by
    rw [ht]
    unfold pdL
    simp only [e0, e1]
    rfl
  refine ⟨?_, ?_, ?_⟩
  · unfold MK
    rw [hT]
    simp only [List.map_cons, List.map_nil, hp0a, hp0b, hp0c, hp0d, hp1a, hp1b, hp1c]
    decide +kernel
  · rw [hT]
    obtain ⟨hp0ax, hp0ay⟩ := isDB_no hp0a
    obtain ⟨hp0bx, hp0by⟩ := isDB_no hp0b
    obtain ⟨hp0cx, hp0cy⟩ := isDB_no hp0c
    obtain ⟨hp0dx, hp0dy⟩ := isDB_no hp0d
    obtain ⟨hp1ax, hp1ay⟩ := isDB_no hp1a
    obtain ⟨hp1bx, hp1by⟩ := isDB_no hp1b
    obtain ⟨hp1cx, hp1cy⟩ := isDB_no hp1c
    clear ht hT e0 e1
    have z45 : isDB 45 = false := by decide
    have z87 : isDB 87 = false := by decide
    simp [fitL, SS, DS, S0, S1, S2, S3, S4, S5, rl, fitB, *]
  · have t0 : nt t 0 4 = y := by
      unfold nt
      rw [hT]
      exact n0
    have t1 : nt t 4 3 = yd y m d := by
      unfold nt
      rw [hT]
      exact n1
    show ryV 4 (nt t 0 4) (nt t 4 3) = _
    rw [t0, t1]
    have hnb : ys y + yd y m d - 1 = nb y m d := by unfold yd nb; omega
    have hy2 := nb_year y m d ⟨v0, v1, v2, v3, v4, v5⟩
    have hyn := ys_next y
    unfold ryV
    rw [if_pos ⟨hy.1, by omega⟩, hnb]
    obtain ⟨q0, q1, q2⟩ := dt_eq y m d _ ⟨v0, v1, v2, v3, v4, v5⟩ rfl
    rw [← q0, ← q1, ← q2]
    rfl

theorem rnd_4 (y m d : Int) (hv : VD y m d) (hw : 0 ≤ wkY y (nb y m d)) (t : ByteArray) (ht : t.data.toList = pdL 4 y m d) : MK t 4 ∧ fitL t.data.toList (SS DS) 0 0 = (4, 0) ∧ shA t 4 = rT y m d 0 0 := by
  have hl := lg_le y m
  have hy := yd_in y m d hv
  have hwb := week_bounds y m d hv
  have hw9 := wkY_le y m d hv
  have hwd := wd_lt (nb y m d)
  obtain ⟨v0, v1, v2, v3, v4, v5⟩ := hv
  obtain ⟨p0a, p0b, p0c, p0d, e0, hp0a, hp0b, hp0c, hp0d, n0⟩ := pad_4 (wkY y (nb y m d)) (by omega) (by show (wkY y (nb y m d)).toNat < 10000; omega)
  obtain ⟨p1a, p1b, e1, hp1a, hp1b, n1⟩ := pad_2 (wkW y (nb y m d)) (by omega) (by show (wkW y (nb y m d)).toNat < 100; omega)
  obtain ⟨p2a, e2, hp2a, n2⟩ := pad_1 (wd (nb y m d) + 1) (by omega) (by show (wd (nb y m d) + 1).toNat < 10; omega)
  have hT : t.data.toList = [p0a, p0b, p0c, p0d, 45, 87, p1a, p1b, 45, p2a] := by
    rw [ht]
    unfold pdL wtL
    simp only [e0, e1, e2]
    rfl
  refine ⟨?_, ?_, ?_⟩
  · unfold MK
    rw [hT]
    simp only [List.map_cons, List.map_nil, hp0a, hp0b, hp0c, hp0d, hp1a, hp1b, hp2a]
    decide +kernel
  · rw [hT]
    obtain ⟨hp0ax, hp0ay⟩ := isDB_no hp0a
    obtain ⟨hp0bx, hp0by⟩ := isDB_no hp0b
    obtain ⟨hp0cx, hp0cy⟩ := isDB_no hp0c
    obtain ⟨hp0dx, hp0dy⟩ := isDB_no hp0d
    obtain ⟨hp1ax, hp1ay⟩ := isDB_no hp1a
    obtain ⟨hp1bx, hp1by⟩ := isDB_no hp1b
    obtain ⟨hp2ax, hp2ay⟩ := isDB_no hp2a
    clear ht hT e0 e1 e2
    have z45 : isDB 45 = false := by decide
    have z87 : isDB 87 = false := by decide
    simp [fitL, SS, DS, S0, S1, S2, S3, S4, S5, rl, fitB, *]
  · have t0 : nt t 0 4 = wkY y (nb y m d) := by
      unfold nt
      rw [hT]
      exact n0
    have t1 : nt t 6 2 = wkW y (nb y m d) := by
      unfold nt
      rw [hT]
      exact n1
    have t2 : nt t 9 1 = wd (nb y m d) + 1 := by
      unfold nt
      rw [hT]
      exact n2
    show rwV 6 9 (nt t 0 4) (nt t 6 2) (nt t 9 1) = _
    rw [t0, t1, t2]
    obtain ⟨ok, hk⟩ := week_ok y m d ⟨v0, v1, v2, v3, v4, v5⟩
    have hr := nb_range y m d ⟨v0, v1, v2, v3, v4, v5⟩
    unfold rwV
    rw [if_pos ⟨ok.2.2.1, ok.2.2.2.1⟩, if_pos ⟨ok.2.2.2.2.1, ok.2.2.2.2.2⟩, hk]
    unfold ofT
    rw [if_pos hr]
    obtain ⟨q0, q1, q2⟩ := dt_eq y m d _ ⟨v0, v1, v2, v3, v4, v5⟩ rfl
    rw [← q0, ← q1, ← q2]
    rfl

theorem rnd_5 (y m d : Int) (hv : VD y m d) (hw : 0 ≤ wkY y (nb y m d)) (t : ByteArray) (ht : t.data.toList = pdL 5 y m d) : MK t 5 ∧ fitL t.data.toList (SS DS) 0 0 = (5, 0) ∧ shA t 5 = rT y m d 0 0 := by
  have hl := lg_le y m
  have hy := yd_in y m d hv
  have hwb := week_bounds y m d hv
  have hw9 := wkY_le y m d hv
  have hwd := wd_lt (nb y m d)
  obtain ⟨v0, v1, v2, v3, v4, v5⟩ := hv
  obtain ⟨p0a, p0b, p0c, p0d, e0, hp0a, hp0b, hp0c, hp0d, n0⟩ := pad_4 (wkY y (nb y m d)) (by omega) (by show (wkY y (nb y m d)).toNat < 10000; omega)
  obtain ⟨p1a, p1b, e1, hp1a, hp1b, n1⟩ := pad_2 (wkW y (nb y m d)) (by omega) (by show (wkW y (nb y m d)).toNat < 100; omega)
  obtain ⟨p2a, e2, hp2a, n2⟩ := pad_1 (wd (nb y m d) + 1) (by omega) (by show (wd (nb y m d) + 1).toNat < 10; omega)
  have hT : t.data.toList = [p0a, p0b, p0c, p0d, 87, p1a, p1b, p2a] := by
    rw [ht]
    unfold pdL wtL
    simp only [e0, e1, e2]
    rfl
  refine ⟨?_, ?_, ?_⟩
  · unfold MK
    rw [hT]
    simp only [List.map_cons, List.map_nil, hp0a, hp0b, hp0c, hp0d, hp1a, hp1b, hp2a]
    decide +kernel
  · rw [hT]
    obtain ⟨hp0ax, hp0ay⟩ := isDB_no hp0a
    obtain ⟨hp0bx, hp0by⟩ := isDB_no hp0b
    obtain ⟨hp0cx, hp0cy⟩ := isDB_no hp0c
    obtain ⟨hp0dx, hp0dy⟩ := isDB_no hp0d
    obtain ⟨hp1ax, hp1ay⟩ := isDB_no hp1a
    obtain ⟨hp1bx, hp1by⟩ := isDB_no hp1b
    obtain ⟨hp2ax, hp2ay⟩ := isDB_no hp2a
    clear ht hT e0 e1 e2
    have z45 : isDB 45 = false := by decide
    have z87 : isDB 87 = false := by decide
    simp [fitL, SS, DS, S0, S1, S2, S3, S4, S5, rl, fitB, *]
  · have t0 : nt t 0 4 = wkY y (nb y m d) := by
      unfold nt
      rw [hT]
      exact n0
    have t1 : nt t 5 2 = wkW y (nb y m d) := by
      unfold nt
      rw [hT]
      exact n1
    have t2 : nt t 7 1 = wd (nb y m d) + 1 := by
      unfold nt
      rw [hT]
      exact n2
    show rwV 5 7 (nt t 0 4) (nt t 5 2) (nt t 7 1) = _
    rw [t0, t1, t2]
    obtain ⟨ok, hk⟩ := week_ok y m d ⟨v0, v1, v2, v3, v4, v5⟩
    have hr := nb_range y m d ⟨v0, v1, v2, v3, v4, v5⟩
    unfold rwV
    rw [if_pos ⟨ok.2.2.1, ok.2.2.2.1⟩, if_pos ⟨ok.2.2.2.2.1, ok.2.2.2.2.2⟩, hk]
    unfold ofT
    rw [if_pos hr]
    obtain ⟨q0, q1, q2⟩ := dt_eq y m d _ ⟨v0, v1, v2, v3, v4, v5⟩ rfl
    rw [← q0, ← q1, ← q2]
    rfl

end Go.Proofs.YtjpglgemnaknhaaGreatDoor
