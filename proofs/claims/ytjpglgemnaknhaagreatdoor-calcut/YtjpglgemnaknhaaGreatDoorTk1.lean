/-
  Printed instants read. Laid by mktk1.py.
-/
import Derived.Test.YtjpglgemnaknhaaGreatDoorTm1
import Derived.Test.YtjpglgemnaknhaaGreatDoorShows
namespace Go.Proofs.YtjpglgemnaknhaaGreatDoor
open Go.RowKit
set_option maxRecDepth 100000
set_option linter.unusedSimpArgs false
set_option linter.unusedVariables false

theorem rnk_0 (y m d : Int) (hv : VD y m d) (t : ByteArray) (ht : t.data.toList = pdL 0 y m d) : MK t 0 ∧ fitL t.data.toList (SS DS) 0 0 = (0, 0) ∧ shA t 0 = rT y m d 0 0 := by
  have hl := lg_le y m
  have hy := yd_in y m d hv
  have hwb := week_bounds y m d hv
  have hw9 := wkY_le y m d hv
  have hwd := wd_lt (nb y m d)
  obtain ⟨v0, v1, v2, v3, v4, v5⟩ := hv
  obtain ⟨p0a, p0b, p0c, p0d, e0, hp0a, hp0b, hp0c, hp0d, n0⟩ := pad_4 (y) (by omega) (by show (y).toNat < 10000; omega)
  obtain ⟨p1a, p1b, e1, hp1a, hp1b, n1⟩ := pad_2 (m) (by omega) (by show (m).toNat < 100; omega)
  obtain ⟨p2a, p2b, e2, hp2a, hp2b, n2⟩ := pad_2 (d) (by omega) (by show (d).toNat < 100; omega)
  have hT : t.data.toList = [p0a, p0b, p0c, p0d, 45, p1a, p1b, 45, p2a, p2b] := by
    rw [ht]
    unfold pdL
    simp only [e0, e1, e2]
    rfl
  refine ⟨?_, ?_, ?_⟩
  · unfold MK
    rw [hT]
    simp only [List.map_cons, List.map_nil, hp0a, hp0b, hp0c, hp0d, hp1a, hp1b, hp2a, hp2b]
    decide +kernel
  · rw [hT]
    obtain ⟨hp0ax, hp0ay⟩ := isDB_no hp0a
    obtain ⟨hp0bx, hp0by⟩ := isDB_no hp0b
    obtain ⟨hp0cx, hp0cy⟩ := isDB_no hp0c
    obtain ⟨hp0dx, hp0dy⟩ := isDB_no hp0d
    obtain ⟨hp1ax, hp1ay⟩ := isDB_no hp1a
    obtain ⟨hp1bx, hp1by⟩ := isDB_no hp1b
    obtain ⟨hp2ax, hp2ay⟩ := isDB_no hp2a
    obtain ⟨hp2bx, hp2by⟩ := isDB_no hp2b
    clear ht hT e0 e1 e2
    have z45 : isDB 45 = false := by decide
    have z87 : isDB 87 = false := by decide
    simp [fitL, SS, DS, S0, S1, S2, S3, S4, S5, rl, fitB, *]
  · have t0 : nt t 0 4 = y := by
      unfold nt
      rw [hT]
      exact n0
    have t1 : nt t 5 2 = m := by
      unfold nt
      rw [hT]
      exact n1
    have t2 : nt t 8 2 = d := by
      unfold nt
      rw [hT]
      exact n2
    show rdV 5 8 (nt t 0 4) (nt t 5 2) (nt t 8 2) = _
    rw [t0, t1, t2]
    unfold rdV
    rw [if_pos ⟨v2, v3⟩, if_pos ⟨v0, v1, v2, v3, v4, v5⟩]
    rfl

theorem rnk_1 (y m d : Int) (hv : VD y m d) (t : ByteArray) (ht : t.data.toList = pdL 1 y m d) : MK t 1 ∧ fitL t.data.toList (SS DS) 0 0 = (1, 0) ∧ shA t 1 = rT y m d 0 0 := by
  have hl := lg_le y m
  have hy := yd_in y m d hv
  have hwb := week_bounds y m d hv
  have hw9 := wkY_le y m d hv
  have hwd := wd_lt (nb y m d)
  obtain ⟨v0, v1, v2, v3, v4, v5⟩ := hv
  obtain ⟨p0a, p0b, p0c, p0d, e0, hp0a, hp0b, hp0c, hp0d, n0⟩ := pad_4 (y) (by omega) (by show (y).toNat < 10000; omega)
  obtain ⟨p1a, p1b, e1, hp1a, hp1b, n1⟩ := pad_2 (m) (by omega) (by show (m).toNat < 100; omega)
  obtain ⟨p2a, p2b, e2, hp2a, hp2b, n2⟩ := pad_2 (d) (by omega) (by show (d).toNat < 100; omega)
  have hT : t.data.toList = [p0a, p0b, p0c, p0d, p1a, p1b, p2a, p2b] := by
    rw [ht]
    unfold pdL
    simp only [e0, e1, e2]
    rfl
  refine ⟨?_, ?_, ?_⟩
  · unfold MK
    rw [hT]
    simp only [List.map_cons, List.map_nil, hp0a, hp0b, hp0c, hp0d, hp1a, hp1b, hp2a, hp2b]
    decide +kernel
  · rw [hT]
    obtain ⟨hp0ax, hp0ay⟩ := isDB_no hp0a
    obtain ⟨hp0bx, hp0by⟩ := isDB_no hp0b
    obtain ⟨hp0cx, hp0cy⟩ := isDB_no hp0c
    obtain ⟨hp0dx, hp0dy⟩ := isDB_no hp0d
    obtain ⟨hp1ax, hp1ay⟩ := isDB_no hp1a
    obtain ⟨hp1bx, hp1by⟩ := isDB_no hp1b
    obtain ⟨hp2ax, hp2ay⟩ := isDB_no hp2a
    obtain ⟨hp2bx, hp2by⟩ := isDB_no hp2b
    clear ht hT e0 e1 e2
    have z45 : isDB 45 = false := by decide
    have z87 : isDB 87 = false := by decide
    simp [fitL, SS, DS, S0, S1, S2, S3, S4, S5, rl, fitB, *]
  · have t0 : nt t 0 4 = y := by
      unfold nt
      rw [hT]
      exact n0
    have t1 : nt t 4 2 = m := by
      unfold nt
      rw [hT]
      exact n1
    have t2 : nt t 6 2 = d := by
      unfold nt
      rw [hT]
      exact n2
    show rdV 4 6 (nt t 0 4) (nt t 4 2) (nt t 6 2) = _
    rw [t0, t1, t2]
    unfold rdV
    rw [if_pos ⟨v2, v3⟩, if_pos ⟨v0, v1, v2, v3, v4, v5⟩]
    rfl


theorem prd_0 (y m d : Int) (hv : VD y m d) : PrD ⟨(pdL 0 y m d).toArray⟩ y m d := fun w hA => by
  obtain ⟨h1, h2, h3⟩ := rnk_0 y m d hv ⟨(pdL 0 y m d).toArray⟩ rfl
  rw [← h3]; exact parse_0 _ h1 h2 w hA
theorem prd_1 (y m d : Int) (hv : VD y m d) : PrD ⟨(pdL 1 y m d).toArray⟩ y m d := fun w hA => by
  obtain ⟨h1, h2, h3⟩ := rnk_1 y m d hv ⟨(pdL 1 y m d).toArray⟩ rfl
  rw [← h3]; exact parse_1 _ h1 h2 w hA
theorem pdk_0 (y m d : Int) (hv : VD y m d) : (84 : UInt8) ∉ pdL 0 y m d ∧ (pdL 0 y m d).contains 45 = true ∧ (pdL 0 y m d).length ≤ 10 := by
  have n84 := pad_no 84 (by decide)
  exact ⟨by simp [pdL, n84], by simp [pdL], Nat.le_of_eq (pd0_len y m d hv)⟩
theorem pdk_1 (y m d : Int) (hv : VD y m d) : (84 : UInt8) ∉ pdL 1 y m d ∧ (pdL 1 y m d).contains 45 = false ∧ (pdL 1 y m d).length ≤ 10 := by
  have n84 := pad_no 84 (by decide)
  have n45 := pad_no 45 (by decide)
  refine ⟨by simp [pdL, n84], by simp [pdL, n45], ?_⟩
  have := mk_size _ 1 8 (rnk_1 y m d hv ⟨(pdL 1 y m d).toArray⟩ rfl).1 (by decide)
  have e : (⟨(pdL 1 y m d).toArray⟩ : ByteArray).size = (pdL 1 y m d).length := rfl
  omega
theorem dig_any {c : UInt8} (h : isDB c = true) : [90, 43, 45].contains c = false ∧ c.toNat < 128 := by
  have hb := isDB_in h
  refine ⟨?_, by omega⟩
  have n1 : ¬ c = 90 := fun e => by rw [e] at hb; exact absurd hb (by decide)
  have n2 : ¬ c = 43 := fun e => by rw [e] at hb; exact absurd hb (by decide)
  have n3 : ¬ c = 45 := fun e => by rw [e] at hb; exact absurd hb (by decide)
  simp [n1, n2, n3]
/-- a zone's text in basic writing -/
def zP (z : Int) : List UInt8 := if z = 0 then [90] else if z < 0 then [45] ++ padD ((-z) / 60).toNat 2 ++ padD ((-z) % 60).toNat 2 else [43] ++ padD (z / 60).toNat 2 ++ padD (z % 60).toNat 2
def ckP (h i s : Int) : List UInt8 := padD h.toNat 2 ++ padD i.toNat 2 ++ padD s.toNat 2
theorem two_n {n : Int} (h0 : 0 ≤ n) {a b : UInt8} (h : (nm [a, b] : Int) = n) : nm [a, b] = n.toNat := by omega
theorem clk_E (y m d h i s z : Int) (hv : VD y m d) (bh : 0 ≤ h ∧ h ≤ 23) (bi : 0 ≤ i ∧ i ≤ 59) (bs : 0 ≤ s ∧ s ≤ 59) (bz : -1439 ≤ z ∧ z ≤ 1439) (t : ByteArray) (ht : t.data.toList = pdL 0 y m d ++ [84] ++ ckL h i s ++ zL z) (hin : InstS (86400 * nb y m d + (3600 * h + 60 * i + s) - 60 * z)) :
    PrI t (86400 * nb y m d + (3600 * h + 60 * i + s) - 60 * z, 0, 0) := by
  obtain ⟨h84, hc, hl⟩ := pdk_0 y m d hv
  have hp := prd_0 y m d hv
  obtain ⟨ha, hb, eh, dha, dhb, vh⟩ := pad_2 h bh.1 (by show h.toNat < 100; omega)
  obtain ⟨ia, ib, ei, dia, dib, vi⟩ := pad_2 i bi.1 (by show i.toNat < 100; omega)
  obtain ⟨sa, sb, es, dsa, dsb, vs⟩ := pad_2 s bs.1 (by show s.toNat < 100; omega)
  have eck : ckL h i s = [ha, hb, 58, ia, ib, 58, sa, sb] := by unfold ckL; rw [eh, ei, es]; rfl
  rw [eck] at ht
  generalize pdL 0 y m d = DL at *
  obtain ⟨hT0, zT, t0, t1, t2⟩ := tmE3 ha hb ia ib sa sb dha dhb dia dib dsa dsb ⟨([ha, hb, 58, ia, ib, 58, sa, sb] : List UInt8).toArray⟩ rfl
  have e0 : n2 ⟨([ha, hb, 58, ia, ib, 58, sa, sb] : List UInt8).toArray⟩ 0 = h.toNat := t0.trans (two_n bh.1 vh)
  have e1 : n2 ⟨([ha, hb, 58, ia, ib, 58, sa, sb] : List UInt8).toArray⟩ 3 = i.toNat := t1.trans (two_n bi.1 vi)
  have e2 : n2 ⟨([ha, hb, 58, ia, ib, 58, sa, sb] : List UInt8).toArray⟩ 6 = s.toNat := t2.trans (two_n bs.1 vs)
  have eT := tmP_ok3 ⟨([ha, hb, 58, ia, ib, 58, sa, sb] : List UInt8).toArray⟩ 3 6 (by rw [zT]; decide) (by rw [zT]; decide) (by rw [zT]; decide) (by rw [e0]; unfold okH; rw [decide_eq_true (show h.toNat ≤ 23 by omega)]; rfl) (by rw [e1]; omega) (by rw [e2]; omega)
  rw [e0, e1, e2] at eT
  have eT' : tmP ⟨([ha, hb, 58, ia, ib, 58, sa, sb] : List UInt8).toArray⟩ 3 6 = (3600 * h + 60 * i + s, 0, 0) := by rw [eT]; congr 1; omega
  rw [eT'] at hT0
  have a58 : [90, 43, 45].contains (58 : UInt8) = false ∧ (58 : UInt8).toNat < 128 := by decide
  have hTL : ∀ c ∈ ([ha, hb, 58, ia, ib, 58, sa, sb] : List UInt8), [90, 43, 45].contains c = false ∧ c.toNat < 128 := by
    intro c hc
    simp at hc
    rcases hc with rfl | rfl | rfl | rfl | rfl | rfl | rfl | rfl
    · exact dig_any dha
    · exact dig_any dhb
    · exact a58
    · exact dig_any dia
    · exact dig_any dib
    · exact a58
    · exact dig_any dsa
    · exact dig_any dsb
  have hs : t.size = DL.length + 1 + 8 + (zL z).length := by
    have e := congrArg List.length ht
    rw [Array.length_toList] at e
    simp at e
    have e2 : t.size = t.data.size := rfl
    omega
  intro w hA
  by_cases z0 : z = 0
  · subst z0
    have ez : zL 0 = [90] := rfl
    rw [ez] at ht hs
    have hC := cuts_of t DL [ha, hb, 58, ia, ib, 58, sa, sb] [] 90 (by rw [ht]; simp) (by simp at hs; omega) h84 (fun c hc => (hTL c hc).1) (by decide) (fun c hc => by
      rcases List.mem_append.1 hc with h | h
      · exact (hTL c h).2
      · simp at h; rw [h]; decide)
    rw [hc] at hC
    exact parseInstant_good t _ _ _ _ hC y m d hp hv _ 0 (by omega) (by omega) (by rw [cut_left]; exact hT0) (by rw [cut_right]; exact zn_Z true ⟨[90].toArray⟩ rfl) hin w hA
  by_cases zn : z < 0
  case neg =>
    obtain ⟨a, b, ea, da, db, va⟩ := pad_2 (z / 60) (by omega) (by show (z / 60).toNat < 100; omega)
    obtain ⟨c, d', ec, dc, dd, vc⟩ := pad_2 (z % 60) (by omega) (by show (z % 60).toNat < 100; omega)
    have ez : zL z = [43, a, b, 58, c, d'] := by
      unfold zL
      rw [if_neg z0, if_neg zn]
      unfold znL
      rw [ea, ec]
      rfl
    rw [ez] at ht hs
    have hC := cuts_of t DL [ha, hb, 58, ia, ib, 58, sa, sb] [a, b, 58, c, d'] 43 (by rw [ht]; simp) (by simp at hs; omega) h84 (fun c hc => (hTL c hc).1) (by decide) (fun e he => by
      rcases List.mem_append.1 he with h | h
      · exact (hTL e h).2
      · simp at h
        rcases h with rfl | rfl | rfl | rfl | rfl | rfl
        · decide
        · exact (dig_any da).2
        · exact (dig_any db).2
        · decide
        · exact (dig_any dc).2
        · exact (dig_any dd).2)
    rw [hc] at hC
    obtain ⟨hZ0, zZ, k0, k1, k2⟩ := znEp2 a b c d' da db dc dd ⟨([43, a, b, 58, c, d'] : List UInt8).toArray⟩ rfl
    have f1 : n2 ⟨([43, a, b, 58, c, d'] : List UInt8).toArray⟩ 1 = (z / 60).toNat := k1.trans (two_n (by omega) va)
    have f2 : n2 ⟨([43, a, b, 58, c, d'] : List UInt8).toArray⟩ 4 = (z % 60).toNat := k2.trans (two_n (by omega) vc)
    have eZ := znP_ok2 ⟨([43, a, b, 58, c, d'] : List UInt8).toArray⟩ 1 4 (by rw [zZ]; decide) (by rw [zZ]; decide) (by rw [f1]; omega) (by rw [f2]; omega) k0
    rw [f1, f2] at eZ
    have eZ' : znP ⟨([43, a, b, 58, c, d'] : List UInt8).toArray⟩ 1 4 = (z, 0, 0) := by rw [eZ]; congr 1; omega
    rw [eZ'] at hZ0
    exact parseInstant_good t _ _ _ _ hC y m d hp hv _ z (by omega) (by omega) (by rw [cut_left]; exact hT0) (by rw [cut_right]; exact hZ0) hin w hA
  case pos =>
    obtain ⟨a, b, ea, da, db, va⟩ := pad_2 ((-z) / 60) (by omega) (by show ((-z) / 60).toNat < 100; omega)
    obtain ⟨c, d', ec, dc, dd, vc⟩ := pad_2 ((-z) % 60) (by omega) (by show ((-z) % 60).toNat < 100; omega)
    have ez : zL z = [45, a, b, 58, c, d'] := by
      unfold zL
      rw [if_neg z0, if_pos zn]
      unfold znL
      rw [ea, ec]
      rfl
    rw [ez] at ht hs
    have hC := cuts_of t DL [ha, hb, 58, ia, ib, 58, sa, sb] [a, b, 58, c, d'] 45 (by rw [ht]; simp) (by simp at hs; omega) h84 (fun c hc => (hTL c hc).1) (by decide) (fun e he => by
      rcases List.mem_append.1 he with h | h
      · exact (hTL e h).2
      · simp at h
        rcases h with rfl | rfl | rfl | rfl | rfl | rfl
        · decide
        · exact (dig_any da).2
        · exact (dig_any db).2
        · decide
        · exact (dig_any dc).2
        · exact (dig_any dd).2)
    rw [hc] at hC
    obtain ⟨hZ0, zZ, k0, k1, k2⟩ := znEm2 a b c d' da db dc dd ⟨([45, a, b, 58, c, d'] : List UInt8).toArray⟩ rfl
    have f1 : n2 ⟨([45, a, b, 58, c, d'] : List UInt8).toArray⟩ 1 = ((-z) / 60).toNat := k1.trans (two_n (by omega) va)
    have f2 : n2 ⟨([45, a, b, 58, c, d'] : List UInt8).toArray⟩ 4 = ((-z) % 60).toNat := k2.trans (two_n (by omega) vc)
    have eZ := znP_neg2 ⟨([45, a, b, 58, c, d'] : List UInt8).toArray⟩ 1 4 (by rw [zZ]; decide) (by rw [zZ]; decide) (by rw [f1]; omega) (by rw [f2]; omega) k0 (by rw [f1, f2]; omega)
    rw [f1, f2] at eZ
    have eZ' : znP ⟨([45, a, b, 58, c, d'] : List UInt8).toArray⟩ 1 4 = (z, 0, 0) := by rw [eZ]; congr 1; omega
    rw [eZ'] at hZ0
    exact parseInstant_good t _ _ _ _ hC y m d hp hv _ z (by omega) (by omega) (by rw [cut_left]; exact hT0) (by rw [cut_right]; exact hZ0) hin w hA
theorem clk_P (y m d h i s z : Int) (hv : VD y m d) (bh : 0 ≤ h ∧ h ≤ 23) (bi : 0 ≤ i ∧ i ≤ 59) (bs : 0 ≤ s ∧ s ≤ 59) (bz : -1439 ≤ z ∧ z ≤ 1439) (t : ByteArray) (ht : t.data.toList = pdL 1 y m d ++ [84] ++ ckP h i s ++ zP z) (hin : InstS (86400 * nb y m d + (3600 * h + 60 * i + s) - 60 * z)) :
    PrI t (86400 * nb y m d + (3600 * h + 60 * i + s) - 60 * z, 0, 0) := by
  obtain ⟨h84, hc, hl⟩ := pdk_1 y m d hv
  have hp := prd_1 y m d hv
  obtain ⟨ha, hb, eh, dha, dhb, vh⟩ := pad_2 h bh.1 (by show h.toNat < 100; omega)
  obtain ⟨ia, ib, ei, dia, dib, vi⟩ := pad_2 i bi.1 (by show i.toNat < 100; omega)
  obtain ⟨sa, sb, es, dsa, dsb, vs⟩ := pad_2 s bs.1 (by show s.toNat < 100; omega)
  have eck : ckP h i s = [ha, hb, ia, ib, sa, sb] := by unfold ckP; rw [eh, ei, es]; rfl
  rw [eck] at ht
  generalize pdL 1 y m d = DL at *
  obtain ⟨hT0, zT, t0, t1, t2⟩ := tmP3 ha hb ia ib sa sb dha dhb dia dib dsa dsb ⟨([ha, hb, ia, ib, sa, sb] : List UInt8).toArray⟩ rfl
  have e0 : n2 ⟨([ha, hb, ia, ib, sa, sb] : List UInt8).toArray⟩ 0 = h.toNat := t0.trans (two_n bh.1 vh)
  have e1 : n2 ⟨([ha, hb, ia, ib, sa, sb] : List UInt8).toArray⟩ 2 = i.toNat := t1.trans (two_n bi.1 vi)
  have e2 : n2 ⟨([ha, hb, ia, ib, sa, sb] : List UInt8).toArray⟩ 4 = s.toNat := t2.trans (two_n bs.1 vs)
  have eT := tmP_ok3 ⟨([ha, hb, ia, ib, sa, sb] : List UInt8).toArray⟩ 2 4 (by rw [zT]; decide) (by rw [zT]; decide) (by rw [zT]; decide) (by rw [e0]; unfold okH; rw [decide_eq_true (show h.toNat ≤ 23 by omega)]; rfl) (by rw [e1]; omega) (by rw [e2]; omega)
  rw [e0, e1, e2] at eT
  have eT' : tmP ⟨([ha, hb, ia, ib, sa, sb] : List UInt8).toArray⟩ 2 4 = (3600 * h + 60 * i + s, 0, 0) := by rw [eT]; congr 1; omega
  rw [eT'] at hT0
  have a58 : [90, 43, 45].contains (58 : UInt8) = false ∧ (58 : UInt8).toNat < 128 := by decide
  have hTL : ∀ c ∈ ([ha, hb, ia, ib, sa, sb] : List UInt8), [90, 43, 45].contains c = false ∧ c.toNat < 128 := by
    intro c hc
    simp at hc
    rcases hc with rfl | rfl | rfl | rfl | rfl | rfl
    · exact dig_any dha
    · exact dig_any dhb
    · exact dig_any dia
    · exact dig_any dib
    · exact dig_any dsa
    · exact dig_any dsb
  have hs : t.size = DL.length + 1 + 6 + (zP z).length := by
    have e := congrArg List.length ht
    rw [Array.length_toList] at e
    simp at e
    have e2 : t.size = t.data.size := rfl
    omega
  intro w hA
  by_cases z0 : z = 0
  · subst z0
    have ez : zP 0 = [90] := rfl
    rw [ez] at ht hs
    have hC := cuts_of t DL [ha, hb, ia, ib, sa, sb] [] 90 (by rw [ht]; simp) (by simp at hs; omega) h84 (fun c hc => (hTL c hc).1) (by decide) (fun c hc => by
      rcases List.mem_append.1 hc with h | h
      · exact (hTL c h).2
      · simp at h; rw [h]; decide)
    rw [hc] at hC
    exact parseInstant_good t _ _ _ _ hC y m d hp hv _ 0 (by omega) (by omega) (by rw [cut_left]; exact hT0) (by rw [cut_right]; exact zn_Z false ⟨[90].toArray⟩ rfl) hin w hA
  by_cases zn : z < 0
  case neg =>
    obtain ⟨a, b, ea, da, db, va⟩ := pad_2 (z / 60) (by omega) (by show (z / 60).toNat < 100; omega)
    obtain ⟨c, d', ec, dc, dd, vc⟩ := pad_2 (z % 60) (by omega) (by show (z % 60).toNat < 100; omega)
    have ez : zP z = [43, a, b, c, d'] := by
      unfold zP
      rw [if_neg z0, if_neg zn]
      skip
      rw [ea, ec]
      rfl
    rw [ez] at ht hs
    have hC := cuts_of t DL [ha, hb, ia, ib, sa, sb] [a, b, c, d'] 43 (by rw [ht]; simp) (by simp at hs; omega) h84 (fun c hc => (hTL c hc).1) (by decide) (fun e he => by
      rcases List.mem_append.1 he with h | h
      · exact (hTL e h).2
      · simp at h
        rcases h with rfl | rfl | rfl | rfl | rfl
        · decide
        · exact (dig_any da).2
        · exact (dig_any db).2
        · exact (dig_any dc).2
        · exact (dig_any dd).2)
    rw [hc] at hC
    obtain ⟨hZ0, zZ, k0, k1, k2⟩ := znPp2 a b c d' da db dc dd ⟨([43, a, b, c, d'] : List UInt8).toArray⟩ rfl
    have f1 : n2 ⟨([43, a, b, c, d'] : List UInt8).toArray⟩ 1 = (z / 60).toNat := k1.trans (two_n (by omega) va)
    have f2 : n2 ⟨([43, a, b, c, d'] : List UInt8).toArray⟩ 3 = (z % 60).toNat := k2.trans (two_n (by omega) vc)
    have eZ := znP_ok2 ⟨([43, a, b, c, d'] : List UInt8).toArray⟩ 1 3 (by rw [zZ]; decide) (by rw [zZ]; decide) (by rw [f1]; omega) (by rw [f2]; omega) k0
    rw [f1, f2] at eZ
    have eZ' : znP ⟨([43, a, b, c, d'] : List UInt8).toArray⟩ 1 3 = (z, 0, 0) := by rw [eZ]; congr 1; omega
    rw [eZ'] at hZ0
    exact parseInstant_good t _ _ _ _ hC y m d hp hv _ z (by omega) (by omega) (by rw [cut_left]; exact hT0) (by rw [cut_right]; exact hZ0) hin w hA
  case pos =>
    obtain ⟨a, b, ea, da, db, va⟩ := pad_2 ((-z) / 60) (by omega) (by show ((-z) / 60).toNat < 100; omega)
    obtain ⟨c, d', ec, dc, dd, vc⟩ := pad_2 ((-z) % 60) (by omega) (by show ((-z) % 60).toNat < 100; omega)
    have ez : zP z = [45, a, b, c, d'] := by
      unfold zP
      rw [if_neg z0, if_pos zn]
      skip
      rw [ea, ec]
      rfl
    rw [ez] at ht hs
    have hC := cuts_of t DL [ha, hb, ia, ib, sa, sb] [a, b, c, d'] 45 (by rw [ht]; simp) (by simp at hs; omega) h84 (fun c hc => (hTL c hc).1) (by decide) (fun e he => by
      rcases List.mem_append.1 he with h | h
      · exact (hTL e h).2
      · simp at h
        rcases h with rfl | rfl | rfl | rfl | rfl
        · decide
        · exact (dig_any da).2
        · exact (dig_any db).2
        · exact (dig_any dc).2
        · exact (dig_any dd).2)
    rw [hc] at hC
    obtain ⟨hZ0, zZ, k0, k1, k2⟩ := znPm2 a b c d' da db dc dd ⟨([45, a, b, c, d'] : List UInt8).toArray⟩ rfl
    have f1 : n2 ⟨([45, a, b, c, d'] : List UInt8).toArray⟩ 1 = ((-z) / 60).toNat := k1.trans (two_n (by omega) va)
    have f2 : n2 ⟨([45, a, b, c, d'] : List UInt8).toArray⟩ 3 = ((-z) % 60).toNat := k2.trans (two_n (by omega) vc)
    have eZ := znP_neg2 ⟨([45, a, b, c, d'] : List UInt8).toArray⟩ 1 3 (by rw [zZ]; decide) (by rw [zZ]; decide) (by rw [f1]; omega) (by rw [f2]; omega) k0 (by rw [f1, f2]; omega)
    rw [f1, f2] at eZ
    have eZ' : znP ⟨([45, a, b, c, d'] : List UInt8).toArray⟩ 1 3 = (z, 0, 0) := by rw [eZ]; congr 1; omega
    rw [eZ'] at hZ0
    exact parseInstant_good t _ _ _ _ hC y m d hp hv _ z (by omega) (by omega) (by rw [cut_left]; exact hT0) (by rw [cut_right]; exact hZ0) hin w hA
end Go.Proofs.YtjpglgemnaknhaaGreatDoor
