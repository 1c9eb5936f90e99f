/-
  Wy4: Sheets: said, of a Fault with a Why inside. Laid by mkwy3.py.
-/
import Derived.Test.YtmgfdnccmeahjaaGreatDoorZWy3
namespace Go.Proofs.YtmgfdnccmeahjaaGreatDoor
open Go.RowKit
set_option maxRecDepth 100000
set_option linter.unusedVariables false
set_option linter.unusedSimpArgs false

set_option maxHeartbeats 12000000 in
theorem saidw_is17 (A : Nat → Addr) (f g x y i n : Nat) (w : World) (hn : n ≤ 9223372036854775807) (hx : x ≤ 9223372036854775807) (hy : y ≤ 9223372036854775807) (hT : ErT w) (hP : HasPw w) (h : FYw A f g 17 (.int .i64 (x : Int)) (.int .i64 (y : Int)) (.int .i64 (n : Int)) w) (hA : Sn A w) :
    Calls Tryz.prog 24 #[.iface 38 (.pointer (some ⟨f, 0, none⟩)), fVw 17 x y i n] w fun e w' => e = .returned (.bool true) ∧ Below w.heap.size w w' := by
  have hc : 1 ≤ 17 ∧ 17 ≤ 20 := by omega
  have hfl : f < w.heap.size := (Array.getElem?_eq_some_iff.1 h.1).1
  have hgl : g < w.heap.size := (Array.getElem?_eq_some_iff.1 h.2).1
  have HH := hid h
  obtain ⟨W2, hW2⟩ : ∃ W2, (w.alloc (.cells #[.int .i64 17, .int .i64 (x : Int), .int .i64 (y : Int), .int .i64 (i : Int), .int .i64 (n : Int)] 62)).alloc (.cells #[.pointer none] 38) = W2 := ⟨_, rfl⟩
  have z1 : (w.alloc (.cells #[.int .i64 17, .int .i64 (x : Int), .int .i64 (y : Int), .int .i64 (i : Int), .int .i64 (n : Int)] 62)).heap.size = w.heap.size + 1 := by simp
  have hz : W2.heap.size = w.heap.size + 2 := by rw [← hW2]; simp
  have b2 : Below w.heap.size w W2 := by rw [← hW2]; exact ((Below.refl _ _).alloc (Nat.le_refl _) _).alloc (by rw [z1]; omega) _
  have k1 : W2.heap[w.heap.size]? = some (.cells #[.int .i64 17, .int .i64 (x : Int), .int .i64 (y : Int), .int .i64 (i : Int), .int .i64 (n : Int)] 62 (0, 0)) := by
    rw [← hW2, Lib.alloc_old _ _ _ (by rw [z1]; omega)]
    exact heap_alloc_new w _
  have k2 : W2.heap[w.heap.size + 1]? = some (.cells #[.pointer none] 38 (0, 0)) := by
    have := heap_alloc_new (w.alloc (.cells #[.int .i64 17, .int .i64 (x : Int), .int .i64 (y : Int), .int .i64 (i : Int), .int .i64 (n : Int)] 62)) (.cells #[.pointer none] 38)
    rw [z1, hW2] at this
    exact this
  have HS := hid (as_hit ⟨f, 0, none⟩ ⟨w.heap.size + 1, 0, none⟩ (.pointer none) W2.drew (hT.below b2.drew) (by show W2.cell? _ = _; rw [Lib.cell_of_heap k2]; rfl) (Lib.frozen_of_heap (w := W2) k2 0))
  have HA := hid hA
  have hSd : ∀ w3, w3 = ((((W2.drew.alloc (.cells #[.pointer (some ⟨w.heap.size + 1, 0, none⟩)] 40)).alloc (.cells #[.pointer (some ⟨35, 40, none⟩), .pointer (some ⟨W2.drew.heap.size, 0, none⟩), .int .u64 150] 107)).alloc (.cells #[.pointer (some ⟨35, 40, none⟩), .pointer (some ⟨W2.drew.heap.size, 0, none⟩), .int .u64 150] 107)).alloc (.cells #[.pointer (some ⟨f, 0, none⟩)] 38)).setCell ⟨w.heap.size + 1, 0, none⟩ (.pointer (some ⟨f, 0, none⟩)) → SwS w f 17 x y i n w3 := by
    intro w3 h3
    have q0 : W2.drew.heap.size = w.heap.size + 2 := hz
    have q1 : Below W2.drew.heap.size W2.drew ((((W2.drew.alloc (.cells #[.pointer (some ⟨w.heap.size + 1, 0, none⟩)] 40)).alloc (.cells #[.pointer (some ⟨35, 40, none⟩), .pointer (some ⟨W2.drew.heap.size, 0, none⟩), .int .u64 150] 107)).alloc (.cells #[.pointer (some ⟨35, 40, none⟩), .pointer (some ⟨W2.drew.heap.size, 0, none⟩), .int .u64 150] 107)).alloc (.cells #[.pointer (some ⟨f, 0, none⟩)] 38)) := ((((Below.refl _ _).alloc (Nat.le_refl _) _).alloc (by simp) _).alloc (by simp; omega) _).alloc (by simp; omega) _
    generalize ((((W2.drew.alloc (.cells #[.pointer (some ⟨w.heap.size + 1, 0, none⟩)] 40)).alloc (.cells #[.pointer (some ⟨35, 40, none⟩), .pointer (some ⟨W2.drew.heap.size, 0, none⟩), .int .u64 150] 107)).alloc (.cells #[.pointer (some ⟨35, 40, none⟩), .pointer (some ⟨W2.drew.heap.size, 0, none⟩), .int .u64 150] 107)).alloc (.cells #[.pointer (some ⟨f, 0, none⟩)] 38)) = X at h3 q1
    subst h3
    have kX2 : X.heap[w.heap.size + 1]? = some (.cells #[.pointer none] 38 (0, 0)) := (q1.block _ (by omega)).trans k2
    have kX1 := (q1.block w.heap.size (by omega)).trans k1
    have bX : Below w.heap.size w X := b2.drew.trans (q1.mono (by omega))
    refine ⟨bX.setCell (p := ⟨w.heap.size + 1, 0, none⟩) (by show w.heap.size ≤ w.heap.size + 1; omega) _, ?_, (Below.heap_setCell _ _ _ _ (by show w.heap.size ≠ w.heap.size + 1; omega)).trans kX1, ?_⟩
    · have := ((Below.refl 0 X).setCell (p := ⟨w.heap.size + 1, 0, none⟩) (Nat.zero_le _) (.pointer (some ⟨f, 0, none⟩))).size
      have := q1.size
      omega
    · exact World.cell?_setCell_same _ _ _ (by rw [Lib.cell_of_heap kX2]; rfl)
  have HSd := hid hSd
  have HW2 := hid hW2
  have FF := hid (fun wx (hb : LtB w wx) => show wx.cell? ⟨f, 0, none⟩ = some (.int .i64 (x : Int)) ∧ wx.cell? ⟨f, 1, none⟩ = some (.int .i64 (y : Int)) ∧ wx.cell? ⟨f, 2, none⟩ = some (.iface 54 (.pointer (some ⟨g, 0, none⟩))) from by
    have h' := (Below.block hb f hfl).trans h.1
    exact ⟨Lib.cell_of_heap h' 0, Lib.cell_of_heap h' 1, Lib.cell_of_heap h' 2⟩)
  have PT := hid (And.intro hP hT)
  clear h hA hT hP b2 k1 k2 hz hSd hW2
  unfold fVw
  go_enter Tryz.func24, Tryz.ntmps24
  go_upto_region 4 with fail
  rw [HW2.out]
  go_cut [50] from 14 to 50 (fun v wx => v = .bool false ∧ SwS w f 17 x y i n wx)
  case first =>
    go_region_with (go_at_call 15; refine Calls.mono HS.out ?_; rintro e w3 ⟨rfl, h3⟩; have hS3 := HSd.out w3 h3; have HS3 := hid hS3; obtain ⟨g0, g1, g2⟩ := FF.out w3 hS3.1; have p0 := hS3.2.2.2; have p1 : w3.cell? ⟨w.heap.size, 1, none⟩ = some (.int .i64 (x : Int)) := Lib.cell_of_heap hS3.2.2.1 1; have p2 : w3.cell? ⟨w.heap.size, 2, none⟩ = some (.int .i64 (y : Int)) := Lib.cell_of_heap hS3.2.2.1 2; clear h3 hS3)
    all_goals
      go_wp2_with fail
      go_meet
      exact ⟨rfl, HS3.out⟩
  case rest =>
    obtain ⟨rfl, hS⟩ := hcut
    obtain ⟨w3, hw3⟩ : ∃ w3, w3 = wc := ⟨_, rfl⟩
    subst hw3
    have hB3 : Below w.heap.size w w3 := hS.1
    have q0 : w3.cell? ⟨w.heap.size, 0, none⟩ = some (.int .i64 17) := Lib.cell_of_heap hS.2.2.1 0
    have hV := variable_any A (17 - 1) (by omega) 17 (by omega) w3 (HA.out.below hB3)
    rw [show 17 - 1 + 1 = 17 from rfl] at hV
    have HV := hid hV
    have HS3 := hid hS
    clear hV hS hB3
    go_wp2_with fail
    refine Calls.mono HV.out ?_
    rintro e w4 ⟨rfl, hw4⟩
    have b4 : Below w3.heap.size w3 w4 := by rw [hw4]; exact (Below.refl _ _).alloc (Nat.le_refl _) _
    have hS4 := HS3.out.later b4
    have HS4 := hid hS4
    have LW := hid (fun wx (hb : LtB w4 wx) => (show LtB w wx from hS4.1.step hb))
    have KK := hid (fun wx (hb : LtB w4 wx) => show wx.cell? ⟨w.heap.size + 1, 0, none⟩ = some (.pointer (some ⟨f, 0, none⟩)) ∧ wx.cell? ⟨w.heap.size, 1, none⟩ = some (.int .i64 (x : Int)) ∧ wx.cell? ⟨w.heap.size, 2, none⟩ = some (.int .i64 (y : Int)) ∧ wx.cell? ⟨f, 2, none⟩ = some (.iface 54 (.pointer (some ⟨g, 0, none⟩))) from
      have h5 := hS4.later hb
      ⟨h5.2.2.2, Lib.cell_of_heap h5.2.2.1 1, Lib.cell_of_heap h5.2.2.1 2, (FF.out wx h5.1).2.2⟩)
    have FB2 := hid (fun wx (hb : LtB w4 wx) => HH.out.below (LW.out wx hb))
    have CK := hid (fun wx (hb : LtB w4 wx) => kindsw_any A f g 17 _ _ _ wx (FB2.out wx hb) (HA.out.below (LW.out wx hb)) hc)
    have CI := hid (fun wx (hb : LtB w4 wx) => isw_at A f g 17 17 _ _ _ wx (FB2.out wx hb) (HA.out.below (LW.out wx hb)) hc hc)
    rw [decide_eq_true rfl] at CI
    have CU := hid (fun wx (hb : LtB w4 wx) => unwrap_any f (.int .i64 (x : Int)) (.int .i64 (y : Int)) 54 (.pointer (some ⟨g, 0, none⟩)) wx (FB2.out wx hb).1)
    have CE := hid (fun wx (hb : LtB w4 wx) => ferrorw_any A f g 17 x y n wx hx hy hn (PT.out.1.below (LW.out wx hb)) (FB2.out wx hb) (HA.out.below (LW.out wx hb)) hc)
    have CX := hid (fun wx => digits_any x wx hx)
    have CY := hid (fun wx => digits_any y wx hy)
    have CT := hid (fun wx (hb : LtB w4 wx) => whyErr_any A g 17 n wx hn (PT.out.1.below (LW.out wx hb)) (FB2.out wx hb).2 (HA.out.below (LW.out wx hb)) hc)
    have CT2 := hid (fun wx (hb : LtB w4 wx) => errText (A 17) (erT 17) wx ((HA.out.below (LW.out wx hb)).text hc))
    have CN := hid (fun wx => digits_any n wx hn)
    have CUW := hid (fun wx (hb : LtB w4 wx) => unwrapW_any g 312 (.pointer (some (A 17))) (.int .i64 (n : Int)) wx (FB2.out wx hb).2)
    have GG := hid (fun wx (hb : LtB w4 wx) => show wx.cell? ⟨g, 0, none⟩ = some (.iface 312 (.pointer (some (A 17)))) ∧ wx.cell? ⟨g, 1, none⟩ = some (.int .i64 (n : Int)) from ⟨Lib.cell_of_heap (FB2.out wx hb).2 0, Lib.cell_of_heap (FB2.out wx hb).2 1⟩)
    have hA3 := hid (fun wx (hb : LtB w4 wx) => as_why f g ⟨wx.heap.size, 0, none⟩ (.int .i64 (x : Int)) (.int .i64 (y : Int)) (.int .i64 (n : Int)) (.pointer none) (wx.alloc (.cells #[.pointer none] 54)) (PT.out.2.below ((LW.out wx hb).step ((Below.refl _ wx).alloc (Nat.le_refl _) _))) (by rw [Lib.alloc_old wx _ f (Nat.lt_of_lt_of_le hfl (Below.size (LW.out wx hb)))]; exact (FB2.out wx hb).1) (by simp) (by simp))
    have C0 := hid (fun wx (hb : LtB w4 wx) => show wx.cell? ⟨w.heap.size, 0, none⟩ = some (.int .i64 17) ∧ wx.cell? ⟨w.heap.size, 4, none⟩ = some (.int .i64 (n : Int)) from ⟨Lib.cell_of_heap (hS4.later hb).2.2.1 0, Lib.cell_of_heap (hS4.later hb).2.2.1 4⟩)
    have y1 := dcT_size x hx
    have y2 := dcT_size y hy
    have y3 := wTx_size 17 n hc hn
    have y4 := erT_size ⟨17, by omega⟩
    simp only at y4
    have y5 := dcT_size n hn
    have HwT := hid (show wTx 17 n = (erT 17 ++ ⟨#[32]⟩) ++ dcT n from rfl)
    unfold fTx at CE
    obtain ⟨c0, c1, c2, c3⟩ := KK.out w4 (Below.refl _ _)
    obtain ⟨d0, d1, d2, d3⟩ := KK.out w4.drew (Below.refl _ _).drew
    have K0 : LtB w4 w4 := Below.refl _ _
    have K1 : LtB w4 w4.drew := (Below.refl _ _).drew
    generalize dcT x = q1 at *
    generalize dcT y = q2 at *
    generalize dcT n = q5 at *
    generalize erT 17 = q4 at *
    obtain ⟨q3, hq3⟩ : ∃ q3, q3 = wTx 17 n := ⟨_, rfl⟩
    rw [← hq3] at CE CT y3 HwT
    clear hq3
    have nS := neq_samew ⟨g, 0, none⟩
    have eS := eql_same (A 17)
    generalize A 17 = a at *
    have j6 : ¬ 9223372036854775807 < q4.size + 1 := by omega
    have j7 : ¬ 9223372036854775807 < q4.size + 1 + q5.size := by omega
    have j1 : ¬ 9223372036854775807 < 5 + q1.size := by omega
    have j2 : ¬ 9223372036854775807 < 5 + q1.size + 8 := by omega
    have j3 : ¬ 9223372036854775807 < 5 + q1.size + 8 + q2.size := by omega
    have j4 : ¬ 9223372036854775807 < 5 + q1.size + 8 + q2.size + 2 := by omega
    have j5 : ¬ 9223372036854775807 < 5 + q1.size + 8 + q2.size + 2 + q3.size := by omega
    clear hw4 b4 hS4 y1 y2 y3 y4 y5 q0 HH HV
    go_upto_region 7 with fail
    go_cut [92] from 54 to 92 (fun v wx => v = .bool false ∧ LtB w4 wx)
    case first =>
      go_region_held3 (fun wx => wx.cell? ⟨w.heap.size + 1, 0, none⟩ = some (.pointer (some ⟨f, 0, none⟩)) ∧ wx.cell? ⟨w.heap.size, 1, none⟩ = some (.int .i64 (x : Int)) ∧ wx.cell? ⟨w.heap.size, 2, none⟩ = some (.int .i64 (y : Int)) ∧ wx.cell? ⟨f, 2, none⟩ = some (.iface 54 (.pointer (some ⟨g, 0, none⟩)))) (exact KK.out _ (by assumption)) (first
        | (go_at_call 53; refine (CK.out _ (by assumption)).mono ?_; rintro e w5 ⟨rfl, s5⟩; have K5 := LtB.step (by assumption) s5; clear s5)
        | (go_at_call 13; refine (CI.out _ (by assumption)).mono ?_; rintro e w6 ⟨rfl, s6⟩; replace s6 := s6.symm; subst s6)
        | (go_at_call 58; refine (CU.out _ (by assumption)).mono ?_; rintro e w7 ⟨rfl, s7⟩; replace s7 := s7.symm; subst s7)
        | (go_at_call 59; refine (CE.out _ (by assumption)).mono ?_; rintro e w8 ⟨rfl, s8⟩; have K8 := LtB.step (by assumption) s8; clear s8)
        | (go_at_call_of 60 (Value.int IntKind.i64 (x : Int)); refine (CX.out _).mono ?_; rintro e w9 ⟨rfl, s9⟩; have K9 := LtB.step (by assumption) s9; clear s9)
        | (go_at_call_of 60 (Value.int IntKind.i64 (y : Int)); refine (CY.out _).mono ?_; rintro e wa ⟨rfl, sa⟩; have Ka := LtB.step (by assumption) sa; clear sa)
        | (go_at_call 62; refine (CT.out _ (by assumption)).mono ?_; rintro e wb ⟨rfl, sb⟩; have Kb := LtB.step (by assumption) sb; clear sb))
      all_goals
        go_wp2_with fail
        go_meet
        exact ⟨by simp, by assumption⟩
    case rest =>
      obtain ⟨rfl, hb5⟩ := hcut
      obtain ⟨w5, hw5⟩ : ∃ w5, w5 = wc := ⟨_, rfl⟩
      subst hw5
      have HA5 := hid (hA3.out w5 hb5)
      have HB5 := hid hb5
      clear hb5
      go_wp2_with fail
      refine Calls.mono HA5.out ?_
      rintro e w6 ⟨rfl, hw6⟩
      have hb6 : Below w5.heap.size w5 w6 := by
        rw [hw6]
        exact ((((((Below.refl w5.heap.size w5).alloc (Nat.le_refl _) _).alloc (by simp) _).alloc (by simp; omega) _).alloc (by simp; omega) _).alloc (by simp; omega) _).setCell (p := ⟨w5.heap.size, 0, none⟩) (Nat.le_refl _) _
      have c1 : w6.cell? ⟨w5.heap.size, 0, none⟩ = some (.pointer (some ⟨g, 0, none⟩)) := by
        rw [hw6]
        exact World.cell?_setCell_same _ _ _ (cellA (cellA (cellA (cellA (show (w5.alloc (.cells #[.pointer none] 54)).cell? ⟨w5.heap.size, 0, none⟩ = some (.pointer none) by simp) _) _) _) _)
      have hL6 : LtB w4 w6 := LtB.step HB5.out hb6
      have hzl : w5.heap.size < w6.heap.size := World.block_lt_of_cell? _ _ c1
      have LW6 := hid (fun wx (hb : LtB w6 wx) => (show LtB w4 wx from hL6.step hb))
      have KW := hid (fun wx (hb : LtB w6 wx) => show wx.cell? ⟨w5.heap.size, 0, none⟩ = some (.pointer (some ⟨g, 0, none⟩)) ∧ wx.cell? ⟨g, 0, none⟩ = some (.iface 312 (.pointer (some a))) ∧ wx.cell? ⟨g, 1, none⟩ = some (.int .i64 (n : Int)) ∧ wx.cell? ⟨w.heap.size, 4, none⟩ = some (.int .i64 (n : Int)) from
        ⟨cellB hb c1, (GG.out wx (hL6.step hb)).1, (GG.out wx (hL6.step hb)).2, (C0.out wx (hL6.step hb)).2⟩)
      have e4 := (C0.out w6 hL6).1
      have e4d := (C0.out w6.drew (hL6.step (Below.refl _ _).drew)).1
      obtain ⟨f1, f2, f3, f4⟩ := KW.out w6 (Below.refl _ _)
      obtain ⟨h1, h2, h3, h4⟩ := KW.out w6.drew (Below.refl _ _).drew
      have K0 : LtB w6 w6 := Below.refl _ _
      have K1 : LtB w6 w6.drew := (Below.refl _ _).drew
      have nn : IntKind.i64.wrap (n : Int) = (n : Int) := IntWalk.i64_in _ ⟨by omega, by omega⟩
      have HL6 := hid hL6
      clear hw6 hb6 c1 hL6 hzl
      go_wp2_with fail
      go_region_held3 (fun wx => wx.cell? ⟨w5.heap.size, 0, none⟩ = some (.pointer (some ⟨g, 0, none⟩)) ∧ wx.cell? ⟨g, 0, none⟩ = some (.iface 312 (.pointer (some a))) ∧ wx.cell? ⟨g, 1, none⟩ = some (.int .i64 (n : Int)) ∧ wx.cell? ⟨w.heap.size, 4, none⟩ = some (.int .i64 (n : Int))) (exact KW.out _ (by assumption)) (first
        | (go_at_call 61; refine (CUW.out _ (LW6.out _ (by assumption))).mono ?_; rintro e w7 ⟨rfl, s7⟩; replace s7 := s7.symm; subst s7)
        | (go_at_call 62; refine (CT.out _ (LW6.out _ (by assumption))).mono ?_; rintro e w8 ⟨rfl, s8⟩; have K8 := LtB.step (by assumption) s8; clear s8)
        | (go_at_call 325; refine (CT2.out _ (LW6.out _ (by assumption))).mono ?_; rintro e w9 ⟨rfl, s9⟩; replace s9 := s9.symm; subst s9)
        | (go_at_call 60; refine (CN.out _).mono ?_; rintro e wa ⟨rfl, sa⟩; have Ka := LtB.step (by assumption) sa; clear sa))
      all_goals
        go_wp2
        go_ret
        refine ⟨by first | rfl | (simp [HwT.out]), ?_⟩
        first
          | exact LW.out _ (LW6.out _ (by assumption))
end Go.Proofs.YtmgfdnccmeahjaaGreatDoor
