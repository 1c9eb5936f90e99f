/-
  PlanGrows: the walk.
-/
import Derived.Test.YtgnnopjkbmbjbabFp2
import Derived.Test.YtgnnopjkbmbjbabFg1
import Derived.Test.YtgnnopjkbmbjbabPq4w
namespace Go.Proofs.Ytgnnopjkbmbjbab
open Go.RowKit
set_option maxRecDepth 100000
set_option linter.unusedSimpArgs false

theorem run_store_flt (P : Program) (w : World) (a : Addr) (m : Mode) (k : FloatKind) (n : Nat) : (store a (.float k n) m).run P w = stored P w a (.float k n) m := run_store P w a _ m rfl
attribute [local go_sem] run_store_flt
/-- a need in a block -/
def NB (w : World) (b : Nat) (M D Z : Nat) (L : Int) : Prop := w.heap[b]? = some (.cells #[.float .f64 M, .float .f64 D, .float .f64 Z, .int .i64 L] 24 (0, 0))
theorem NB.later {w w' : World} {b M D Z : Nat} {L : Int} (h : NB w b M D Z L) (hb : Below w.heap.size w w') : NB w' b M D Z L := (hb.block b (Array.getElem?_eq_some_iff.1 h).1).trans h
theorem NB.cells {w : World} {b M D Z : Nat} {L : Int} (h : NB w b M D Z L) : w.cell? ⟨b, 0, none⟩ = some (.float .f64 M) ∧ w.cell? ⟨b, 1, none⟩ = some (.float .f64 D) ∧ w.cell? ⟨b, 2, none⟩ = some (.float .f64 Z) ∧ w.cell? ⟨b, 3, none⟩ = some (.int .i64 L) := by
  refine ⟨?_, ?_, ?_, ?_⟩ <;> rw [Lib.cell_of_heap h] <;> rfl
theorem mn_facts (m n : Nat) (h : m * n ≤ 1000000 * 1000) : ((m * n : Nat) : Int) = (m : Int) * (n : Int) ∧ IntKind.i64.wrap ((m : Int) * (n : Int)) = (m : Int) * (n : Int) ∧ (-9223372036854775808 : Int) ≤ (m : Int) * (n : Int) ∧ (m : Int) * (n : Int) ≤ 9223372036854775807 := by
  have e : ((m * n : Nat) : Int) = (m : Int) * (n : Int) := Int.natCast_mul m n
  rw [← e, IntKind.wrap_i64]
  generalize m * n = p at *
  omega
set_option maxHeartbeats 1000000 in
theorem planGrows_any (a0 a1 a2 a3 a4 : Int) (w : World) (h0 : I64 a0) (h1 : I64 a1) (h2 : I64 a2) (h3 : I64 a3) (h4 : I64 a4) :
    Calls Try.prog 4 #[.int .i64 a0, .int .i64 a1, .int .i64 a2, .int .i64 a3, .int .i64 a4] w fun e w' => e = .returned (.bool true) ∧ Below w.heap.size w w' := by
  have H0 := hid (fun wx => lwithin_any a0 0 1000000 wx h0 (by omega) (by omega) (by omega))
  have H1 := hid (fun wx => lwithin_any a1 0 1000000 wx h1 (by omega) (by omega) (by omega))
  have H2 := hid (fun wx => lwithin_any a2 0 5 wx h2 (by omega) (by omega) (by omega))
  have H3 := hid (fun wx => lwithin_any a3 0 1000 wx h3 (by omega) (by omega) (by omega))
  have H4 := hid (fun wx => lwithin_any a4 0 5 wx h4 (by omega) (by omega) (by omega))
  clear h0 h1 h2 h3 h4
  go_enter Try.func4, Try.ntmps4
  go_wp2_with fail
  refine Calls.mono (H0.out _) ?_
  rintro e w1 ⟨mx, rfl, ⟨bm, bm'⟩, rfl⟩
  obtain ⟨m, rfl⟩ := Int.eq_ofNat_of_zero_le bm
  go_wp2_with fail
  refine Calls.mono (H1.out _) ?_
  rintro e w1 ⟨dx, rfl, ⟨bd, bd'⟩, rfl⟩
  obtain ⟨d, rfl⟩ := Int.eq_ofNat_of_zero_le bd
  go_wp2_with fail
  refine Calls.mono (H2.out _) ?_
  rintro e w1 ⟨zx, rfl, ⟨bz, bz'⟩, rfl⟩
  obtain ⟨z, rfl⟩ := Int.eq_ofNat_of_zero_le bz
  go_wp2_with fail
  refine Calls.mono (H3.out _) ?_
  rintro e w1 ⟨nx, rfl, ⟨bn, bn'⟩, rfl⟩
  obtain ⟨n, rfl⟩ := Int.eq_ofNat_of_zero_le bn
  go_wp2_with fail
  refine Calls.mono (H4.out _) ?_
  rintro e w2 ⟨ux, rfl, ⟨bu, bu'⟩, rfl⟩
  obtain ⟨u, rfl⟩ := Int.eq_ofNat_of_zero_le bu
  clear H0 H1 H2 H3 H4
  have FM := hid (int_FV m (by omega))
  have FD := hid (int_FV d (by omega))
  have FZ := hid (int_FV z (by omega))
  obtain ⟨rM, pM, eM, fM, qM⟩ := add_exact (int_FV m (by omega)) (int_FV u (by omega)) (fun h => by cases h) (show m + u < 9007199254740992 by omega)
  obtain ⟨rD, pD, eD, fD, qD⟩ := add_exact (int_FV d (by omega)) (int_FV u (by omega)) (fun h => by cases h) (show d + u < 9007199254740992 by omega)
  obtain ⟨rZ, pZ, eZ, fZ, qZ⟩ := add_exact (int_FV z (by omega)) (int_FV u (by omega)) (fun h => by cases h) (show z + u < 9007199254740992 by omega)
  obtain rfl := qM rfl
  obtain rfl := qD rfl
  obtain rfl := qZ rfl
  have A1 := fun w => run_float_arith (P := Try.prog) w .add 22 .f64 _ _ _ eM
  have A2 := fun w => run_float_arith (P := Try.prog) w .add 22 .f64 _ _ _ eD
  have A3 := fun w => run_float_arith (P := Try.prog) w .add 22 .f64 _ _ _ eZ
  have mn : m * n ≤ 1000000 * 1000 := Nat.mul_le_mul (by omega) (by omega)
  have Iof := int_of FM.out (fun h => by cases h) (Nat.mul_le_mul_right _ (by omega))
  rw [Nat.mul_div_cancel _ U_pos] at Iof
  have CV := fun w => run_convert_float_int (P := Try.prog) w 22 3 .f64 .i64 _ _ (by kernel_rfl) Try.underlying3 Iof
  have W0 := hid (show WN (floatOfInt .f64 (m : Int)) (floatOfInt .f64 (d : Int)) (floatOfInt .f64 (z : Int)) m d z n from ⟨FM.out, FD.out, FZ.out, by omega, by omega, by omega, by omega⟩)
  have W1 := hid (show WN rM (floatOfInt .f64 (d : Int)) (floatOfInt .f64 (z : Int)) (m + u) d z n from ⟨fM, FD.out, FZ.out, by omega, by omega, by omega, by omega⟩)
  have W2 := hid (show WN (floatOfInt .f64 (m : Int)) rD (floatOfInt .f64 (z : Int)) m (d + u) z n from ⟨FM.out, fD, FZ.out, by omega, by omega, by omega, by omega⟩)
  have W3 := hid (show WN (floatOfInt .f64 (m : Int)) (floatOfInt .f64 (d : Int)) rZ m d (z + u) n from ⟨FM.out, FD.out, fZ, by omega, by omega, by omega, by omega⟩)
  have W4 := hid (show WN (floatOfInt .f64 (m : Int)) 0 (floatOfInt .f64 (z : Int)) m 0 z n from ⟨FM.out, by rw [Nat.zero_mul]; exact zero_FV, FZ.out, by omega, by omega, by omega, by omega⟩)
  clear FM FD FZ fM fD fZ eM eD eZ qM qD qZ Iof
  go_wp2_with fail
  generalize floatOfInt .f64 (m : Int) = fm at *
  generalize floatOfInt .f64 (d : Int) = fd at *
  generalize floatOfInt .f64 (z : Int) = fz at *
  generalize floatOfInt .f64 (u : Int) = fu at *
  have P := hid (fun M D Z wx => point_any M D Z (n : Int) wx)
  have X0 := hid (show NB (w1.alloc (.cells #[.float .f64 fm, .float .f64 fd, .float .f64 fz, .int .i64 (n : Int)] 24)) w1.heap.size fm fd fz n from heap_alloc_new w1 _)
  have B0 := hid (alloc_below w1 (.cells #[.float .f64 fm, .float .f64 fd, .float .f64 fz, .int .i64 (n : Int)] 24))
  refine Calls.mono (P.out _ _ _ _) ?_
  rintro e v0 ⟨⟨k0, e0, rfl, p0⟩, s0⟩
  obtain rfl := (W0.out.parts p0).1
  have P0 := hid p0
  have XA := hid (X0.out.later s0)
  have BA := hid (bel_step B0.out s0)
  clear X0 B0 s0 p0
  have hbx := (Array.getElem?_eq_some_iff.1 XA.out).1
  generalize hgx : w1.heap.size = bx at *
  have HGX := hid hgx
  clear hgx
  obtain ⟨x0, x1, x2, x3⟩ := XA.out.cells
  have y0 := fun o => below_cells (alloc_below v0 o) _ _ x0
  have y1 := fun o => below_cells (alloc_below v0 o) _ _ x1
  have y2 := fun o => below_cells (alloc_below v0 o) _ _ x2
  have C1 := hid (alloc_below v0 (.cells #[.float .f64 rM, .float .f64 fd, .float .f64 fz, .int .i64 (n : Int)] 24))
  go_wp2_with fail
  refine Calls.mono (P.out _ _ _ _) ?_
  rintro e v1 ⟨⟨k1, e1, rfl, p1⟩, s1⟩
  obtain rfl := (W1.out.parts p1).1
  have P1 := hid p1
  have X1 := hid (XA.out.later (bel_step C1.out s1))
  have B1 := hid (BA.out.trans ((bel_step C1.out s1).mono (Nat.le_of_lt hbx)))
  have hby := Nat.lt_of_lt_of_le hbx (bel_step C1.out s1).size
  clear XA BA C1 s1 p1 x0 x1 x2 x3 y0 y1 y2 hbx
  have hbx := hby
  clear hby
  generalize v0.heap.size = g1 at *
  obtain ⟨x0, x1, x2, x3⟩ := X1.out.cells
  have y0 := fun o => below_cells (alloc_below v1 o) _ _ x0
  have y1 := fun o => below_cells (alloc_below v1 o) _ _ x1
  have y2 := fun o => below_cells (alloc_below v1 o) _ _ x2
  have C2 := hid (alloc_below v1 (.cells #[.float .f64 fm, .float .f64 rD, .float .f64 fz, .int .i64 (n : Int)] 24))
  go_wp2_with fail
  refine Calls.mono (P.out _ _ _ _) ?_
  rintro e v2 ⟨⟨k2, e2, rfl, p2⟩, s2⟩
  obtain rfl := (W2.out.parts p2).1
  have P2 := hid p2
  have X2 := hid (X1.out.later (bel_step C2.out s2))
  have B2 := hid (B1.out.trans ((bel_step C2.out s2).mono (Nat.le_of_lt hbx)))
  have hby := Nat.lt_of_lt_of_le hbx (bel_step C2.out s2).size
  clear X1 B1 C2 s2 p2 x0 x1 x2 x3 y0 y1 y2 hbx
  have hbx := hby
  clear hby
  generalize v1.heap.size = g2 at *
  obtain ⟨x0, x1, x2, x3⟩ := X2.out.cells
  have y0 := fun o => below_cells (alloc_below v2 o) _ _ x0
  have y1 := fun o => below_cells (alloc_below v2 o) _ _ x1
  have y2 := fun o => below_cells (alloc_below v2 o) _ _ x2
  have C3 := hid (alloc_below v2 (.cells #[.float .f64 fm, .float .f64 fd, .float .f64 rZ, .int .i64 (n : Int)] 24))
  go_wp2_with fail
  refine Calls.mono (P.out _ _ _ _) ?_
  rintro e v3 ⟨⟨k3, e3, rfl, p3⟩, s3⟩
  obtain rfl := (W3.out.parts p3).1
  have P3 := hid p3
  have X3 := hid (X2.out.later (bel_step C3.out s3))
  have B3 := hid (B2.out.trans ((bel_step C3.out s3).mono (Nat.le_of_lt hbx)))
  have hby := Nat.lt_of_lt_of_le hbx (bel_step C3.out s3).size
  clear X2 B2 C3 s3 p3 x0 x1 x2 x3 y0 y1 y2 hbx
  have hbx := hby
  clear hby
  generalize v2.heap.size = g3 at *
  obtain ⟨x0, x1, x2, x3⟩ := X3.out.cells
  have y0 := fun o => below_cells (alloc_below v3 o) _ _ x0
  have y1 := fun o => below_cells (alloc_below v3 o) _ _ x1
  have y2 := fun o => below_cells (alloc_below v3 o) _ _ x2
  have C4 := hid (alloc_below v3 (.cells #[.float .f64 fm, .float .f64 0, .float .f64 fz, .int .i64 (n : Int)] 24))
  go_wp2_with fail
  refine Calls.mono (P.out _ _ _ _) ?_
  rintro e v4 ⟨⟨k4, e4, rfl, p4⟩, s4⟩
  obtain rfl := (W4.out.parts p4).1
  have P4 := hid p4
  have X4 := hid (X3.out.later (bel_step C4.out s4))
  have B4 := hid (B3.out.trans ((bel_step C4.out s4).mono (Nat.le_of_lt hbx)))
  have hby := Nat.lt_of_lt_of_le hbx (bel_step C4.out s4).size
  clear X3 B3 C4 s4 p4 x0 x1 x2 x3 y0 y1 y2 hbx
  have hbx := hby
  clear hby
  generalize v3.heap.size = g4 at *
  obtain ⟨x0, x1, x2, x3⟩ := X4.out.cells
  have g1' := pt_grows W0.out W1.out P0.out P1.out (by omega) (Nat.le_refl _)
  have g2' := pt_grows W0.out W2.out P0.out P2.out (Nat.le_refl _) (Nat.mul_le_mul_left _ (by omega))
  have g3' := pt_grows W0.out W3.out P0.out P3.out (Nat.le_refl _) (Nat.mul_le_mul_right _ (by omega))
  have g4' := pt_still W4.out P4.out
  have g5' := pt_grows W4.out W0.out P4.out P0.out (Nat.le_refl _) (by rw [Nat.mul_zero]; exact Nat.zero_le _)
  obtain ⟨mnI, g6, lo, hi⟩ := mn_facts m n mn
  rw [mnI] at g4'
  clear P P0 P1 P2 P3 P4 W0 W1 W2 W3 W4 mn mnI
  subst g4'
  go_wp2_with fail
  go_ret
  exact ⟨rfl, by rw [HGX.out]; exact B4.out⟩
end Go.Proofs.Ytgnnopjkbmbjbab
