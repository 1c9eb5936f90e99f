/-
  PlanOrders: the walk.
-/
import Derived.Test.YtgnnopjkbmbjbaaPq4
import Derived.Deep.RegionHeld3
namespace Go.Proofs.Ytgnnopjkbmbjbaa
open Go.RowKit
set_option maxRecDepth 100000
set_option linter.unusedSimpArgs false

def xC : ByteArray := ⟨#[120]⟩
theorem okX (a b p u k : Int) (h : (0 ≤ a ∧ a ≤ 1099511627776) ∧ (0 ≤ b ∧ b ≤ 1099511627776) ∧ (0 ≤ p ∧ p ≤ 1099511627776) ∧ (0 ≤ u ∧ u ≤ 1099511627776) ∧ 1 ≤ k ∧ k ≤ 1099511627776) : itOk ⟨⟨#[120]⟩, a, b, p, u, k⟩ ⟨#[]⟩ = true := by
  have h0 : flw ⟨#[120]⟩ ⟨#[]⟩ = true := by decide +kernel
  unfold itOk wiB
  simp only [h0, Bool.true_and, Bool.and_eq_true, decide_eq_true_eq]
  omega
/-- an item in a block -/
def IB (w : World) (b : Nat) (x : It) : Prop := w.heap[b]? = some (.cells (itC x).toArray 24 (0, 0))
theorem IB.new (w : World) (x : It) : IB (w.alloc (.cells #[.string x.code, .int .i64 x.have_, .int .i64 x.coming, .int .i64 x.point, .int .i64 x.upto, .int .i64 x.pack] 24)) w.heap.size x := heap_alloc_new w _
theorem IB.later {w w' : World} {b : Nat} {x : It} (h : IB w b x) (hb : Below w.heap.size w w') : IB w' b x := (hb.block b (Array.getElem?_eq_some_iff.1 h).1).trans h
theorem IB.cells {w : World} {b : Nat} {x : It} (h : IB w b x) : w.cell? ⟨b, 0, none⟩ = some (.string x.code) ∧ w.cell? ⟨b, 1, none⟩ = some (.int .i64 x.have_) ∧ w.cell? ⟨b, 2, none⟩ = some (.int .i64 x.coming) ∧ w.cell? ⟨b, 3, none⟩ = some (.int .i64 x.point) ∧ w.cell? ⟨b, 4, none⟩ = some (.int .i64 x.upto) ∧ w.cell? ⟨b, 5, none⟩ = some (.int .i64 x.pack) := by
  refine ⟨?_, ?_, ?_, ?_, ?_, ?_⟩ <;> rw [Lib.cell_of_heap h] <;> rfl
set_option maxHeartbeats 4000000 in
theorem planOrders_any (a0 a1 a2 a3 a4 : Int) (w : World) (h0 : I64 a0) (h1 : I64 a1) (h2 : I64 a2) (h3 : I64 a3) (h4 : I64 a4) :
    Calls Try.prog 3 #[.int .i64 a0, .int .i64 a1, .int .i64 a2, .int .i64 a3, .int .i64 a4] w fun e w' => e = .returned (.bool true) ∧ Below w.heap.size w w' := by
  have H0 := hid (fun wx => lwithin_any a0 0 1073741824 wx h0 (by omega) (by omega) (by omega))
  have H1 := hid (fun wx => lwithin_any a1 0 1073741824 wx h1 (by omega) (by omega) (by omega))
  have H2 := hid (fun wx => lwithin_any a2 0 2147483648 wx h2 (by omega) (by omega) (by omega))
  have H3 := hid (fun wx => lwithin_any a3 0 2147483648 wx h3 (by omega) (by omega) (by omega))
  have H4 := hid (fun wx => lwithin_any a4 1 1048576 wx h4 (by omega) (by omega) (by omega))
  clear h0 h1 h2 h3 h4
  go_enter Try.func3, Try.ntmps3
  go_wp2_with fail
  refine Calls.mono (H0.out _) ?_
  rintro e w1 ⟨a, rfl, ⟨ba, ba'⟩, rfl⟩
  go_wp2_with fail
  refine Calls.mono (H1.out _) ?_
  rintro e w1 ⟨b, rfl, ⟨bb, bb'⟩, rfl⟩
  go_wp2_with fail
  refine Calls.mono (H2.out _) ?_
  rintro e w1 ⟨p, rfl, ⟨bp, bp'⟩, rfl⟩
  go_wp2_with fail
  refine Calls.mono (H3.out _) ?_
  rintro e w1 ⟨u, rfl, ⟨bu, bu'⟩, rfl⟩
  go_wp2_with fail
  refine Calls.mono (H4.out _) ?_
  rintro e w1 ⟨k, rfl, ⟨bk, bk'⟩, rfl⟩
  clear H0 H1 H2 H3 H4
  have R := hid (fun wx v h => restock_one v ⟨⟨#[120]⟩, a, b, p, u, k⟩ wx h (okX _ _ _ _ _ (by omega)))
  have R1 := hid (fun wx v h => restock_one v ⟨⟨#[120]⟩, p + 1, 0, p, u, k⟩ wx h (okX _ _ _ _ _ (by omega)))
  have R2 := hid (fun wx v h => restock_one v ⟨⟨#[120]⟩, 0, 0, p, u + 1, k⟩ wx h (okX _ _ _ _ _ (by omega)))
  go_wp2_with fail
  have X := hid (((IB.new w1 ⟨⟨#[120]⟩, a, b, p, u, k⟩).later (alloc_below _ (.cells #[.string ⟨#[120]⟩, .int .i64 a, .int .i64 b, .int .i64 p, .int .i64 u, .int .i64 k] 24))))
  have B := hid (bel_step (alloc_below w1 (.cells #[.string ⟨#[120]⟩, .int .i64 a, .int .i64 b, .int .i64 p, .int .i64 u, .int .i64 k] 24)) (alloc_below _ (.cells #[.string ⟨#[120]⟩, .int .i64 a, .int .i64 b, .int .i64 p, .int .i64 u, .int .i64 k] 24)))
  have RI := hid (rl_one (enc := itC) (k := 6) (x := ⟨⟨#[120]⟩, a, b, p, u, k⟩) (heap_alloc_new (w1.alloc (.cells #[.string ⟨#[120]⟩, .int .i64 a, .int .i64 b, .int .i64 p, .int .i64 u, .int .i64 k] 24)) (.cells #[.string ⟨#[120]⟩, .int .i64 a, .int .i64 b, .int .i64 p, .int .i64 u, .int .i64 k] 24)) rfl)
  rw [World.size_alloc] at RI
  refine Calls.mono (R.out _ _ RI.out) ?_
  rintro e w3 ⟨⟨l1, rfl, O1⟩, s3⟩
  have X3 := hid (X.out.later s3)
  have B3 := hid (bel_step B.out s3)
  have O1' := hid (OL.mono O1 (base' := 0) (Nat.zero_le _))
  clear X B RI R s3 O1
  have hbx := (Array.getElem?_eq_some_iff.1 X3.out).1
  generalize hgx : w1.heap.size = bx at *
  have HGX := hid hgx
  clear hgx
  obtain ⟨x0, x1, x2, x3, x4, x5⟩ := X3.out.cells
  have xa3 := fun o => below_cells (alloc_below w3 o) _ _ x3
  go_wp2_with fail
  have B := hid (bel_step (alloc_below w3 (.cells #[.string ⟨#[120]⟩, .int .i64 (p + 1), .int .i64 0, .int .i64 p, .int .i64 u, .int .i64 k] 24)) (alloc_below _ (.cells #[.string ⟨#[120]⟩, .int .i64 (p + 1), .int .i64 0, .int .i64 p, .int .i64 u, .int .i64 k] 24)))
  have RJ := hid (rl_one (enc := itC) (k := 6) (x := ⟨⟨#[120]⟩, p + 1, 0, p, u, k⟩) (heap_alloc_new (w3.alloc (.cells #[.string ⟨#[120]⟩, .int .i64 (p + 1), .int .i64 0, .int .i64 p, .int .i64 u, .int .i64 k] 24)) (.cells #[.string ⟨#[120]⟩, .int .i64 (p + 1), .int .i64 0, .int .i64 p, .int .i64 u, .int .i64 k] 24)) rfl)
  rw [World.size_alloc] at RJ
  refine Calls.mono (R1.out _ _ RJ.out) ?_
  rintro e w4 ⟨⟨l2, rfl, O2⟩, s4⟩
  rw [rs1_no (by exact bk) (.inl (by simp only; omega))] at O2
  have X4 := hid (X3.out.later (bel_step B.out s4))
  have B4 := hid (B3.out.trans ((bel_step B.out s4).mono (Nat.le_of_lt hbx)))
  have O14 := hid (O1'.out.below (bel_step B.out s4))
  obtain ⟨ao2, cp2, rfl⟩ := (OL.reads lnC_len O2).len0
  clear X3 B RJ R1 s4 O2 O1' B3 x0 x1 x2 x3 x4 x5 xa3
  have hb3 := (Array.getElem?_eq_some_iff.1 X4.out).1
  clear hbx
  obtain ⟨x0, x1, x2, x3, x4, x5⟩ := X4.out.cells
  have xa4 := fun o => below_cells (alloc_below w4 o) _ _ x4
  simp only [List.length_nil]
  generalize w3.heap.size = by_ at *
  go_wp2_with fail
  have B := hid (bel_step (alloc_below w4 (.cells #[.string ⟨#[120]⟩, .int .i64 0, .int .i64 0, .int .i64 p, .int .i64 (u + 1), .int .i64 k] 24)) (alloc_below _ (.cells #[.string ⟨#[120]⟩, .int .i64 0, .int .i64 0, .int .i64 p, .int .i64 (u + 1), .int .i64 k] 24)))
  have RJ := hid (rl_one (enc := itC) (k := 6) (x := ⟨⟨#[120]⟩, 0, 0, p, u + 1, k⟩) (heap_alloc_new (w4.alloc (.cells #[.string ⟨#[120]⟩, .int .i64 0, .int .i64 0, .int .i64 p, .int .i64 (u + 1), .int .i64 k] 24)) (.cells #[.string ⟨#[120]⟩, .int .i64 0, .int .i64 0, .int .i64 p, .int .i64 (u + 1), .int .i64 k] 24)) rfl)
  have Z := hid (((IB.new w4 ⟨⟨#[120]⟩, 0, 0, p, u + 1, k⟩).later (alloc_below _ (.cells #[.string ⟨#[120]⟩, .int .i64 0, .int .i64 0, .int .i64 p, .int .i64 (u + 1), .int .i64 k] 24))))
  rw [World.size_alloc] at RJ
  refine Calls.mono (R2.out _ _ RJ.out) ?_
  rintro e w5 ⟨⟨l3, rfl, O3⟩, s5⟩
  obtain ⟨q, hq, q1, q2, q3, q4⟩ := rs1_yes (x := ⟨⟨#[120]⟩, 0, 0, p, u + 1, k⟩) (by exact bk) (by simp only; omega) (by simp only; omega)
  rw [hq] at O3
  have X5 := hid (X4.out.later (bel_step B.out s5))
  have Z5 := hid (Z.out.later s5)
  have B5 := hid (B4.out.trans ((bel_step B.out s5).mono (Nat.le_of_lt hb3)))
  have O15 := hid (O14.out.below (bel_step B.out s5))
  obtain ⟨g3, off3, cp3, rfl, hc3, d0, d1⟩ := one_line O3
  clear X4 B RJ R2 s5 O3 O14 B4 x0 x1 x2 x3 x4 x5 xa4 Z hq
  obtain ⟨x0, x1, x2, x3, x4, x5⟩ := X5.out.cells
  obtain ⟨z0, z1, z2, z3, z4, z5⟩ := Z5.out.cells
  dsimp only at *
  generalize w4.heap.size = bz at *
  have qt : q.tmod k = 0 := by rw [Int.tmod_eq_emod_of_nonneg (by omega)]; exact q2
  have hk0 : ¬ k = 0 := by omega
  have v1 : ¬ q < u + 1 := by omega
  have v2 : ¬ u + 1 ≤ q - k := by omega
  have v3 : IntKind.i64.wrap (q - k) = q - k := by rw [IntKind.wrap_i64]; omega
  clear q2
  by_cases hno : p < a + b ∨ u ≤ a + b
  · rw [rs1_no (by exact bk) (by exact hno)] at O15
    obtain ⟨ao1, cp1, rfl⟩ := (OL.reads lnC_len O15.out).len0
    simp only [List.length_nil]
    clear O15
    go_wp2_with fail
    go_quiet (fail)
    have BQ := hid (below_drewN B5.out nq)
    replace x1 : (w5.drewN nq).cell? ⟨bx, 1, none⟩ = some (.int .i64 a) := x1
    replace x2 : (w5.drewN nq).cell? ⟨bx, 2, none⟩ = some (.int .i64 b) := x2
    replace x3 : (w5.drewN nq).cell? ⟨bx, 3, none⟩ = some (.int .i64 p) := x3
    replace x4 : (w5.drewN nq).cell? ⟨bx, 4, none⟩ = some (.int .i64 u) := x4
    generalize w5.drewN nq = w6 at *
    by_cases h1 : p < a + b
    · clear hno
      go_wp2
      go_ret
      exact ⟨rfl, by rw [HGX.out]; exact BQ.out⟩
    · have h2 : u ≤ a + b := by omega
      clear hno
      go_wp2
      go_ret
      exact ⟨rfl, by rw [HGX.out]; exact BQ.out⟩
  · obtain ⟨r, hr, r1, r2, r3, r4⟩ := rs1_yes (x := ⟨⟨#[120]⟩, a, b, p, u, k⟩) (by exact bk) (by simp only; omega) (by simp only; omega)
    dsimp only at r1 r2 r3 r4
    rw [hr] at O15
    obtain ⟨g1, off1, cp1, rfl, hc1, f0, f1⟩ := one_line O15.out
    clear hr O15
    dsimp only at f0 f1
    have rt : r.tmod k = 0 := by rw [Int.tmod_eq_emod_of_nonneg (by omega)]; exact r2
    have t1 : IntKind.i64.wrap (a + b + r) = a + b + r := by rw [IntKind.wrap_i64]; omega
    have t2 : IntKind.i64.wrap (a + b + r - k) = a + b + r - k := by rw [IntKind.wrap_i64]; omega
    have h1 : ¬ p < a + b := by omega
    have h2 : ¬ u ≤ a + b := by omega
    clear hno r2
    go_wp2_with fail
    go_quiet (fail)
    have BQ := hid (below_drewN B5.out nq)
    replace x1 : (w5.drewN nq).cell? ⟨bx, 1, none⟩ = some (.int .i64 a) := x1
    replace x2 : (w5.drewN nq).cell? ⟨bx, 2, none⟩ = some (.int .i64 b) := x2
    replace x3 : (w5.drewN nq).cell? ⟨bx, 3, none⟩ = some (.int .i64 p) := x3
    replace x4 : (w5.drewN nq).cell? ⟨bx, 4, none⟩ = some (.int .i64 u) := x4
    replace x5 : (w5.drewN nq).cell? ⟨bx, 5, none⟩ = some (.int .i64 k) := x5
    replace f0 : (w5.drewN nq).cell? ⟨g1, off1, none⟩ = some (.string ⟨#[120]⟩) := f0
    replace f1 : (w5.drewN nq).cell? ⟨g1, off1 + 1, none⟩ = some (.int .i64 r) := f1
    generalize w5.drewN nq = w6 at *
    go_wp2_with fail
    go_quiet (fail)
    have BQ2 := hid (below_drewN BQ.out nq)
    go_wp2
    go_ret
    exact ⟨rfl, by rw [HGX.out]; exact BQ2.out⟩
end Go.Proofs.Ytgnnopjkbmbjbaa
