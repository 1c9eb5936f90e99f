/-
  plan: strength and Strong, the program's and the document's.
-/
import Derived.Test.YtgnnopjkbmbjbaaFl2
import Derived.Test.YtgnnopjkbmbjbaaPq0
import Derived.Deep.RegionHeld3
namespace Go.Proofs.Ytgnnopjkbmbjbaa
open Go.RowKit
set_option maxRecDepth 100000
set_option linter.unusedSimpArgs false

/-- a number's strength -/
def s2 (p : Nat × Nat) : Nat := (((dbl.mul p.1 p.1).bind fun x => (dbl.mul p.2 p.2).bind fun y => dbl.add x y)).getD 0
def fin2 (p : Nat × Nat) : Bool := finB p.1 && finB p.2
theorem s2_parts {a b : Nat} (ha : finB a = true) (hb : finB b = true) : ∃ x y, dbl.mul a a = some x ∧ dbl.mul b b = some y ∧ dbl.add x y = some (s2 (a, b)) ∧ nanB (s2 (a, b)) = false := by
  obtain ⟨x, h1, p1⟩ := sq_pos ha
  obtain ⟨y, h2, p2⟩ := sq_pos hb
  obtain ⟨r, h3, p3⟩ := add_pos p1 p2
  have e : s2 (a, b) = r := by unfold s2; simp [h1, h2, h3]
  rw [e]
  exact ⟨x, y, h1, h2, h3, p3.1⟩
theorem strength_any (a b : Nat) (ha : finB a = true) (hb : finB b = true) (w : World) : Calls Try.prog 27 #[.complex .f64 a b] w fun e w' => e = .returned (.float .f64 (s2 (a, b))) ∧ w' = w := by
  obtain ⟨x, y, h1, h2, h3, _⟩ := s2_parts ha hb
  have m1 := fun w => run_float_arith (P := Try.prog) w .mul 41 .f64 a a x h1
  have m2 := fun w => run_float_arith (P := Try.prog) w .mul 41 .f64 b b y h2
  have m3 := fun w => run_float_arith (P := Try.prog) w .add 41 .f64 x y _ h3
  generalize s2 (a, b) = r at *
  clear ha hb h1 h2 h3
  go_enter Try.func27, Try.ntmps27
  go_wp2
  go_ret
  exact ⟨rfl, rfl⟩
theorem rstrength_any (a b : Nat) (ha : finB a = true) (hb : finB b = true) (w : World) : Calls Try.prog 29 #[.agg #[.float .f64 a, .float .f64 b]] w fun e w' => e = .returned (.float .f64 (s2 (a, b))) ∧ Below w.heap.size w w' := by
  obtain ⟨x, y, h1, h2, h3, _⟩ := s2_parts ha hb
  have m1 := fun w => run_float_arith (P := Try.prog) w .mul 41 .f64 a a x h1
  have m2 := fun w => run_float_arith (P := Try.prog) w .mul 41 .f64 b b y h2
  have m3 := fun w => run_float_arith (P := Try.prog) w .add 41 .f64 x y _ h3
  have B := hid (alloc_below w)
  generalize s2 (a, b) = r at *
  clear ha hb h1 h2 h3
  go_enter Try.func29, Try.ntmps29
  go_wp2
  go_ret
  exact ⟨rfl, B.out _⟩
/-- the first j are finite -/
def okF (f : Nat → Nat × Nat) (j : Nat) : Bool := (List.range j).all fun i => fin2 (f i)
theorem okF_succ (f : Nat → Nat × Nat) (j : Nat) : okF f (j + 1) = (okF f j && fin2 (f j)) := by unfold okF; rw [List.range_succ]; simp
theorem okF_no {f : Nat → Nat × Nat} {j : Nat} (hj : j < 4) (h : fin2 (f j) = false) : okF f 4 = false := by
  unfold okF
  rw [List.all_eq_false]
  exact ⟨j, by simp; omega, by simp [h]⟩
/-- what Strong answers -/
def stV (f : Nat → Nat × Nat) : Value := if okF f 4 = true then (if (dbl.order (s2 (f 2)) (s2 (f 1)) == some .gt) = true then .tuple #[.int .i64 2, .float .f64 (s2 (f 2)), .int .i64 0] else .tuple #[.int .i64 1, .float .f64 (s2 (f 1)), .int .i64 0]) else .tuple #[.int .i64 0, .float .f64 0, .int .i64 172]
theorem stV_no {f : Nat → Nat × Nat} (h : okF f 4 = false) : stV f = .tuple #[.int .i64 0, .float .f64 0, .int .i64 172] := if_neg (by rw [h]; simp)
theorem stV_two {f : Nat → Nat × Nat} (h : okF f 4 = true) (h2 : (dbl.order (s2 (f 2)) (s2 (f 1)) == some .gt) = true) : stV f = .tuple #[.int .i64 2, .float .f64 (s2 (f 2)), .int .i64 0] := by unfold stV; rw [if_pos h, if_pos h2]
theorem stV_one {f : Nat → Nat × Nat} (h : okF f 4 = true) (h2 : (dbl.order (s2 (f 2)) (s2 (f 1)) == some .gt) = false) : stV f = .tuple #[.int .i64 1, .float .f64 (s2 (f 1)), .int .i64 0] := by unfold stV; rw [if_pos h, if_neg (by rw [h2]; simp)]
/-- four complex numbers -/
def cpA (f : Nat → Nat × Nat) : Value := .agg #[.complex .f64 (f 0).1 (f 0).2, .complex .f64 (f 1).1 (f 1).2, .complex .f64 (f 2).1 (f 2).2, .complex .f64 (f 3).1 (f 3).2]
theorem run_idx (f : Nat → Nat × Nat) (k : Nat) (hk : k < 4) (w : World) : (Instr.index 44 (cpA f) (.int .i64 (k : Int))).run Try.prog w = .ok (.complex .f64 (f k).1 (f k).2) w := by
  rcases (show k = 0 ∨ k = 1 ∨ k = 2 ∨ k = 3 by omega) with rfl | rfl | rfl | rfl <;> kernel_rfl
set_option maxHeartbeats 2000000 in
theorem strong_any (f : Nat → Nat × Nat) (hb : ∀ i, (f i).1 < 18446744073709551616 ∧ (f i).2 < 18446744073709551616) (w : World) :
    Calls Try.prog 15 #[.agg #[.complex .f64 (f 0).1 (f 0).2, .complex .f64 (f 1).1 (f 1).2, .complex .f64 (f 2).1 (f 2).2, .complex .f64 (f 3).1 (f 3).2]] w fun e w' => e = .returned (stV f) ∧ Below w.heap.size w w' := by
  have HF := hid (fun i wx => And.intro (isFinite_any (f i).1 (hb i).1 wx) (isFinite_any (f i).2 (hb i).2 wx))
  have B := hid (alloc_below w)
  clear hb
  go_enter Try.func15, Try.ntmps15
  go_wp2_with fail
  go_loop [10] (fun i => ∃ k : Nat, k ≤ 4 ∧ i = .int .i64 (k : Int) ∧ okF f k = true) (fun i => 4 - (intOf i).toNat)
  case atStart => exact ⟨0, by omega, rfl, rfl⟩
  case round =>
    obtain ⟨k, hk, rfl, hok⟩ := hrel
    have HO := hid hok
    clear hok
    by_cases hlt : k < 4
    · have hI : (k : Int) < 4 := by omega
      have HS := hid (okF_succ f k)
      have HN := hid (fun h => stV_no (okF_no (f := f) hlt h))
      have F1 := hid (fun wx => (HF.out k wx).1)
      have F2 := hid (fun wx => (HF.out k wx).2)
      have HR := fun wx => run_idx f k hlt wx
      unfold cpA at HR
      have E2 := hid (show fin2 (f k) = (finB (f k).1 && finB (f k).2) from rfl)
      generalize (f k).1 = a at HR F1 F2 E2
      generalize (f k).2 = b at HR F1 F2 E2
      cases q1 : finB a
      · have HN2 := hid (HN.out (by rw [E2.out, q1]; rfl))
        go_wp2_with fail
        refine Calls.mono (F1.out _) ?_
        rintro e w1 ⟨rfl, rfl⟩
        rw [q1]
        go_wp2
        go_ret3
        exact ⟨by rw [HN2.out]; rfl, B.out _⟩
      · cases q2 : finB b
        · have HN2 := hid (HN.out (by rw [E2.out, q2]; simp))
          go_wp2_with fail
          refine Calls.mono (F1.out _) ?_
          rintro e w1 ⟨rfl, rfl⟩
          rw [q1]
          go_wp2_with fail
          refine Calls.mono (F2.out _) ?_
          rintro e w1 ⟨rfl, rfl⟩
          rw [q2]
          go_wp2
          go_ret3
          exact ⟨by rw [HN2.out]; rfl, B.out _⟩
        · have HY := hid (show okF f (k + 1) = true by rw [HS.out, HO.out, E2.out, q1, q2]; rfl)
          go_wp2_with fail
          refine Calls.mono (F1.out _) ?_
          rintro e w1 ⟨rfl, rfl⟩
          rw [q1]
          go_wp2_with fail
          refine Calls.mono (F2.out _) ?_
          rintro e w1 ⟨rfl, rfl⟩
          rw [q2]
          go_wp2_with fail
          go_round
          case rel => exact ⟨k + 1, by omega, by go_num, HY.out⟩
          case measure => simp [intOf]; omega
    · obtain rfl : k = 4 := by omega
      have hall : ∀ i, i < 4 → fin2 (f i) = true := fun i hi => by
        have := HO.out
        unfold okF at this
        exact List.all_eq_true.1 this i (by simp; omega)
      have a1 := hall 1 (by omega)
      have a2 := hall 2 (by omega)
      unfold fin2 at a1 a2
      rw [Bool.and_eq_true] at a1 a2
      have T1 := hid (fun wx => strength_any (f 1).1 (f 1).2 a1.1 a1.2 wx)
      have T2 := hid (fun wx => strength_any (f 2).1 (f 2).2 a2.1 a2.2 wx)
      have e1 : s2 ((f 1).1, (f 1).2) = s2 (f 1) := rfl
      have e2 : s2 ((f 2).1, (f 2).2) = s2 (f 2) := rfl
      rw [e1] at T1
      rw [e2] at T2
      have V2 := hid (fun h => stV_two (f := f) HO.out h)
      have V1 := hid (fun h => stV_one (f := f) HO.out h)
      clear a1 a2 hall e1 e2
      obtain ⟨W, hW⟩ : ∃ W, w.alloc (.cells #[.complex .f64 (f 0).1 (f 0).2, .complex .f64 (f 1).1 (f 1).2, .complex .f64 (f 2).1 (f 2).2, .complex .f64 (f 3).1 (f 3).2] 44) = W := ⟨_, rfl⟩
      have NW : W.heap[w.heap.size]? = some (.cells #[.complex .f64 (f 0).1 (f 0).2, .complex .f64 (f 1).1 (f 1).2, .complex .f64 (f 2).1 (f 2).2, .complex .f64 (f 3).1 (f 3).2] 44 (0, 0)) := by rw [← hW]; exact heap_alloc_new w _
      have BB := hid (show Below w.heap.size w W by rw [← hW]; exact B.out _)
      have c1 : W.cell? ⟨w.heap.size, 1, none⟩ = some (.complex .f64 (f 1).1 (f 1).2) := by rw [Lib.cell_of_heap NW]; rfl
      have c2 : W.cell? ⟨w.heap.size, 2, none⟩ = some (.complex .f64 (f 2).1 (f 2).2) := by rw [Lib.cell_of_heap NW]; rfl
      have HW := hid hW
      clear hW NW
      generalize hbx : w.heap.size = bx at *
      have HBX := hid hbx
      clear hbx
      generalize s2 (f 1) = r1 at *
      generalize s2 (f 2) = r2 at *
      cases hg : (dbl.order r2 r1 == some .gt)
      · have hg' : (FloatKind.f64.format.order r2 r1 == some .gt) = false := hg
        have VV := hid (V1.out hg)
        clear V1 V2 hg
        go_wp2_with fail
        rw [HW.out]
        generalize (f 0).1 = a0 at *
        generalize (f 0).2 = b0 at *
        generalize (f 1).1 = a1 at *
        generalize (f 1).2 = b1 at *
        generalize (f 2).1 = a2 at *
        generalize (f 2).2 = b2 at *
        go_quiet (first
          | (go_at_call_of 27 (Value.complex .f64 a1 b1); exact Calls.quiet_of_same (T1.out _))
          | (go_at_call_of 27 (Value.complex .f64 a2 b2); exact Calls.quiet_of_same (T2.out _)))
        have BQ := hid (below_drewN BB.out nq)
        go_wp2
        go_ret3
        exact ⟨by rw [VV.out]; rfl, by rw [HBX.out]; exact BQ.out⟩
      · have hg' : (FloatKind.f64.format.order r2 r1 == some .gt) = true := hg
        have VV := hid (V2.out hg)
        clear V1 V2 hg
        go_wp2_with fail
        rw [HW.out]
        generalize (f 0).1 = a0 at *
        generalize (f 0).2 = b0 at *
        generalize (f 1).1 = a1 at *
        generalize (f 1).2 = b1 at *
        generalize (f 2).1 = a2 at *
        generalize (f 2).2 = b2 at *
        go_quiet (first
          | (go_at_call_of 27 (Value.complex .f64 a1 b1); exact Calls.quiet_of_same (T1.out _))
          | (go_at_call_of 27 (Value.complex .f64 a2 b2); exact Calls.quiet_of_same (T2.out _)))
        have BQ := hid (below_drewN BB.out nq)
        go_wp2
        go_ret3
        exact ⟨by rw [VV.out]; rfl, by rw [HBX.out]; exact BQ.out⟩
end Go.Proofs.Ytgnnopjkbmbjbaa
