/-
  plan: the document's Strong; the law's number.
-/
import Derived.Test.YtgnnopjkbmbjbaaFl3
namespace Go.Proofs.Ytgnnopjkbmbjbaa
open Go.RowKit
set_option maxRecDepth 100000
set_option linter.unusedSimpArgs false

def ptC (f : Nat → Nat × Nat) : List Value := [.float .f64 (f 0).1, .float .f64 (f 0).2, .float .f64 (f 1).1, .float .f64 (f 1).2, .float .f64 (f 2).1, .float .f64 (f 2).2, .float .f64 (f 3).1, .float .f64 (f 3).2]
theorem ptC_at (f : Nat → Nat × Nat) (k : Nat) (hk : k < 4) : (ptC f)[k * 2]? = some (.float .f64 (f k).1) ∧ (ptC f)[k * 2 + 1]? = some (.float .f64 (f k).2) := by
  rcases (show k = 0 ∨ k = 1 ∨ k = 2 ∨ k = 3 by omega) with rfl | rfl | rfl | rfl <;> exact ⟨rfl, rfl⟩
set_option maxHeartbeats 2000000 in
theorem rstrong_any (f : Nat → Nat × Nat) (w : World) :
    Calls Try.prog 16 #[.agg #[.float .f64 (f 0).1, .float .f64 (f 0).2, .float .f64 (f 1).1, .float .f64 (f 1).2, .float .f64 (f 2).1, .float .f64 (f 2).2, .float .f64 (f 3).1, .float .f64 (f 3).2]] w fun e w' => e = .returned (stV f) ∧ Below w.heap.size w w' := by
  have CC := hid (show ∀ k, k < 4 → (w.alloc (.cells #[.float .f64 (f 0).1, .float .f64 (f 0).2, .float .f64 (f 1).1, .float .f64 (f 1).2, .float .f64 (f 2).1, .float .f64 (f 2).2, .float .f64 (f 3).1, .float .f64 (f 3).2] 47)).cell? ⟨w.heap.size, k * 2, none⟩ = some (.float .f64 (f k).1) ∧ (w.alloc (.cells #[.float .f64 (f 0).1, .float .f64 (f 0).2, .float .f64 (f 1).1, .float .f64 (f 1).2, .float .f64 (f 2).1, .float .f64 (f 2).2, .float .f64 (f 3).1, .float .f64 (f 3).2] 47)).cell? ⟨w.heap.size, k * 2 + 1, none⟩ = some (.float .f64 (f k).2) from fun k hk => by
    have h := heap_alloc_new w (.cells #[.float .f64 (f 0).1, .float .f64 (f 0).2, .float .f64 (f 1).1, .float .f64 (f 1).2, .float .f64 (f 2).1, .float .f64 (f 2).2, .float .f64 (f 3).1, .float .f64 (f 3).2] 47)
    obtain ⟨p1, p2⟩ := ptC_at f k hk
    rw [Lib.cell_of_heap h, Lib.cell_of_heap h]
    exact ⟨by simpa [ptC] using p1, by simpa [ptC] using p2⟩)
  have B := hid (alloc_below w (.cells #[.float .f64 (f 0).1, .float .f64 (f 0).2, .float .f64 (f 1).1, .float .f64 (f 1).2, .float .f64 (f 2).1, .float .f64 (f 2).2, .float .f64 (f 3).1, .float .f64 (f 3).2] 47))
  go_enter Try.func16, Try.ntmps16
  go_wp2_with fail
  generalize w.alloc (.cells #[.float .f64 (f 0).1, .float .f64 (f 0).2, .float .f64 (f 1).1, .float .f64 (f 1).2, .float .f64 (f 2).1, .float .f64 (f 2).2, .float .f64 (f 3).1, .float .f64 (f 3).2] 47) = W at *
  generalize hbx : w.heap.size = bx at *
  have HBX := hid hbx
  clear hbx
  go_loopw [5] (fun i wr => ∃ k : Nat, k ≤ 4 ∧ i = .int .i64 (k : Int) ∧ okF f k = true ∧ Below W.heap.size W wr) (fun i _ => 4 - (intOf i).toNat)
  case atStart => exact ⟨0, by omega, rfl, rfl, Below.refl _ _⟩
  case round =>
    obtain ⟨k, hk, rfl, hok, hb⟩ := hrel
    have HO := hid hok
    have HB := hid hb
    clear hok
    by_cases hlt : k < 4
    · have hI : (k : Int) < 4 := by omega
      have HS := hid (okF_succ f k)
      have HN := hid (fun h => stV_no (okF_no (f := f) hlt h))
      have c0 := below_cells hb _ _ (CC.out k hlt).1
      have C1 := hid (below_cells hb _ _ (CC.out k hlt).2)
      have F1 := hid (fun wx => finite_any (f k).1 wx)
      have F2 := hid (fun wx => finite_any (f k).2 wx)
      have E2 := hid (show fin2 (f k) = (finB (f k).1 && finB (f k).2) from rfl)
      clear hb
      generalize (f k).1 = a at c0 C1 F1 F2 E2
      generalize (f k).2 = b at c0 C1 F1 F2 E2
      go_wp2_with fail
      refine Calls.mono (F1.out _) ?_
      rintro e w1 ⟨rfl, s1⟩
      have c1 := below_cells s1 _ _ C1.out
      have B1 := hid (bel_step HB.out s1)
      clear s1
      go_wp2_with fail
      refine Calls.mono (F2.out _) ?_
      rintro e w2 ⟨rfl, s2⟩
      have B2 := hid (bel_step B1.out s2)
      clear s2
      cases q1 : finB a
      · have HN2 := hid (HN.out (by rw [E2.out, q1]; rfl))
        go_wp2
        go_ret3
        exact ⟨by rw [HN2.out]; rfl, by rw [HBX.out]; exact B.out.trans (B2.out.mono (by have := B.out.size; have := HBX.out; omega))⟩
      · cases q2 : finB b
        · have HN2 := hid (HN.out (by rw [E2.out, q2]; simp))
          go_wp2
          go_ret3
          exact ⟨by rw [HN2.out]; rfl, by rw [HBX.out]; exact B.out.trans (B2.out.mono (by have := B.out.size; have := HBX.out; omega))⟩
        · have HY := hid (show okF f (k + 1) = true by rw [HS.out, HO.out, E2.out, q1, q2]; rfl)
          go_wp2_with fail
          go_roundw
          case rel => exact ⟨k + 1, by omega, by go_num, HY.out, B2.out⟩
          case measure => simp [intOf]; omega
    · obtain rfl : k = 4 := by omega
      have hall : ∀ i, i < 4 → fin2 (f i) = true := fun i hi => by
        have := HO.out
        unfold okF at this
        exact List.all_eq_true.1 this i (by simp; omega)
      have a1 := hall 1 (by omega)
      have a2 := hall 2 (by omega)
      unfold fin2 at a1 a2
      rw [Bool.and_eq_true] at a1 a2
      have T1 := hid (fun wx => rstrength_any (f 1).1 (f 1).2 a1.1 a1.2 wx)
      have T2 := hid (fun wx => rstrength_any (f 2).1 (f 2).2 a2.1 a2.2 wx)
      have e1 : s2 ((f 1).1, (f 1).2) = s2 (f 1) := rfl
      have e2 : s2 ((f 2).1, (f 2).2) = s2 (f 2) := rfl
      rw [e1] at T1
      rw [e2] at T2
      have V2 := hid (fun h => stV_two (f := f) HO.out h)
      have V1 := hid (fun h => stV_one (f := f) HO.out h)
      clear a1 a2 hall e1 e2
      have x0 : wr.cell? ⟨bx, 2, none⟩ = some (.float .f64 (f 1).1) := below_cells hb _ _ (CC.out 1 (by omega)).1
      have x1 : wr.cell? ⟨bx, 3, none⟩ = some (.float .f64 (f 1).2) := below_cells hb _ _ (CC.out 1 (by omega)).2
      have Y0 := hid (show wr.cell? ⟨bx, 4, none⟩ = some (.float .f64 (f 2).1) from below_cells hb _ _ (CC.out 2 (by omega)).1)
      have Y1 := hid (show wr.cell? ⟨bx, 5, none⟩ = some (.float .f64 (f 2).2) from below_cells hb _ _ (CC.out 2 (by omega)).2)
      clear hb
      generalize s2 (f 1) = r1 at *
      generalize s2 (f 2) = r2 at *
      generalize (f 1).1 = a1 at *
      generalize (f 1).2 = b1 at *
      generalize (f 2).1 = a2 at *
      generalize (f 2).2 = b2 at *
      go_wp2_with fail
      refine Calls.mono (T1.out _) ?_
      rintro e w1 ⟨rfl, s1⟩
      have y0 := below_cells s1 _ _ Y0.out
      have y1 := below_cells s1 _ _ Y1.out
      have B1 := hid (bel_step HB.out s1)
      clear s1 x0 x1
      go_wp2_with fail
      refine Calls.mono (T2.out _) ?_
      rintro e w2 ⟨rfl, s2⟩
      have B2 := hid (bel_step B1.out s2)
      clear s2
      cases hg : (dbl.order r2 r1 == some .gt)
      · have hg' : (FloatKind.f64.format.order r2 r1 == some .gt) = false := hg
        have VV := hid (V1.out hg)
        clear V1 V2 hg
        go_wp2
        go_ret3
        exact ⟨by rw [VV.out]; rfl, by rw [HBX.out]; exact B.out.trans (B2.out.mono (by have := B.out.size; have := HBX.out; omega))⟩
      · have hg' : (FloatKind.f64.format.order r2 r1 == some .gt) = true := hg
        have VV := hid (V2.out hg)
        clear V1 V2 hg
        go_wp2
        go_ret3
        exact ⟨by rw [VV.out]; rfl, by rw [HBX.out]; exact B.out.trans (B2.out.mono (by have := B.out.size; have := HBX.out; omega))⟩
/-- the same number, and one -/
theorem number_same (a : Nat) (h : nanB a = false) (w : World) : Calls Try.prog 17 #[.float .f64 a, .float .f64 a] w fun e w' => e = .returned (.bool true) ∧ w' = w := by
  have h1 : (FloatKind.f64.format.order a a == some .eq) = true := by rw [show FloatKind.f64.format.order a a = some .eq from order_self h]; rfl
  clear h
  go_enter Try.func17, Try.ntmps17
  go_wp2
  go_ret
  exact ⟨rfl, rfl⟩
theorem stV_form (f : Nat → Nat × Nat) : ∃ (k : Int) (r : Nat) (e : Int), stV f = .tuple #[.int .i64 k, .float .f64 r, .int .i64 e] ∧ nanB r = false := by
  cases h : okF f 4
  · exact ⟨0, 0, 172, stV_no h, by decide +kernel⟩
  · have hall : ∀ i, i < 4 → fin2 (f i) = true := fun i hi => by
      unfold okF at h
      exact List.all_eq_true.1 h i (by simp; omega)
    have a1 := hall 1 (by omega)
    have a2 := hall 2 (by omega)
    unfold fin2 at a1 a2
    rw [Bool.and_eq_true] at a1 a2
    obtain ⟨_, _, _, _, _, n1⟩ := s2_parts a1.1 a1.2
    obtain ⟨_, _, _, _, _, n2⟩ := s2_parts a2.1 a2.2
    cases hg : (dbl.order (s2 (f 2)) (s2 (f 1)) == some .gt)
    · exact ⟨1, s2 (f 1), 0, stV_one h hg, n1⟩
    · exact ⟨2, s2 (f 2), 0, stV_two h hg, n2⟩
end Go.Proofs.Ytgnnopjkbmbjbaa
