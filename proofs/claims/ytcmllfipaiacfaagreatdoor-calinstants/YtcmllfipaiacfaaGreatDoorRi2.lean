/-
  The document's ParseInstant, one theorem an ending. Laid by mkri1.py.
-/
import Derived.Test.YtcmllfipaiacfaaGreatDoorRi0
namespace Go.Proofs.YtcmllfipaiacfaaGreatDoor
open Go.RowKit
set_option maxRecDepth 100000
set_option linter.unusedSimpArgs false
set_option linter.unusedVariables false

set_option maxHeartbeats 2000000 in
theorem rin_shapeE (t : ByteArray) (ht : t.size ≤ 64) (i : Nat) (hi : fnd t.data.toList [84] 0 = i) (his : i ≤ t.size) (y m d e p : Int) (hp : RPd (t.extract 0 i) (rT y m d e p))  (j : Nat) (hj : fnd (t.extract 0 i).data.toList [45] 0 = j) (z : Nat) (hz : fnd t.data.toList [90, 43, 45] (i + 1) = z) (hil : i < t.size) (hiz : i + 1 ≤ z) (hzs : z ≤ t.size) (he : e = 0) (hx : j < i) (n : Nat) (hf1 : fitL (t.extract (i + 1) z).data.toList (SS TE) 0 0 = (-1, n)) (hn64 : n ≤ 64) : RIn t (0, 32, (i : Int) + 1 + (n : Int)) := by
  intro w
  have h64 : ¬ (64 : Int) < (t.size : Int) := by omega
  have F1 := hid (fun w => find_any t ⟨#[84]⟩ 0 ht (by decide) (by omega) w)
  rw [show fnd t.data.toList (⟨#[84]⟩ : ByteArray).data.toList 0 = i from hi] at F1
  have r1 := fun w => run_toI t i (i : Int) rfl his w
  have P := hid hp
  unfold RPd rT dV at P
  unfold tup
  have F2 := hid (fun w => find_any (t.extract 0 i) ⟨#[45]⟩ 0 (by rw [ByteArray.size_extract]; omega) (by decide) (by omega) w)
  rw [show fnd (t.extract 0 i).data.toList (⟨#[45]⟩ : ByteArray).data.toList 0 = j from hj] at F2
  have F3 := hid (fun w => find_any t ⟨#[90, 43, 45]⟩ (i + 1) ht (by decide) (by omega) w)
  rw [show fnd t.data.toList (⟨#[90, 43, 45]⟩ : ByteArray).data.toList (i + 1) = z from hz] at F3
  rw [show ((i + 1 : Nat) : Int) = (i : Int) + 1 by omega] at F3
  have r2 : ∀ w, (Instr.slice 9 (.string t) (some (.int .i64 ((i : Int) + 1))) (some (.int .i64 (z : Int))) none).run Tryz.prog w = .ok (.string (t.extract (i + 1) z)) w := fun w => by
    have h := run_sub t (i + 1) z (z : Int) rfl hiz hzs w
    rw [show ((i + 1 : Nat) : Int) = (i : Int) + 1 by omega] at h
    exact h
  subst he
  have hij : (j : Int) < (i : Int) := by omega
  have hin : ¬ (i : Int) = (t.size : Int) := by omega
  have r3 := fun w => run_toI t z (z : Int) rfl hzs w
  have r4 := fun w => run_fromI t z (z : Int) rfl hzs w
  clear hi hp hj hz
  have F1 := hid (show ∀ w, Calls Tryz.prog 23 #[.string t, .int .i64 0, .string ⟨#[84]⟩] w fun e w' => e = .returned (.int .i64 (i : Int)) ∧ Below w.heap.size w w' from F1.out)
  have F2 := hid (show ∀ w, Calls Tryz.prog 23 #[.string (t.extract 0 i), .int .i64 0, .string ⟨#[45]⟩] w fun e w' => e = .returned (.int .i64 (j : Int)) ∧ Below w.heap.size w w' from F2.out)
  go_enter Tryz.func8, Tryz.ntmps8
  go_wp2_with fail
  refine (F1.out _).mono ?_
  rintro _ w1 ⟨rfl, hb1⟩
  have B1 := hid hb1
  clear hb1 F1
  go_wp2_with fail
  refine (P.out _).mono ?_
  rintro _ w2 ⟨rfl, hb2⟩
  have X2 := hid (Box.new w2 y m d)
  have B2 := hid ((B1.out.trans (hb2.mono B1.out.size)).alloc (Nat.le_trans B1.out.size hb2.size) (.cells #[.int .i64 y, .int .i64 m, .int .i64 d] 34))
  clear hb2 P B1
  go_wp2_with fail
  refine (F2.out _).mono ?_
  rintro _ w3 ⟨rfl, hb3⟩
  have X3 := hid (X2.out.later hb3)
  have B3 := hid (B2.out.trans (hb3.mono B2.out.size))
  clear hb3 F2 X2 B2
  go_wp2_with fail
  refine (F3.out _).mono ?_
  rintro _ w5 ⟨rfl, hb5⟩
  have X5 := hid (X3.out.later hb5)
  have B5 := hid (B3.out.trans (hb5.mono B3.out.size))
  clear hb5 F3 X3 B3
  obtain ⟨W, hW⟩ : ∃ W, (((w5.alloc tpO).alloc zpO).alloc teO).alloc zeO = W := ⟨_, rfl⟩
  have bW : Below w5.heap.size w5 W := by rw [← hW]; exact (((((Below.refl _ _).alloc (Nat.le_refl _) _).alloc (by simp) _).alloc (by simp; omega) _).alloc (by simp; omega) _)
  have zW : W.heap.size = w5.heap.size + 4 := by rw [← hW]; simp
  have sZ : W.heap[w5.heap.size + 3]? = some zeO := by
    have h := heap_alloc_new (((w5.alloc tpO).alloc zpO).alloc teO) zeO
    rw [hW] at h
    first | exact h | (simp at h; exact h)
  have sT : W.heap[w5.heap.size + 2]? = some teO := by
    have h := heap_alloc_new ((w5.alloc tpO).alloc zpO) teO
    have b2 : Below (((w5.alloc tpO).alloc zpO).alloc teO).heap.size (((w5.alloc tpO).alloc zpO).alloc teO) W := by rw [← hW]; exact (Below.refl _ _).alloc (Nat.le_refl _) _
    have h3 := (b2.block _ (by simp)).trans h
    first | exact h3 | (simp at h3; exact h3)
  have XW := hid (X5.out.later bW)
  have BW := hid (B5.out.trans (bW.mono B5.out.size))
  have S1 := hid (shaped_any (t.extract (i + 1) z) (by rw [ByteArray.size_extract]; omega) TE TE_small (by decide) (w5.heap.size + 2) W (ShB.teO sT))
  rw [hf1] at S1
  have SZ := hid sZ
  have HW := hid hW
  unfold TE at S1
  clear bW sT sZ hW zW X5 B5 hf1
  go_wp2_with fail
  try rw [HW.out]
  refine S1.out.mono ?_
  rintro _ w6 ⟨rfl, nq, hw6⟩
  have b6 : Below W.heap.size W w6 := by rw [hw6]; exact below_drewN (Below.refl _ _) nq
  have X6 := hid (XW.out.later b6)
  have B6 := hid (BW.out.trans (b6.mono BW.out.size))
  have SZ6 := hid ((b6.block _ (Array.getElem?_eq_some_iff.1 SZ.out).1).trans SZ.out)
  clear b6 hw6 nq S1 HW XW BW SZ
  rw [shN_no]
  have hneg : (-1 : Int) < 0 := by decide
  have hn6 : n ≤ 64 := hn64
  go_wp2
  go_ret3
  exact ⟨rfl, B6.out⟩
set_option maxHeartbeats 2000000 in
theorem rin_clockE (t : ByteArray) (ht : t.size ≤ 64) (i : Nat) (hi : fnd t.data.toList [84] 0 = i) (his : i ≤ t.size) (y m d e p : Int) (hp : RPd (t.extract 0 i) (rT y m d e p))  (j : Nat) (hj : fnd (t.extract 0 i).data.toList [45] 0 = j) (z : Nat) (hz : fnd t.data.toList [90, 43, 45] (i + 1) = z) (hil : i < t.size) (hiz : i + 1 ≤ z) (hzs : z ≤ t.size) (he : e = 0) (hx : j < i) (k : Nat) (q : Nat) (hf1 : fitL (t.extract (i + 1) z).data.toList (SS TE) 0 0 = ((k : Int), q)) (s pc : Int) (bs : 0 ≤ s ∧ s ≤ 1000000) (hck : RdB 26 #[.string (t.extract 0 z), .int .i64 ((i + 1 : Nat) : Int)] (s, pc, false)) : RIn t (0, 32, pc) := by
  intro w
  have h64 : ¬ (64 : Int) < (t.size : Int) := by omega
  have F1 := hid (fun w => find_any t ⟨#[84]⟩ 0 ht (by decide) (by omega) w)
  rw [show fnd t.data.toList (⟨#[84]⟩ : ByteArray).data.toList 0 = i from hi] at F1
  have r1 := fun w => run_toI t i (i : Int) rfl his w
  have P := hid hp
  unfold RPd rT dV at P
  unfold tup
  have F2 := hid (fun w => find_any (t.extract 0 i) ⟨#[45]⟩ 0 (by rw [ByteArray.size_extract]; omega) (by decide) (by omega) w)
  rw [show fnd (t.extract 0 i).data.toList (⟨#[45]⟩ : ByteArray).data.toList 0 = j from hj] at F2
  have F3 := hid (fun w => find_any t ⟨#[90, 43, 45]⟩ (i + 1) ht (by decide) (by omega) w)
  rw [show fnd t.data.toList (⟨#[90, 43, 45]⟩ : ByteArray).data.toList (i + 1) = z from hz] at F3
  rw [show ((i + 1 : Nat) : Int) = (i : Int) + 1 by omega] at F3
  have r2 : ∀ w, (Instr.slice 9 (.string t) (some (.int .i64 ((i : Int) + 1))) (some (.int .i64 (z : Int))) none).run Tryz.prog w = .ok (.string (t.extract (i + 1) z)) w := fun w => by
    have h := run_sub t (i + 1) z (z : Int) rfl hiz hzs w
    rw [show ((i + 1 : Nat) : Int) = (i : Int) + 1 by omega] at h
    exact h
  subst he
  have hij : (j : Int) < (i : Int) := by omega
  have hin : ¬ (i : Int) = (t.size : Int) := by omega
  have r3 := fun w => run_toI t z (z : Int) rfl hzs w
  have r4 := fun w => run_fromI t z (z : Int) rfl hzs w
  clear hi hp hj hz
  have F1 := hid (show ∀ w, Calls Tryz.prog 23 #[.string t, .int .i64 0, .string ⟨#[84]⟩] w fun e w' => e = .returned (.int .i64 (i : Int)) ∧ Below w.heap.size w w' from F1.out)
  have F2 := hid (show ∀ w, Calls Tryz.prog 23 #[.string (t.extract 0 i), .int .i64 0, .string ⟨#[45]⟩] w fun e w' => e = .returned (.int .i64 (j : Int)) ∧ Below w.heap.size w w' from F2.out)
  go_enter Tryz.func8, Tryz.ntmps8
  go_wp2_with fail
  refine (F1.out _).mono ?_
  rintro _ w1 ⟨rfl, hb1⟩
  have B1 := hid hb1
  clear hb1 F1
  go_wp2_with fail
  refine (P.out _).mono ?_
  rintro _ w2 ⟨rfl, hb2⟩
  have X2 := hid (Box.new w2 y m d)
  have B2 := hid ((B1.out.trans (hb2.mono B1.out.size)).alloc (Nat.le_trans B1.out.size hb2.size) (.cells #[.int .i64 y, .int .i64 m, .int .i64 d] 34))
  clear hb2 P B1
  go_wp2_with fail
  refine (F2.out _).mono ?_
  rintro _ w3 ⟨rfl, hb3⟩
  have X3 := hid (X2.out.later hb3)
  have B3 := hid (B2.out.trans (hb3.mono B2.out.size))
  clear hb3 F2 X2 B2
  go_wp2_with fail
  refine (F3.out _).mono ?_
  rintro _ w5 ⟨rfl, hb5⟩
  have X5 := hid (X3.out.later hb5)
  have B5 := hid (B3.out.trans (hb5.mono B3.out.size))
  clear hb5 F3 X3 B3
  obtain ⟨W, hW⟩ : ∃ W, (((w5.alloc tpO).alloc zpO).alloc teO).alloc zeO = W := ⟨_, rfl⟩
  have bW : Below w5.heap.size w5 W := by rw [← hW]; exact (((((Below.refl _ _).alloc (Nat.le_refl _) _).alloc (by simp) _).alloc (by simp; omega) _).alloc (by simp; omega) _)
  have zW : W.heap.size = w5.heap.size + 4 := by rw [← hW]; simp
  have sZ : W.heap[w5.heap.size + 3]? = some zeO := by
    have h := heap_alloc_new (((w5.alloc tpO).alloc zpO).alloc teO) zeO
    rw [hW] at h
    first | exact h | (simp at h; exact h)
  have sT : W.heap[w5.heap.size + 2]? = some teO := by
    have h := heap_alloc_new ((w5.alloc tpO).alloc zpO) teO
    have b2 : Below (((w5.alloc tpO).alloc zpO).alloc teO).heap.size (((w5.alloc tpO).alloc zpO).alloc teO) W := by rw [← hW]; exact (Below.refl _ _).alloc (Nat.le_refl _) _
    have h3 := (b2.block _ (by simp)).trans h
    first | exact h3 | (simp at h3; exact h3)
  have XW := hid (X5.out.later bW)
  have BW := hid (B5.out.trans (bW.mono B5.out.size))
  have S1 := hid (shaped_any (t.extract (i + 1) z) (by rw [ByteArray.size_extract]; omega) TE TE_small (by decide) (w5.heap.size + 2) W (ShB.teO sT))
  rw [hf1] at S1
  have SZ := hid sZ
  have HW := hid hW
  unfold TE at S1
  clear bW sT sZ hW zW X5 B5 hf1
  go_wp2_with fail
  try rw [HW.out]
  refine S1.out.mono ?_
  rintro _ w6 ⟨rfl, nq, hw6⟩
  have b6 : Below W.heap.size W w6 := by rw [hw6]; exact below_drewN (Below.refl _ _) nq
  have X6 := hid (XW.out.later b6)
  have B6 := hid (BW.out.trans (b6.mono BW.out.size))
  have SZ6 := hid ((b6.block _ (Array.getElem?_eq_some_iff.1 SZ.out).1).trans SZ.out)
  clear b6 hw6 nq S1 HW XW BW SZ
  have KC := hid hck
  unfold RdB tupB at KC
  rw [show ((i + 1 : Nat) : Int) = (i : Int) + 1 by omega] at KC
  clear hck
  go_wp2_with fail
  refine (KC.out _).mono ?_
  rintro _ w7 ⟨rfl, hb7⟩
  have X7 := hid (X6.out.later hb7)
  have B7 := hid (B6.out.trans (hb7.mono B6.out.size))
  have SZ7 := hid ((hb7.block _ (Array.getElem?_eq_some_iff.1 SZ6.out).1).trans SZ6.out)
  clear hb7 KC X6 B6 SZ6
  go_wp2
  go_ret3
  exact ⟨rfl, B7.out⟩
set_option maxHeartbeats 2000000 in
theorem rin_noZE (t : ByteArray) (ht : t.size ≤ 64) (i : Nat) (hi : fnd t.data.toList [84] 0 = i) (his : i ≤ t.size) (y m d e p : Int) (hp : RPd (t.extract 0 i) (rT y m d e p))  (j : Nat) (hj : fnd (t.extract 0 i).data.toList [45] 0 = j) (z : Nat) (hz : fnd t.data.toList [90, 43, 45] (i + 1) = z) (hil : i < t.size) (hiz : i + 1 ≤ z) (hzs : z ≤ t.size) (he : e = 0) (hx : j < i) (k : Nat) (q : Nat) (hf1 : fitL (t.extract (i + 1) z).data.toList (SS TE) 0 0 = ((k : Int), q)) (s pc : Int) (bs : 0 ≤ s ∧ s ≤ 1000000) (hck : RdB 26 #[.string (t.extract 0 z), .int .i64 ((i + 1 : Nat) : Int)] (s, pc, true)) (hzl : z = t.size) : RIn t (0, 33, (t.size : Int)) := by
  intro w
  have HZL := hid hzl
  clear hzl
  have h64 : ¬ (64 : Int) < (t.size : Int) := by omega
  have F1 := hid (fun w => find_any t ⟨#[84]⟩ 0 ht (by decide) (by omega) w)
  rw [show fnd t.data.toList (⟨#[84]⟩ : ByteArray).data.toList 0 = i from hi] at F1
  have r1 := fun w => run_toI t i (i : Int) rfl his w
  have P := hid hp
  unfold RPd rT dV at P
  unfold tup
  have F2 := hid (fun w => find_any (t.extract 0 i) ⟨#[45]⟩ 0 (by rw [ByteArray.size_extract]; omega) (by decide) (by omega) w)
  rw [show fnd (t.extract 0 i).data.toList (⟨#[45]⟩ : ByteArray).data.toList 0 = j from hj] at F2
  have F3 := hid (fun w => find_any t ⟨#[90, 43, 45]⟩ (i + 1) ht (by decide) (by omega) w)
  rw [show fnd t.data.toList (⟨#[90, 43, 45]⟩ : ByteArray).data.toList (i + 1) = z from hz] at F3
  rw [show ((i + 1 : Nat) : Int) = (i : Int) + 1 by omega] at F3
  have r2 : ∀ w, (Instr.slice 9 (.string t) (some (.int .i64 ((i : Int) + 1))) (some (.int .i64 (z : Int))) none).run Tryz.prog w = .ok (.string (t.extract (i + 1) z)) w := fun w => by
    have h := run_sub t (i + 1) z (z : Int) rfl hiz hzs w
    rw [show ((i + 1 : Nat) : Int) = (i : Int) + 1 by omega] at h
    exact h
  subst he
  have hij : (j : Int) < (i : Int) := by omega
  have hin : ¬ (i : Int) = (t.size : Int) := by omega
  have r3 := fun w => run_toI t z (z : Int) rfl hzs w
  have r4 := fun w => run_fromI t z (z : Int) rfl hzs w
  clear hi hp hj hz
  have F1 := hid (show ∀ w, Calls Tryz.prog 23 #[.string t, .int .i64 0, .string ⟨#[84]⟩] w fun e w' => e = .returned (.int .i64 (i : Int)) ∧ Below w.heap.size w w' from F1.out)
  have F2 := hid (show ∀ w, Calls Tryz.prog 23 #[.string (t.extract 0 i), .int .i64 0, .string ⟨#[45]⟩] w fun e w' => e = .returned (.int .i64 (j : Int)) ∧ Below w.heap.size w w' from F2.out)
  go_enter Tryz.func8, Tryz.ntmps8
  go_wp2_with fail
  refine (F1.out _).mono ?_
  rintro _ w1 ⟨rfl, hb1⟩
  have B1 := hid hb1
  clear hb1 F1
  go_wp2_with fail
  refine (P.out _).mono ?_
  rintro _ w2 ⟨rfl, hb2⟩
  have X2 := hid (Box.new w2 y m d)
  have B2 := hid ((B1.out.trans (hb2.mono B1.out.size)).alloc (Nat.le_trans B1.out.size hb2.size) (.cells #[.int .i64 y, .int .i64 m, .int .i64 d] 34))
  clear hb2 P B1
  go_wp2_with fail
  refine (F2.out _).mono ?_
  rintro _ w3 ⟨rfl, hb3⟩
  have X3 := hid (X2.out.later hb3)
  have B3 := hid (B2.out.trans (hb3.mono B2.out.size))
  clear hb3 F2 X2 B2
  go_wp2_with fail
  refine (F3.out _).mono ?_
  rintro _ w5 ⟨rfl, hb5⟩
  have X5 := hid (X3.out.later hb5)
  have B5 := hid (B3.out.trans (hb5.mono B3.out.size))
  clear hb5 F3 X3 B3
  obtain ⟨W, hW⟩ : ∃ W, (((w5.alloc tpO).alloc zpO).alloc teO).alloc zeO = W := ⟨_, rfl⟩
  have bW : Below w5.heap.size w5 W := by rw [← hW]; exact (((((Below.refl _ _).alloc (Nat.le_refl _) _).alloc (by simp) _).alloc (by simp; omega) _).alloc (by simp; omega) _)
  have zW : W.heap.size = w5.heap.size + 4 := by rw [← hW]; simp
  have sZ : W.heap[w5.heap.size + 3]? = some zeO := by
    have h := heap_alloc_new (((w5.alloc tpO).alloc zpO).alloc teO) zeO
    rw [hW] at h
    first | exact h | (simp at h; exact h)
  have sT : W.heap[w5.heap.size + 2]? = some teO := by
    have h := heap_alloc_new ((w5.alloc tpO).alloc zpO) teO
    have b2 : Below (((w5.alloc tpO).alloc zpO).alloc teO).heap.size (((w5.alloc tpO).alloc zpO).alloc teO) W := by rw [← hW]; exact (Below.refl _ _).alloc (Nat.le_refl _) _
    have h3 := (b2.block _ (by simp)).trans h
    first | exact h3 | (simp at h3; exact h3)
  have XW := hid (X5.out.later bW)
  have BW := hid (B5.out.trans (bW.mono B5.out.size))
  have S1 := hid (shaped_any (t.extract (i + 1) z) (by rw [ByteArray.size_extract]; omega) TE TE_small (by decide) (w5.heap.size + 2) W (ShB.teO sT))
  rw [hf1] at S1
  have SZ := hid sZ
  have HW := hid hW
  unfold TE at S1
  clear bW sT sZ hW zW X5 B5 hf1
  go_wp2_with fail
  try rw [HW.out]
  refine S1.out.mono ?_
  rintro _ w6 ⟨rfl, nq, hw6⟩
  have b6 : Below W.heap.size W w6 := by rw [hw6]; exact below_drewN (Below.refl _ _) nq
  have X6 := hid (XW.out.later b6)
  have B6 := hid (BW.out.trans (b6.mono BW.out.size))
  have SZ6 := hid ((b6.block _ (Array.getElem?_eq_some_iff.1 SZ.out).1).trans SZ.out)
  clear b6 hw6 nq S1 HW XW BW SZ
  have KC := hid hck
  unfold RdB tupB at KC
  rw [show ((i + 1 : Nat) : Int) = (i : Int) + 1 by omega] at KC
  clear hck
  go_wp2_with fail
  refine (KC.out _).mono ?_
  rintro _ w7 ⟨rfl, hb7⟩
  have X7 := hid (X6.out.later hb7)
  have B7 := hid (B6.out.trans (hb7.mono B6.out.size))
  have SZ7 := hid ((hb7.block _ (Array.getElem?_eq_some_iff.1 SZ6.out).1).trans SZ6.out)
  clear hb7 KC X6 B6 SZ6
  have hzl' : (z : Int) = (t.size : Int) := by have := HZL.out; omega
  go_wp2
  go_ret3
  exact ⟨rfl, B7.out⟩
set_option maxHeartbeats 2000000 in
theorem rin_zshapeE (t : ByteArray) (ht : t.size ≤ 64) (i : Nat) (hi : fnd t.data.toList [84] 0 = i) (his : i ≤ t.size) (y m d e p : Int) (hp : RPd (t.extract 0 i) (rT y m d e p))  (j : Nat) (hj : fnd (t.extract 0 i).data.toList [45] 0 = j) (z : Nat) (hz : fnd t.data.toList [90, 43, 45] (i + 1) = z) (hil : i < t.size) (hiz : i + 1 ≤ z) (hzs : z ≤ t.size) (he : e = 0) (hx : j < i) (k : Nat) (q : Nat) (hf1 : fitL (t.extract (i + 1) z).data.toList (SS TE) 0 0 = ((k : Int), q)) (s pc : Int) (bs : 0 ≤ s ∧ s ≤ 1000000) (hck : RdB 26 #[.string (t.extract 0 z), .int .i64 ((i + 1 : Nat) : Int)] (s, pc, true)) (hzl : z < t.size) (n : Nat) (hn64 : n ≤ 64) (hf2 : fitL (t.extract z t.size).data.toList (SS ZE) 0 0 = (-1, n)) : RIn t (0, 33, (z : Int) + (n : Int)) := by
  intro w
  have h64 : ¬ (64 : Int) < (t.size : Int) := by omega
  have F1 := hid (fun w => find_any t ⟨#[84]⟩ 0 ht (by decide) (by omega) w)
  rw [show fnd t.data.toList (⟨#[84]⟩ : ByteArray).data.toList 0 = i from hi] at F1
  have r1 := fun w => run_toI t i (i : Int) rfl his w
  have P := hid hp
  unfold RPd rT dV at P
  unfold tup
  have F2 := hid (fun w => find_any (t.extract 0 i) ⟨#[45]⟩ 0 (by rw [ByteArray.size_extract]; omega) (by decide) (by omega) w)
  rw [show fnd (t.extract 0 i).data.toList (⟨#[45]⟩ : ByteArray).data.toList 0 = j from hj] at F2
  have F3 := hid (fun w => find_any t ⟨#[90, 43, 45]⟩ (i + 1) ht (by decide) (by omega) w)
  rw [show fnd t.data.toList (⟨#[90, 43, 45]⟩ : ByteArray).data.toList (i + 1) = z from hz] at F3
  rw [show ((i + 1 : Nat) : Int) = (i : Int) + 1 by omega] at F3
  have r2 : ∀ w, (Instr.slice 9 (.string t) (some (.int .i64 ((i : Int) + 1))) (some (.int .i64 (z : Int))) none).run Tryz.prog w = .ok (.string (t.extract (i + 1) z)) w := fun w => by
    have h := run_sub t (i + 1) z (z : Int) rfl hiz hzs w
    rw [show ((i + 1 : Nat) : Int) = (i : Int) + 1 by omega] at h
    exact h
  subst he
  have hij : (j : Int) < (i : Int) := by omega
  have hin : ¬ (i : Int) = (t.size : Int) := by omega
  have r3 := fun w => run_toI t z (z : Int) rfl hzs w
  have r4 := fun w => run_fromI t z (z : Int) rfl hzs w
  clear hi hp hj hz
  have F1 := hid (show ∀ w, Calls Tryz.prog 23 #[.string t, .int .i64 0, .string ⟨#[84]⟩] w fun e w' => e = .returned (.int .i64 (i : Int)) ∧ Below w.heap.size w w' from F1.out)
  have F2 := hid (show ∀ w, Calls Tryz.prog 23 #[.string (t.extract 0 i), .int .i64 0, .string ⟨#[45]⟩] w fun e w' => e = .returned (.int .i64 (j : Int)) ∧ Below w.heap.size w w' from F2.out)
  go_enter Tryz.func8, Tryz.ntmps8
  go_wp2_with fail
  refine (F1.out _).mono ?_
  rintro _ w1 ⟨rfl, hb1⟩
  have B1 := hid hb1
  clear hb1 F1
  go_wp2_with fail
  refine (P.out _).mono ?_
  rintro _ w2 ⟨rfl, hb2⟩
  have X2 := hid (Box.new w2 y m d)
  have B2 := hid ((B1.out.trans (hb2.mono B1.out.size)).alloc (Nat.le_trans B1.out.size hb2.size) (.cells #[.int .i64 y, .int .i64 m, .int .i64 d] 34))
  clear hb2 P B1
  go_wp2_with fail
  refine (F2.out _).mono ?_
  rintro _ w3 ⟨rfl, hb3⟩
  have X3 := hid (X2.out.later hb3)
  have B3 := hid (B2.out.trans (hb3.mono B2.out.size))
  clear hb3 F2 X2 B2
  go_wp2_with fail
  refine (F3.out _).mono ?_
  rintro _ w5 ⟨rfl, hb5⟩
  have X5 := hid (X3.out.later hb5)
  have B5 := hid (B3.out.trans (hb5.mono B3.out.size))
  clear hb5 F3 X3 B3
  obtain ⟨W, hW⟩ : ∃ W, (((w5.alloc tpO).alloc zpO).alloc teO).alloc zeO = W := ⟨_, rfl⟩
  have bW : Below w5.heap.size w5 W := by rw [← hW]; exact (((((Below.refl _ _).alloc (Nat.le_refl _) _).alloc (by simp) _).alloc (by simp; omega) _).alloc (by simp; omega) _)
  have zW : W.heap.size = w5.heap.size + 4 := by rw [← hW]; simp
  have sZ : W.heap[w5.heap.size + 3]? = some zeO := by
    have h := heap_alloc_new (((w5.alloc tpO).alloc zpO).alloc teO) zeO
    rw [hW] at h
    first | exact h | (simp at h; exact h)
  have sT : W.heap[w5.heap.size + 2]? = some teO := by
    have h := heap_alloc_new ((w5.alloc tpO).alloc zpO) teO
    have b2 : Below (((w5.alloc tpO).alloc zpO).alloc teO).heap.size (((w5.alloc tpO).alloc zpO).alloc teO) W := by rw [← hW]; exact (Below.refl _ _).alloc (Nat.le_refl _) _
    have h3 := (b2.block _ (by simp)).trans h
    first | exact h3 | (simp at h3; exact h3)
  have XW := hid (X5.out.later bW)
  have BW := hid (B5.out.trans (bW.mono B5.out.size))
  have S1 := hid (shaped_any (t.extract (i + 1) z) (by rw [ByteArray.size_extract]; omega) TE TE_small (by decide) (w5.heap.size + 2) W (ShB.teO sT))
  rw [hf1] at S1
  have SZ := hid sZ
  have HW := hid hW
  unfold TE at S1
  clear bW sT sZ hW zW X5 B5 hf1
  go_wp2_with fail
  try rw [HW.out]
  refine S1.out.mono ?_
  rintro _ w6 ⟨rfl, nq, hw6⟩
  have b6 : Below W.heap.size W w6 := by rw [hw6]; exact below_drewN (Below.refl _ _) nq
  have X6 := hid (XW.out.later b6)
  have B6 := hid (BW.out.trans (b6.mono BW.out.size))
  have SZ6 := hid ((b6.block _ (Array.getElem?_eq_some_iff.1 SZ.out).1).trans SZ.out)
  clear b6 hw6 nq S1 HW XW BW SZ
  have KC := hid hck
  unfold RdB tupB at KC
  rw [show ((i + 1 : Nat) : Int) = (i : Int) + 1 by omega] at KC
  clear hck
  go_wp2_with fail
  refine (KC.out _).mono ?_
  rintro _ w7 ⟨rfl, hb7⟩
  have X7 := hid (X6.out.later hb7)
  have B7 := hid (B6.out.trans (hb7.mono B6.out.size))
  have SZ7 := hid ((hb7.block _ (Array.getElem?_eq_some_iff.1 SZ6.out).1).trans SZ6.out)
  clear hb7 KC X6 B6 SZ6
  have S2 := hid (shaped_any (t.extract z t.size) (by rw [ByteArray.size_extract]; omega) ZE ZE_small (by decide) (w5.heap.size + 3) w7 (ShB.zeO SZ7.out))
  rw [hf2] at S2
  unfold ZE at S2
  have hzn : ¬ (z : Int) = (t.size : Int) := by omega
  clear hf2
  go_wp2_with fail
  refine S2.out.mono ?_
  rintro _ w8 ⟨rfl, nq, hw8⟩
  have b8 : Below w7.heap.size w7 w8 := by rw [hw8]; exact below_drewN (Below.refl _ _) nq
  have X8 := hid (X7.out.later b8)
  have B8 := hid (B7.out.trans (b8.mono B7.out.size))
  clear b8 hw8 nq S2 X7 B7 SZ7
  rw [shN_no]
  have hneg : (-1 : Int) < 0 := by decide
  go_wp2
  go_ret3
  exact ⟨rfl, B8.out⟩
set_option maxHeartbeats 2000000 in
theorem rin_zoneE (t : ByteArray) (ht : t.size ≤ 64) (i : Nat) (hi : fnd t.data.toList [84] 0 = i) (his : i ≤ t.size) (y m d e p : Int) (hp : RPd (t.extract 0 i) (rT y m d e p))  (j : Nat) (hj : fnd (t.extract 0 i).data.toList [45] 0 = j) (z : Nat) (hz : fnd t.data.toList [90, 43, 45] (i + 1) = z) (hil : i < t.size) (hiz : i + 1 ≤ z) (hzs : z ≤ t.size) (he : e = 0) (hx : j < i) (k : Nat) (q : Nat) (hf1 : fitL (t.extract (i + 1) z).data.toList (SS TE) 0 0 = ((k : Int), q)) (s pc : Int) (bs : 0 ≤ s ∧ s ≤ 1000000) (hck : RdB 26 #[.string (t.extract 0 z), .int .i64 ((i + 1 : Nat) : Int)] (s, pc, true)) (hzl : z < t.size) (k2 q2 : Nat) (hf2 : fitL (t.extract z t.size).data.toList (SS ZE) 0 0 = ((k2 : Int), q2)) (o pz : Int) (bo : -1000000 ≤ o ∧ o ≤ 1000000) (hzk : RdB 27 #[.string t, .int .i64 (z : Int)] (o, pz, false)) : RIn t (0, 33, pz) := by
  intro w
  have h64 : ¬ (64 : Int) < (t.size : Int) := by omega
  have F1 := hid (fun w => find_any t ⟨#[84]⟩ 0 ht (by decide) (by omega) w)
  rw [show fnd t.data.toList (⟨#[84]⟩ : ByteArray).data.toList 0 = i from hi] at F1
  have r1 := fun w => run_toI t i (i : Int) rfl his w
  have P := hid hp
  unfold RPd rT dV at P
  unfold tup
  have F2 := hid (fun w => find_any (t.extract 0 i) ⟨#[45]⟩ 0 (by rw [ByteArray.size_extract]; omega) (by decide) (by omega) w)
  rw [show fnd (t.extract 0 i).data.toList (⟨#[45]⟩ : ByteArray).data.toList 0 = j from hj] at F2
  have F3 := hid (fun w => find_any t ⟨#[90, 43, 45]⟩ (i + 1) ht (by decide) (by omega) w)
  rw [show fnd t.data.toList (⟨#[90, 43, 45]⟩ : ByteArray).data.toList (i + 1) = z from hz] at F3
  rw [show ((i + 1 : Nat) : Int) = (i : Int) + 1 by omega] at F3
  have r2 : ∀ w, (Instr.slice 9 (.string t) (some (.int .i64 ((i : Int) + 1))) (some (.int .i64 (z : Int))) none).run Tryz.prog w = .ok (.string (t.extract (i + 1) z)) w := fun w => by
    have h := run_sub t (i + 1) z (z : Int) rfl hiz hzs w
    rw [show ((i + 1 : Nat) : Int) = (i : Int) + 1 by omega] at h
    exact h
  subst he
  have hij : (j : Int) < (i : Int) := by omega
  have hin : ¬ (i : Int) = (t.size : Int) := by omega
  have r3 := fun w => run_toI t z (z : Int) rfl hzs w
  have r4 := fun w => run_fromI t z (z : Int) rfl hzs w
  clear hi hp hj hz
  have F1 := hid (show ∀ w, Calls Tryz.prog 23 #[.string t, .int .i64 0, .string ⟨#[84]⟩] w fun e w' => e = .returned (.int .i64 (i : Int)) ∧ Below w.heap.size w w' from F1.out)
  have F2 := hid (show ∀ w, Calls Tryz.prog 23 #[.string (t.extract 0 i), .int .i64 0, .string ⟨#[45]⟩] w fun e w' => e = .returned (.int .i64 (j : Int)) ∧ Below w.heap.size w w' from F2.out)
  go_enter Tryz.func8, Tryz.ntmps8
  go_wp2_with fail
  refine (F1.out _).mono ?_
  rintro _ w1 ⟨rfl, hb1⟩
  have B1 := hid hb1
  clear hb1 F1
  go_wp2_with fail
  refine (P.out _).mono ?_
  rintro _ w2 ⟨rfl, hb2⟩
  have X2 := hid (Box.new w2 y m d)
  have B2 := hid ((B1.out.trans (hb2.mono B1.out.size)).alloc (Nat.le_trans B1.out.size hb2.size) (.cells #[.int .i64 y, .int .i64 m, .int .i64 d] 34))
  clear hb2 P B1
  go_wp2_with fail
  refine (F2.out _).mono ?_
  rintro _ w3 ⟨rfl, hb3⟩
  have X3 := hid (X2.out.later hb3)
  have B3 := hid (B2.out.trans (hb3.mono B2.out.size))
  clear hb3 F2 X2 B2
  go_wp2_with fail
  refine (F3.out _).mono ?_
  rintro _ w5 ⟨rfl, hb5⟩
  have X5 := hid (X3.out.later hb5)
  have B5 := hid (B3.out.trans (hb5.mono B3.out.size))
  clear hb5 F3 X3 B3
  obtain ⟨W, hW⟩ : ∃ W, (((w5.alloc tpO).alloc zpO).alloc teO).alloc zeO = W := ⟨_, rfl⟩
  have bW : Below w5.heap.size w5 W := by rw [← hW]; exact (((((Below.refl _ _).alloc (Nat.le_refl _) _).alloc (by simp) _).alloc (by simp; omega) _).alloc (by simp; omega) _)
  have zW : W.heap.size = w5.heap.size + 4 := by rw [← hW]; simp
  have sZ : W.heap[w5.heap.size + 3]? = some zeO := by
    have h := heap_alloc_new (((w5.alloc tpO).alloc zpO).alloc teO) zeO
    rw [hW] at h
    first | exact h | (simp at h; exact h)
  have sT : W.heap[w5.heap.size + 2]? = some teO := by
    have h := heap_alloc_new ((w5.alloc tpO).alloc zpO) teO
    have b2 : Below (((w5.alloc tpO).alloc zpO).alloc teO).heap.size (((w5.alloc tpO).alloc zpO).alloc teO) W := by rw [← hW]; exact (Below.refl _ _).alloc (Nat.le_refl _) _
    have h3 := (b2.block _ (by simp)).trans h
    first | exact h3 | (simp at h3; exact h3)
  have XW := hid (X5.out.later bW)
  have BW := hid (B5.out.trans (bW.mono B5.out.size))
  have S1 := hid (shaped_any (t.extract (i + 1) z) (by rw [ByteArray.size_extract]; omega) TE TE_small (by decide) (w5.heap.size + 2) W (ShB.teO sT))
  rw [hf1] at S1
  have SZ := hid sZ
  have HW := hid hW
  unfold TE at S1
  clear bW sT sZ hW zW X5 B5 hf1
  go_wp2_with fail
  try rw [HW.out]
  refine S1.out.mono ?_
  rintro _ w6 ⟨rfl, nq, hw6⟩
  have b6 : Below W.heap.size W w6 := by rw [hw6]; exact below_drewN (Below.refl _ _) nq
  have X6 := hid (XW.out.later b6)
  have B6 := hid (BW.out.trans (b6.mono BW.out.size))
  have SZ6 := hid ((b6.block _ (Array.getElem?_eq_some_iff.1 SZ.out).1).trans SZ.out)
  clear b6 hw6 nq S1 HW XW BW SZ
  have KC := hid hck
  unfold RdB tupB at KC
  rw [show ((i + 1 : Nat) : Int) = (i : Int) + 1 by omega] at KC
  clear hck
  go_wp2_with fail
  refine (KC.out _).mono ?_
  rintro _ w7 ⟨rfl, hb7⟩
  have X7 := hid (X6.out.later hb7)
  have B7 := hid (B6.out.trans (hb7.mono B6.out.size))
  have SZ7 := hid ((hb7.block _ (Array.getElem?_eq_some_iff.1 SZ6.out).1).trans SZ6.out)
  clear hb7 KC X6 B6 SZ6
  have S2 := hid (shaped_any (t.extract z t.size) (by rw [ByteArray.size_extract]; omega) ZE ZE_small (by decide) (w5.heap.size + 3) w7 (ShB.zeO SZ7.out))
  rw [hf2] at S2
  unfold ZE at S2
  have hzn : ¬ (z : Int) = (t.size : Int) := by omega
  clear hf2
  go_wp2_with fail
  refine S2.out.mono ?_
  rintro _ w8 ⟨rfl, nq, hw8⟩
  have b8 : Below w7.heap.size w7 w8 := by rw [hw8]; exact below_drewN (Below.refl _ _) nq
  have X8 := hid (X7.out.later b8)
  have B8 := hid (B7.out.trans (b8.mono B7.out.size))
  clear b8 hw8 nq S2 X7 B7 SZ7
  have KZ := hid hzk
  unfold RdB tupB at KZ
  clear hzk
  go_wp2_with fail
  refine (KZ.out _).mono ?_
  rintro _ w9 ⟨rfl, hb9⟩
  have X9 := hid (X8.out.later hb9)
  have B9 := hid (B8.out.trans (hb9.mono B8.out.size))
  clear hb9 KZ X8 B8
  go_wp2
  go_ret3
  exact ⟨rfl, B9.out⟩
set_option maxHeartbeats 2000000 in
theorem rin_goodE (t : ByteArray) (ht : t.size ≤ 64) (i : Nat) (hi : fnd t.data.toList [84] 0 = i) (his : i ≤ t.size) (y m d e p : Int) (hp : RPd (t.extract 0 i) (rT y m d e p))  (j : Nat) (hj : fnd (t.extract 0 i).data.toList [45] 0 = j) (z : Nat) (hz : fnd t.data.toList [90, 43, 45] (i + 1) = z) (hil : i < t.size) (hiz : i + 1 ≤ z) (hzs : z ≤ t.size) (he : e = 0) (hx : j < i) (k : Nat) (q : Nat) (hf1 : fitL (t.extract (i + 1) z).data.toList (SS TE) 0 0 = ((k : Int), q)) (s pc : Int) (bs : 0 ≤ s ∧ s ≤ 1000000) (hck : RdB 26 #[.string (t.extract 0 z), .int .i64 ((i + 1 : Nat) : Int)] (s, pc, true)) (hzl : z < t.size) (k2 q2 : Nat) (hf2 : fitL (t.extract z t.size).data.toList (SS ZE) 0 0 = ((k2 : Int), q2)) (o pz : Int) (bo : -1000000 ≤ o ∧ o ≤ 1000000) (hzk : RdB 27 #[.string t, .int .i64 (z : Int)] (o, pz, true)) (hv : VD y m d) (hrg : InstS (86400 * nb y m d + s - o)) : RIn t (86400 * nb y m d + s - o, 0, 0) := by
  intro w
  have h64 : ¬ (64 : Int) < (t.size : Int) := by omega
  have F1 := hid (fun w => find_any t ⟨#[84]⟩ 0 ht (by decide) (by omega) w)
  rw [show fnd t.data.toList (⟨#[84]⟩ : ByteArray).data.toList 0 = i from hi] at F1
  have r1 := fun w => run_toI t i (i : Int) rfl his w
  have P := hid hp
  unfold RPd rT dV at P
  unfold tup
  have F2 := hid (fun w => find_any (t.extract 0 i) ⟨#[45]⟩ 0 (by rw [ByteArray.size_extract]; omega) (by decide) (by omega) w)
  rw [show fnd (t.extract 0 i).data.toList (⟨#[45]⟩ : ByteArray).data.toList 0 = j from hj] at F2
  have F3 := hid (fun w => find_any t ⟨#[90, 43, 45]⟩ (i + 1) ht (by decide) (by omega) w)
  rw [show fnd t.data.toList (⟨#[90, 43, 45]⟩ : ByteArray).data.toList (i + 1) = z from hz] at F3
  rw [show ((i + 1 : Nat) : Int) = (i : Int) + 1 by omega] at F3
  have r2 : ∀ w, (Instr.slice 9 (.string t) (some (.int .i64 ((i : Int) + 1))) (some (.int .i64 (z : Int))) none).run Tryz.prog w = .ok (.string (t.extract (i + 1) z)) w := fun w => by
    have h := run_sub t (i + 1) z (z : Int) rfl hiz hzs w
    rw [show ((i + 1 : Nat) : Int) = (i : Int) + 1 by omega] at h
    exact h
  subst he
  have hij : (j : Int) < (i : Int) := by omega
  have hin : ¬ (i : Int) = (t.size : Int) := by omega
  have r3 := fun w => run_toI t z (z : Int) rfl hzs w
  have r4 := fun w => run_fromI t z (z : Int) rfl hzs w
  clear hi hp hj hz
  have F1 := hid (show ∀ w, Calls Tryz.prog 23 #[.string t, .int .i64 0, .string ⟨#[84]⟩] w fun e w' => e = .returned (.int .i64 (i : Int)) ∧ Below w.heap.size w w' from F1.out)
  have F2 := hid (show ∀ w, Calls Tryz.prog 23 #[.string (t.extract 0 i), .int .i64 0, .string ⟨#[45]⟩] w fun e w' => e = .returned (.int .i64 (j : Int)) ∧ Below w.heap.size w w' from F2.out)
  go_enter Tryz.func8, Tryz.ntmps8
  go_wp2_with fail
  refine (F1.out _).mono ?_
  rintro _ w1 ⟨rfl, hb1⟩
  have B1 := hid hb1
  clear hb1 F1
  go_wp2_with fail
  refine (P.out _).mono ?_
  rintro _ w2 ⟨rfl, hb2⟩
  have X2 := hid (Box.new w2 y m d)
  have B2 := hid ((B1.out.trans (hb2.mono B1.out.size)).alloc (Nat.le_trans B1.out.size hb2.size) (.cells #[.int .i64 y, .int .i64 m, .int .i64 d] 34))
  clear hb2 P B1
  go_wp2_with fail
  refine (F2.out _).mono ?_
  rintro _ w3 ⟨rfl, hb3⟩
  have X3 := hid (X2.out.later hb3)
  have B3 := hid (B2.out.trans (hb3.mono B2.out.size))
  clear hb3 F2 X2 B2
  go_wp2_with fail
  refine (F3.out _).mono ?_
  rintro _ w5 ⟨rfl, hb5⟩
  have X5 := hid (X3.out.later hb5)
  have B5 := hid (B3.out.trans (hb5.mono B3.out.size))
  clear hb5 F3 X3 B3
  obtain ⟨W, hW⟩ : ∃ W, (((w5.alloc tpO).alloc zpO).alloc teO).alloc zeO = W := ⟨_, rfl⟩
  have bW : Below w5.heap.size w5 W := by rw [← hW]; exact (((((Below.refl _ _).alloc (Nat.le_refl _) _).alloc (by simp) _).alloc (by simp; omega) _).alloc (by simp; omega) _)
  have zW : W.heap.size = w5.heap.size + 4 := by rw [← hW]; simp
  have sZ : W.heap[w5.heap.size + 3]? = some zeO := by
    have h := heap_alloc_new (((w5.alloc tpO).alloc zpO).alloc teO) zeO
    rw [hW] at h
    first | exact h | (simp at h; exact h)
  have sT : W.heap[w5.heap.size + 2]? = some teO := by
    have h := heap_alloc_new ((w5.alloc tpO).alloc zpO) teO
    have b2 : Below (((w5.alloc tpO).alloc zpO).alloc teO).heap.size (((w5.alloc tpO).alloc zpO).alloc teO) W := by rw [← hW]; exact (Below.refl _ _).alloc (Nat.le_refl _) _
    have h3 := (b2.block _ (by simp)).trans h
    first | exact h3 | (simp at h3; exact h3)
  have XW := hid (X5.out.later bW)
  have BW := hid (B5.out.trans (bW.mono B5.out.size))
  have S1 := hid (shaped_any (t.extract (i + 1) z) (by rw [ByteArray.size_extract]; omega) TE TE_small (by decide) (w5.heap.size + 2) W (ShB.teO sT))
  rw [hf1] at S1
  have SZ := hid sZ
  have HW := hid hW
  unfold TE at S1
  clear bW sT sZ hW zW X5 B5 hf1
  go_wp2_with fail
  try rw [HW.out]
  refine S1.out.mono ?_
  rintro _ w6 ⟨rfl, nq, hw6⟩
  have b6 : Below W.heap.size W w6 := by rw [hw6]; exact below_drewN (Below.refl _ _) nq
  have X6 := hid (XW.out.later b6)
  have B6 := hid (BW.out.trans (b6.mono BW.out.size))
  have SZ6 := hid ((b6.block _ (Array.getElem?_eq_some_iff.1 SZ.out).1).trans SZ.out)
  clear b6 hw6 nq S1 HW XW BW SZ
  have KC := hid hck
  unfold RdB tupB at KC
  rw [show ((i + 1 : Nat) : Int) = (i : Int) + 1 by omega] at KC
  clear hck
  go_wp2_with fail
  refine (KC.out _).mono ?_
  rintro _ w7 ⟨rfl, hb7⟩
  have X7 := hid (X6.out.later hb7)
  have B7 := hid (B6.out.trans (hb7.mono B6.out.size))
  have SZ7 := hid ((hb7.block _ (Array.getElem?_eq_some_iff.1 SZ6.out).1).trans SZ6.out)
  clear hb7 KC X6 B6 SZ6
  have S2 := hid (shaped_any (t.extract z t.size) (by rw [ByteArray.size_extract]; omega) ZE ZE_small (by decide) (w5.heap.size + 3) w7 (ShB.zeO SZ7.out))
  rw [hf2] at S2
  unfold ZE at S2
  have hzn : ¬ (z : Int) = (t.size : Int) := by omega
  clear hf2
  go_wp2_with fail
  refine S2.out.mono ?_
  rintro _ w8 ⟨rfl, nq, hw8⟩
  have b8 : Below w7.heap.size w7 w8 := by rw [hw8]; exact below_drewN (Below.refl _ _) nq
  have X8 := hid (X7.out.later b8)
  have B8 := hid (B7.out.trans (b8.mono B7.out.size))
  clear b8 hw8 nq S2 X7 B7 SZ7
  have KZ := hid hzk
  unfold RdB tupB at KZ
  clear hzk
  go_wp2_with fail
  refine (KZ.out _).mono ?_
  rintro _ w9 ⟨rfl, hb9⟩
  have X9 := hid (X8.out.later hb9)
  have B9 := hid (B8.out.trans (hb9.mono B8.out.size))
  clear hb9 KZ X8 B8
  have HN := hid (fun w => refNumber_any y m d hv w)
  unfold dV at HN
  have hnb := nb_range y m d hv
  obtain ⟨k0, k1, k2, _, _, _, _⟩ := X9.out.facts
  obtain ⟨N, hN⟩ : ∃ N, nb y m d = N := ⟨_, rfl⟩
  rw [hN] at HN hnb
  have HNN := hid hN
  clear hN hv
  go_wp2_with fail
  refine (HN.out _).mono ?_
  rintro _ w10 ⟨rfl, hb10⟩
  have BA := hid (B9.out.trans (hb10.mono B9.out.size))
  clear hb10 HN X9 B9 k0 k1 k2
  have eq : N * 86400 + s - o = 86400 * N + s - o := by omega
  rw [HNN.out] at hrg
  obtain ⟨g1, g2⟩ := hrg
  have g3 : ¬ N * 86400 + s - o < 0 := by omega
  have g4 : ¬ 315569519999 < N * 86400 + s - o := by omega
  have EQ := hid eq
  clear eq g1 g2
  go_wp2
  go_ret3
  exact ⟨by rw [HNN.out, ← EQ.out]; rfl, BA.out⟩
set_option maxHeartbeats 2000000 in
theorem rin_rangeE (t : ByteArray) (ht : t.size ≤ 64) (i : Nat) (hi : fnd t.data.toList [84] 0 = i) (his : i ≤ t.size) (y m d e p : Int) (hp : RPd (t.extract 0 i) (rT y m d e p))  (j : Nat) (hj : fnd (t.extract 0 i).data.toList [45] 0 = j) (z : Nat) (hz : fnd t.data.toList [90, 43, 45] (i + 1) = z) (hil : i < t.size) (hiz : i + 1 ≤ z) (hzs : z ≤ t.size) (he : e = 0) (hx : j < i) (k : Nat) (q : Nat) (hf1 : fitL (t.extract (i + 1) z).data.toList (SS TE) 0 0 = ((k : Int), q)) (s pc : Int) (bs : 0 ≤ s ∧ s ≤ 1000000) (hck : RdB 26 #[.string (t.extract 0 z), .int .i64 ((i + 1 : Nat) : Int)] (s, pc, true)) (hzl : z < t.size) (k2 q2 : Nat) (hf2 : fitL (t.extract z t.size).data.toList (SS ZE) 0 0 = ((k2 : Int), q2)) (o pz : Int) (bo : -1000000 ≤ o ∧ o ≤ 1000000) (hzk : RdB 27 #[.string t, .int .i64 (z : Int)] (o, pz, true)) (hv : VD y m d) (hrg : ¬ InstS (86400 * nb y m d + s - o)) : RIn t (0, 35, 0) := by
  intro w
  have h64 : ¬ (64 : Int) < (t.size : Int) := by omega
  have F1 := hid (fun w => find_any t ⟨#[84]⟩ 0 ht (by decide) (by omega) w)
  rw [show fnd t.data.toList (⟨#[84]⟩ : ByteArray).data.toList 0 = i from hi] at F1
  have r1 := fun w => run_toI t i (i : Int) rfl his w
  have P := hid hp
  unfold RPd rT dV at P
  unfold tup
  have F2 := hid (fun w => find_any (t.extract 0 i) ⟨#[45]⟩ 0 (by rw [ByteArray.size_extract]; omega) (by decide) (by omega) w)
  rw [show fnd (t.extract 0 i).data.toList (⟨#[45]⟩ : ByteArray).data.toList 0 = j from hj] at F2
  have F3 := hid (fun w => find_any t ⟨#[90, 43, 45]⟩ (i + 1) ht (by decide) (by omega) w)
  rw [show fnd t.data.toList (⟨#[90, 43, 45]⟩ : ByteArray).data.toList (i + 1) = z from hz] at F3
  rw [show ((i + 1 : Nat) : Int) = (i : Int) + 1 by omega] at F3
  have r2 : ∀ w, (Instr.slice 9 (.string t) (some (.int .i64 ((i : Int) + 1))) (some (.int .i64 (z : Int))) none).run Tryz.prog w = .ok (.string (t.extract (i + 1) z)) w := fun w => by
    have h := run_sub t (i + 1) z (z : Int) rfl hiz hzs w
    rw [show ((i + 1 : Nat) : Int) = (i : Int) + 1 by omega] at h
    exact h
  subst he
  have hij : (j : Int) < (i : Int) := by omega
  have hin : ¬ (i : Int) = (t.size : Int) := by omega
  have r3 := fun w => run_toI t z (z : Int) rfl hzs w
  have r4 := fun w => run_fromI t z (z : Int) rfl hzs w
  clear hi hp hj hz
  have F1 := hid (show ∀ w, Calls Tryz.prog 23 #[.string t, .int .i64 0, .string ⟨#[84]⟩] w fun e w' => e = .returned (.int .i64 (i : Int)) ∧ Below w.heap.size w w' from F1.out)
  have F2 := hid (show ∀ w, Calls Tryz.prog 23 #[.string (t.extract 0 i), .int .i64 0, .string ⟨#[45]⟩] w fun e w' => e = .returned (.int .i64 (j : Int)) ∧ Below w.heap.size w w' from F2.out)
  go_enter Tryz.func8, Tryz.ntmps8
  go_wp2_with fail
  refine (F1.out _).mono ?_
  rintro _ w1 ⟨rfl, hb1⟩
  have B1 := hid hb1
  clear hb1 F1
  go_wp2_with fail
  refine (P.out _).mono ?_
  rintro _ w2 ⟨rfl, hb2⟩
  have X2 := hid (Box.new w2 y m d)
  have B2 := hid ((B1.out.trans (hb2.mono B1.out.size)).alloc (Nat.le_trans B1.out.size hb2.size) (.cells #[.int .i64 y, .int .i64 m, .int .i64 d] 34))
  clear hb2 P B1
  go_wp2_with fail
  refine (F2.out _).mono ?_
  rintro _ w3 ⟨rfl, hb3⟩
  have X3 := hid (X2.out.later hb3)
  have B3 := hid (B2.out.trans (hb3.mono B2.out.size))
  clear hb3 F2 X2 B2
  go_wp2_with fail
  refine (F3.out _).mono ?_
  rintro _ w5 ⟨rfl, hb5⟩
  have X5 := hid (X3.out.later hb5)
  have B5 := hid (B3.out.trans (hb5.mono B3.out.size))
  clear hb5 F3 X3 B3
  obtain ⟨W, hW⟩ : ∃ W, (((w5.alloc tpO).alloc zpO).alloc teO).alloc zeO = W := ⟨_, rfl⟩
  have bW : Below w5.heap.size w5 W := by rw [← hW]; exact (((((Below.refl _ _).alloc (Nat.le_refl _) _).alloc (by simp) _).alloc (by simp; omega) _).alloc (by simp; omega) _)
  have zW : W.heap.size = w5.heap.size + 4 := by rw [← hW]; simp
  have sZ : W.heap[w5.heap.size + 3]? = some zeO := by
    have h := heap_alloc_new (((w5.alloc tpO).alloc zpO).alloc teO) zeO
    rw [hW] at h
    first | exact h | (simp at h; exact h)
  have sT : W.heap[w5.heap.size + 2]? = some teO := by
    have h := heap_alloc_new ((w5.alloc tpO).alloc zpO) teO
    have b2 : Below (((w5.alloc tpO).alloc zpO).alloc teO).heap.size (((w5.alloc tpO).alloc zpO).alloc teO) W := by rw [← hW]; exact (Below.refl _ _).alloc (Nat.le_refl _) _
    have h3 := (b2.block _ (by simp)).trans h
    first | exact h3 | (simp at h3; exact h3)
  have XW := hid (X5.out.later bW)
  have BW := hid (B5.out.trans (bW.mono B5.out.size))
  have S1 := hid (shaped_any (t.extract (i + 1) z) (by rw [ByteArray.size_extract]; omega) TE TE_small (by decide) (w5.heap.size + 2) W (ShB.teO sT))
  rw [hf1] at S1
  have SZ := hid sZ
  have HW := hid hW
  unfold TE at S1
  clear bW sT sZ hW zW X5 B5 hf1
  go_wp2_with fail
  try rw [HW.out]
  refine S1.out.mono ?_
  rintro _ w6 ⟨rfl, nq, hw6⟩
  have b6 : Below W.heap.size W w6 := by rw [hw6]; exact below_drewN (Below.refl _ _) nq
  have X6 := hid (XW.out.later b6)
  have B6 := hid (BW.out.trans (b6.mono BW.out.size))
  have SZ6 := hid ((b6.block _ (Array.getElem?_eq_some_iff.1 SZ.out).1).trans SZ.out)
  clear b6 hw6 nq S1 HW XW BW SZ
  have KC := hid hck
  unfold RdB tupB at KC
  rw [show ((i + 1 : Nat) : Int) = (i : Int) + 1 by omega] at KC
  clear hck
  go_wp2_with fail
  refine (KC.out _).mono ?_
  rintro _ w7 ⟨rfl, hb7⟩
  have X7 := hid (X6.out.later hb7)
  have B7 := hid (B6.out.trans (hb7.mono B6.out.size))
  have SZ7 := hid ((hb7.block _ (Array.getElem?_eq_some_iff.1 SZ6.out).1).trans SZ6.out)
  clear hb7 KC X6 B6 SZ6
  have S2 := hid (shaped_any (t.extract z t.size) (by rw [ByteArray.size_extract]; omega) ZE ZE_small (by decide) (w5.heap.size + 3) w7 (ShB.zeO SZ7.out))
  rw [hf2] at S2
  unfold ZE at S2
  have hzn : ¬ (z : Int) = (t.size : Int) := by omega
  clear hf2
  go_wp2_with fail
  refine S2.out.mono ?_
  rintro _ w8 ⟨rfl, nq, hw8⟩
  have b8 : Below w7.heap.size w7 w8 := by rw [hw8]; exact below_drewN (Below.refl _ _) nq
  have X8 := hid (X7.out.later b8)
  have B8 := hid (B7.out.trans (b8.mono B7.out.size))
  clear b8 hw8 nq S2 X7 B7 SZ7
  have KZ := hid hzk
  unfold RdB tupB at KZ
  clear hzk
  go_wp2_with fail
  refine (KZ.out _).mono ?_
  rintro _ w9 ⟨rfl, hb9⟩
  have X9 := hid (X8.out.later hb9)
  have B9 := hid (B8.out.trans (hb9.mono B8.out.size))
  clear hb9 KZ X8 B8
  have HN := hid (fun w => refNumber_any y m d hv w)
  unfold dV at HN
  have hnb := nb_range y m d hv
  obtain ⟨k0, k1, k2, _, _, _, _⟩ := X9.out.facts
  obtain ⟨N, hN⟩ : ∃ N, nb y m d = N := ⟨_, rfl⟩
  rw [hN] at HN hnb
  have HNN := hid hN
  clear hN hv
  go_wp2_with fail
  refine (HN.out _).mono ?_
  rintro _ w10 ⟨rfl, hb10⟩
  have BA := hid (B9.out.trans (hb10.mono B9.out.size))
  clear hb10 HN X9 B9 k0 k1 k2
  rw [HNN.out] at hrg
  have g3 : N * 86400 + s - o < 0 ∨ 315569519999 < N * 86400 + s - o := by unfold InstS at hrg; omega
  clear hrg
  by_cases g4 : N * 86400 + s - o < 0
  · go_wp2
    go_ret3
    exact ⟨rfl, BA.out⟩
  · have g5 : 315569519999 < N * 86400 + s - o := by omega
    go_wp2
    go_ret3
    exact ⟨rfl, BA.out⟩
end Go.Proofs.YtcmllfipaiacfaaGreatDoor
