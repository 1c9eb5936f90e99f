/-
  An instant's text read: ParseInstant, its other endings. Laid by mktp3.py.
-/
import Derived.Test.YtjpglgemnaknhaaGreatDoorTp2
namespace Go.Proofs.YtjpglgemnaknhaaGreatDoor
open Go.RowKit
set_option maxRecDepth 100000
set_option linter.unusedSimpArgs false
set_option linter.unusedVariables false

theorem ext_allR (t : ByteArray) : t.extract 0 t.size = t := bax (by rw [ByteArray.data_extract, Array.toList_extract, List.extract_eq_take_drop]; exact List.take_of_length_le (by rw [List.length_drop, Array.length_toList]; exact Nat.le_refl _))
theorem cutL_no (t : ByteArray) (c : UInt8) (hx : Lib.indexByte t.data.toList c = -1) (w : World) :
    Calls Tryz.prog 51 #[.string t, .string ⟨#[c]⟩] w fun e w' => e = .returned (.tuple #[.string t, .string ⟨#[]⟩, .bool false]) ∧ Below w.heap.size w w' := by
  have HI := hid (fun w => Tryz.stringslite_Index_one t c w)
  rw [hx] at HI
  clear hx
  go_enter Tryz.func51, Tryz.ntmps51
  go_wp2_with fail
  refine (HI.out _).mono ?_
  rintro e w1 ⟨rfl, rfl⟩
  go_wp2
  go_ret3
  exact ⟨rfl, Below.refl _ _⟩
theorem cut_no (t : ByteArray) (c : UInt8) (hx : Lib.indexByte t.data.toList c = -1) (w : World) :
    Calls Tryz.prog 23 #[.string t, .string ⟨#[c]⟩] w fun e w' => e = .returned (.tuple #[.string t, .string ⟨#[]⟩, .bool false]) ∧ Below w.heap.size w w' := by
  have HI := hid (fun w => cutL_no t c hx w)
  clear hx
  go_enter Tryz.func23, Tryz.ntmps23
  go_wp2_with fail
  refine (HI.out _).mono ?_
  rintro e w1 ⟨rfl, hb⟩
  have HB := hid hb
  clear hb
  go_wp2
  go_ret3
  exact ⟨rfl, HB.out⟩
theorem pin_long (t : ByteArray) (h : 64 < t.size) (w : World) : Calls Tryz.prog 9 #[.string t] w fun e w' => e = .returned (tup (0, 1, 0)) ∧ Below w.heap.size w w' := by
  have h' : (64 : Int) < (t.size : Int) := by omega
  unfold tup
  go_enter Tryz.func9, Tryz.ntmps9
  go_wp2
  go_ret3
  exact ⟨rfl, Below.refl _ _⟩
set_option maxHeartbeats 1000000 in
theorem pin_date (t D R : ByteArray) (f : Bool) (ht : t.size ≤ 64) (hc : ∀ w, Calls Tryz.prog 23 #[.string t, .string ⟨#[84]⟩] w fun e w' => e = .returned (.tuple #[.string D, .string R, .bool f]) ∧ Below w.heap.size w w') (y m d e p : Int)
    (hp : ∀ w, HasAh w → Calls Tryz.prog 7 #[.string D] w fun x w' => x = .returned (rT y m d e p) ∧ Below w.heap.size w w') (he : e ≠ 0 ∨ (e = 0 ∧ f = false)) (w : World) (hA : HasAh w) :
    Calls Tryz.prog 9 #[.string t] w fun x w' => x = .returned (tup (if e = 0 then (0, 32, (t.size : Int)) else (0, e, p))) ∧ Below w.heap.size w w' := by
  have h64 : ¬ (64 : Int) < (t.size : Int) := by omega
  have C1 := hid hc
  have P := hid hp
  unfold rT dV at P
  unfold tup
  have A0 := hid hA
  clear hc hp hA
  rcases he with he | ⟨he, hf⟩
  · rw [if_neg he]
    have he' : ¬ e = 0 := he
    go_enter Tryz.func9, Tryz.ntmps9
    go_wp2_with fail
    refine (C1.out _).mono ?_
    rintro _ w1 ⟨rfl, hb1⟩
    have A1 := hid (A0.out.below hb1)
    have B1 := hid hb1
    clear hb1 C1
    go_wp2_with fail
    refine (P.out _ A1.out).mono ?_
    rintro _ w2 ⟨rfl, hb2⟩
    have B2 := hid ((B1.out.trans (hb2.mono B1.out.size)).alloc (Nat.le_trans B1.out.size hb2.size) (.cells #[.int .i64 y, .int .i64 m, .int .i64 d] 28))
    clear hb2 P A1
    go_wp2
    go_ret3
    exact ⟨rfl, B2.out⟩
  · subst he
    subst hf
    rw [if_pos rfl]
    go_enter Tryz.func9, Tryz.ntmps9
    go_wp2_with fail
    refine (C1.out _).mono ?_
    rintro _ w1 ⟨rfl, hb1⟩
    have A1 := hid (A0.out.below hb1)
    have B1 := hid hb1
    clear hb1 C1
    go_wp2_with fail
    refine (P.out _ A1.out).mono ?_
    rintro _ w2 ⟨rfl, hb2⟩
    have B2 := hid ((B1.out.trans (hb2.mono B1.out.size)).alloc (Nat.le_trans B1.out.size hb2.size) (.cells #[.int .i64 y, .int .i64 m, .int .i64 d] 28))
    clear hb2 P A1
    go_wp2
    go_ret3
    exact ⟨rfl, B2.out⟩
/-- how an instant's text without a zone comes apart -/
structure CutsN (t D R : ByteArray) (x : Bool) : Prop where
  ht : t.size ≤ 64
  hD : D.size ≤ 64
  cut : ∀ w, Calls Tryz.prog 23 #[.string t, .string ⟨#[84]⟩] w fun e w' => e = .returned (.tuple #[.string D, .string R, .bool true]) ∧ Below w.heap.size w w'
  ext : decide (0 ≤ Lib.indexByte D.data.toList 45) = x
  any : ∀ w, Calls Tryz.prog 25 #[.string R, .string ⟨#[90, 43, 45]⟩] w fun e w' => e = .returned (.int .i64 (-1)) ∧ Below w.heap.size w w'
set_option maxHeartbeats 2000000 in
theorem pin_noZt (t D R : ByteArray) (x : Bool) (hC : CutsN t D R x) (y m d : Int) (hp : ∀ w, HasAh w → Calls Tryz.prog 7 #[.string D] w fun e w' => e = .returned (rT y m d 0 0) ∧ Below w.heap.size w w')
    (c et : Int) (pt : Nat) (hpt : pt ≤ 64) (he : et ≠ 0) (hT : Reads3 26 #[.string R, .bool x] (tup (c, et, (pt : Int)))) (w : World) (hA : HasAh w) :
    Calls Tryz.prog 9 #[.string t] w fun e w' => e = .returned (tup (0, et, (D.size : Int) + 1 + (pt : Int))) ∧ Below w.heap.size w w' := by
  have h64 : ¬ (64 : Int) < (t.size : Int) := by have := hC.ht; omega
  have hd64 := hC.hD
  have C1 := hid hC.cut
  have C2 := hid hC.any
  have C3 := hid (fun w => Tryz.strings_Contains_one D 45 w)
  rw [hC.ext] at C3
  have q1 := fun w => (show (Instr.slice 9 (.string R) none (some (.int .i64 (R.size : Int))) none).run Tryz.prog w = .ok (.string R) w by have h := run_toI R R.size (R.size : Int) rfl (Nat.le_refl _) w; rw [ext_allR] at h; exact h)
  have P := hid hp
  have HT := hid hT
  unfold Reads3 at HT
  unfold rT dV at P
  unfold tup at HT ⊢
  have A0 := hid hA
  clear hC hp hT hA
  go_enter Tryz.func9, Tryz.ntmps9
  go_wp2_with fail
  refine (C1.out _).mono ?_
  rintro e w1 ⟨rfl, hb1⟩
  have A1 := hid (A0.out.below hb1)
  have B1 := hid hb1
  clear hb1 C1
  go_wp2_with fail
  refine (P.out _ A1.out).mono ?_
  rintro e w2 ⟨rfl, hb2⟩
  have B2 := hid ((B1.out.trans (hb2.mono B1.out.size)).alloc (Nat.le_trans B1.out.size hb2.size) (.cells #[.int .i64 y, .int .i64 m, .int .i64 d] 28))
  clear hb2 P A1
  go_wp2_with fail
  refine (C3.out _).mono ?_
  rintro e w3 ⟨rfl, rfl⟩
  go_wp2_with fail
  refine (C2.out _).mono ?_
  rintro e w4 ⟨rfl, hb4⟩
  have B4 := hid (B2.out.trans (hb4.mono B2.out.size))
  clear hb4 C2 C3
  go_wp2_with fail
  refine (HT.out _).mono ?_
  rintro e w5 ⟨rfl, hb5⟩
  have B5 := hid (B4.out.trans (hb5.mono B4.out.size))
  clear hb5 HT
  go_wp2
  go_ret3
  exact ⟨rfl, B5.out⟩
set_option maxHeartbeats 2000000 in
theorem pin_noZ (t D R : ByteArray) (x : Bool) (hC : CutsN t D R x) (y m d : Int) (hp : ∀ w, HasAh w → Calls Tryz.prog 7 #[.string D] w fun e w' => e = .returned (rT y m d 0 0) ∧ Below w.heap.size w w')
    (c : Int) (hT : Reads3 26 #[.string R, .bool x] (tup (c, 0, 0))) (w : World) (hA : HasAh w) :
    Calls Tryz.prog 9 #[.string t] w fun e w' => e = .returned (tup (0, 33, (t.size : Int))) ∧ Below w.heap.size w w' := by
  have h64 : ¬ (64 : Int) < (t.size : Int) := by have := hC.ht; omega
  have hd64 := hC.hD
  have C1 := hid hC.cut
  have C2 := hid hC.any
  have C3 := hid (fun w => Tryz.strings_Contains_one D 45 w)
  rw [hC.ext] at C3
  have q1 := fun w => (show (Instr.slice 9 (.string R) none (some (.int .i64 (R.size : Int))) none).run Tryz.prog w = .ok (.string R) w by have h := run_toI R R.size (R.size : Int) rfl (Nat.le_refl _) w; rw [ext_allR] at h; exact h)
  have P := hid hp
  have HT := hid hT
  unfold Reads3 at HT
  unfold rT dV at P
  unfold tup at HT ⊢
  have A0 := hid hA
  clear hC hp hT hA
  go_enter Tryz.func9, Tryz.ntmps9
  go_wp2_with fail
  refine (C1.out _).mono ?_
  rintro e w1 ⟨rfl, hb1⟩
  have A1 := hid (A0.out.below hb1)
  have B1 := hid hb1
  clear hb1 C1
  go_wp2_with fail
  refine (P.out _ A1.out).mono ?_
  rintro e w2 ⟨rfl, hb2⟩
  have B2 := hid ((B1.out.trans (hb2.mono B1.out.size)).alloc (Nat.le_trans B1.out.size hb2.size) (.cells #[.int .i64 y, .int .i64 m, .int .i64 d] 28))
  clear hb2 P A1
  go_wp2_with fail
  refine (C3.out _).mono ?_
  rintro e w3 ⟨rfl, rfl⟩
  go_wp2_with fail
  refine (C2.out _).mono ?_
  rintro e w4 ⟨rfl, hb4⟩
  have B4 := hid (B2.out.trans (hb4.mono B2.out.size))
  clear hb4 C2 C3
  go_wp2_with fail
  refine (HT.out _).mono ?_
  rintro e w5 ⟨rfl, hb5⟩
  have B5 := hid (B4.out.trans (hb5.mono B4.out.size))
  clear hb5 HT
  go_wp2
  go_ret3
  exact ⟨rfl, B5.out⟩
set_option maxHeartbeats 2000000 in
theorem pin_zone (t D R : ByteArray) (x : Bool) (iz : Nat) (hC : Cuts t D R x iz) (y m d : Int) (hp : ∀ w, HasAh w → Calls Tryz.prog 7 #[.string D] w fun e w' => e = .returned (rT y m d 0 0) ∧ Below w.heap.size w w')
    (c z ez : Int) (pz : Nat) (hc : 0 ≤ c ∧ c ≤ 1000000) (hz : -1000000 ≤ z ∧ z ≤ 1000000) (hT : Reads3 26 #[.string (R.extract 0 iz), .bool x] (tup (c, 0, 0))) (hZ : Reads3 27 #[.string (R.extract iz R.size), .bool x] (tup (z, ez, (pz : Int)))) (hez : ez ≠ 0) (hpz : pz ≤ 64) (hR : R.size ≤ 64) (w : World) (hA : HasAh w) :
    Calls Tryz.prog 9 #[.string t] w fun e w' => e = .returned (tup (0, ez, (D.size : Int) + 1 + (iz : Int) + (pz : Int))) ∧ Below w.heap.size w w' := by
  have h64 : ¬ (64 : Int) < (t.size : Int) := by have := hC.ht; omega
  have hd64 := hC.hD
  have C1 := hid hC.cut
  have C2 := hid hC.any
  have C3 := hid (fun w => Tryz.strings_Contains_one D 45 w)
  rw [hC.ext] at C3
  have hq := hC.inz
  have q1 := fun w => run_toI R iz (iz : Int) rfl hC.inz w
  have q2 := fun w => run_fromI R iz (iz : Int) rfl hC.inz w
  have P := hid hp
  have HT := hid hT
  have HZ := hid hZ
  unfold Reads3 at HT HZ
  unfold rT dV at P
  unfold tup at HT HZ ⊢
  have A0 := hid hA
  have hge : 0 ≤ (iz : Int) := by omega
  clear hC hp hT hA hZ
  go_enter Tryz.func9, Tryz.ntmps9
  go_wp2_with fail
  refine (C1.out _).mono ?_
  rintro e w1 ⟨rfl, hb1⟩
  have A1 := hid (A0.out.below hb1)
  have B1 := hid hb1
  clear hb1 C1
  go_wp2_with fail
  refine (P.out _ A1.out).mono ?_
  rintro e w2 ⟨rfl, hb2⟩
  have X2 := hid (Box.new w2 y m d)
  have A2 := hid ((A1.out.below hb2).alloc (.cells #[.int .i64 y, .int .i64 m, .int .i64 d] 28))
  have B2 := hid ((B1.out.trans (hb2.mono B1.out.size)).alloc (Nat.le_trans B1.out.size hb2.size) (.cells #[.int .i64 y, .int .i64 m, .int .i64 d] 28))
  clear hb2 P A1
  go_wp2_with fail
  refine (C3.out _).mono ?_
  rintro e w3 ⟨rfl, hw3⟩
  have X3 := hid (show Box w3 w2.heap.size y m d by rw [hw3]; exact X2.out)
  have A3 := hid (show HasAh w3 by rw [hw3]; exact A2.out)
  have B3 := hid (show Below w.heap.size w w3 by rw [hw3]; exact B2.out)
  clear hw3 X2 A2 B2
  go_wp2_with fail
  refine (C2.out _).mono ?_
  rintro e w4 ⟨rfl, hb4⟩
  have B4 := hid (B3.out.trans (hb4.mono B3.out.size))
  have X4 := hid (X3.out.later hb4)
  have A4 := hid (A3.out.below hb4)
  clear hb4 C2 C3
  go_wp2_with fail
  refine (HT.out _).mono ?_
  rintro e w5 ⟨rfl, hb5⟩
  have B5 := hid (B4.out.trans (hb5.mono B4.out.size))
  have X5 := hid (X4.out.later hb5)
  have A5 := hid (A4.out.below hb5)
  clear hb5 HT X4 A4 B4 X3 A3 B3
  go_wp2_with fail
  refine (HZ.out _).mono ?_
  rintro e w6 ⟨rfl, hb6⟩
  have B6 := hid (B5.out.trans (hb6.mono B5.out.size))
  have X6 := hid (X5.out.later hb6)
  have A6 := hid (A5.out.below hb6)
  clear hb6 HZ X5 A5 B5
  go_wp2
  go_ret3
  exact ⟨rfl, B6.out⟩
set_option maxHeartbeats 2000000 in
theorem pin_range (t D R : ByteArray) (x : Bool) (iz : Nat) (hC : Cuts t D R x iz) (y m d : Int) (hp : ∀ w, HasAh w → Calls Tryz.prog 7 #[.string D] w fun e w' => e = .returned (rT y m d 0 0) ∧ Below w.heap.size w w')
    (hv : VD y m d) (c z : Int) (hc : 0 ≤ c ∧ c ≤ 1000000) (hz : -1000000 ≤ z ∧ z ≤ 1000000) (hT : Reads3 26 #[.string (R.extract 0 iz), .bool x] (tup (c, 0, 0))) (hZ : Reads3 27 #[.string (R.extract iz R.size), .bool x] (tup (z, 0, 0))) (hin : ¬ InstS (86400 * nb y m d + c - 60 * z)) (w : World) (hA : HasAh w) :
    Calls Tryz.prog 9 #[.string t] w fun e w' => e = .returned (tup (0, 35, 0)) ∧ Below w.heap.size w w' := by
  have h64 : ¬ (64 : Int) < (t.size : Int) := by have := hC.ht; omega
  have hd64 := hC.hD
  have C1 := hid hC.cut
  have C2 := hid hC.any
  have C3 := hid (fun w => Tryz.strings_Contains_one D 45 w)
  rw [hC.ext] at C3
  have hq := hC.inz
  have q1 := fun w => run_toI R iz (iz : Int) rfl hC.inz w
  have q2 := fun w => run_fromI R iz (iz : Int) rfl hC.inz w
  have hnb := nb_range y m d hv
  have HN := hid (fun w hA => numberOf_any y m d hv w hA)
  have HI := hid (fun w => isInstantS_any (86400 * nb y m d + c - 60 * z) w)
  rw [decide_eq_false (show ¬ (0 ≤ 86400 * nb y m d + c - 60 * z ∧ 86400 * nb y m d + c - 60 * z ≤ 315569519999) from hin)] at HI
  obtain ⟨N, hN⟩ : ∃ N, nb y m d = N := ⟨_, rfl⟩
  rw [hN] at HN HI hnb
  have P := hid hp
  have HT := hid hT
  have HZ := hid hZ
  unfold Reads3 at HT HZ
  unfold rT dV at P
  unfold dV at HN
  unfold tup at HT HZ ⊢
  have A0 := hid hA
  have hge : 0 ≤ (iz : Int) := by omega
  clear hC hp hT hA hZ hin hN hv
  go_enter Tryz.func9, Tryz.ntmps9
  go_wp2_with fail
  refine (C1.out _).mono ?_
  rintro e w1 ⟨rfl, hb1⟩
  have A1 := hid (A0.out.below hb1)
  have B1 := hid hb1
  clear hb1 C1
  go_wp2_with fail
  refine (P.out _ A1.out).mono ?_
  rintro e w2 ⟨rfl, hb2⟩
  have X2 := hid (Box.new w2 y m d)
  have A2 := hid ((A1.out.below hb2).alloc (.cells #[.int .i64 y, .int .i64 m, .int .i64 d] 28))
  have B2 := hid ((B1.out.trans (hb2.mono B1.out.size)).alloc (Nat.le_trans B1.out.size hb2.size) (.cells #[.int .i64 y, .int .i64 m, .int .i64 d] 28))
  clear hb2 P A1
  go_wp2_with fail
  refine (C3.out _).mono ?_
  rintro e w3 ⟨rfl, hw3⟩
  have X3 := hid (show Box w3 w2.heap.size y m d by rw [hw3]; exact X2.out)
  have A3 := hid (show HasAh w3 by rw [hw3]; exact A2.out)
  have B3 := hid (show Below w.heap.size w w3 by rw [hw3]; exact B2.out)
  clear hw3 X2 A2 B2
  go_wp2_with fail
  refine (C2.out _).mono ?_
  rintro e w4 ⟨rfl, hb4⟩
  have B4 := hid (B3.out.trans (hb4.mono B3.out.size))
  have X4 := hid (X3.out.later hb4)
  have A4 := hid (A3.out.below hb4)
  clear hb4 C2 C3
  go_wp2_with fail
  refine (HT.out _).mono ?_
  rintro e w5 ⟨rfl, hb5⟩
  have B5 := hid (B4.out.trans (hb5.mono B4.out.size))
  have X5 := hid (X4.out.later hb5)
  have A5 := hid (A4.out.below hb5)
  clear hb5 HT X4 A4 B4 X3 A3 B3
  go_wp2_with fail
  refine (HZ.out _).mono ?_
  rintro e w6 ⟨rfl, hb6⟩
  have B6 := hid (B5.out.trans (hb6.mono B5.out.size))
  have X6 := hid (X5.out.later hb6)
  have A6 := hid (A5.out.below hb6)
  clear hb6 HZ X5 A5 B5
  obtain ⟨k0, k1, k2, _, _, _, _⟩ := X6.out.facts
  go_wp2_with fail
  refine (HN.out _ A6.out).mono ?_
  rintro e w7 ⟨rfl, hb7⟩
  have B7 := hid (B6.out.trans (hb7.mono B6.out.size))
  clear hb7 HN X6 A6 B6 k0 k1 k2
  go_wp2_with fail
  refine (HI.out _).mono ?_
  rintro e w8 ⟨rfl, rfl⟩
  go_wp2
  go_ret3
  exact ⟨rfl, B7.out⟩
end Go.Proofs.YtjpglgemnaknhaaGreatDoor
