/-
  A date's text read: ParseDate.
-/
import Derived.Test.YtjpglgemnaknhaaGreatDoorShap
import Derived.Test.YtjpglgemnaknhaaGreatDoorRda
import Derived.Test.YtjpglgemnaknhaaGreatDoorRdb
import Derived.Test.YtjpglgemnaknhaaGreatDoorRd3
namespace Go.Proofs.YtjpglgemnaknhaaGreatDoor
open Go.RowKit
set_option maxRecDepth 100000

/-- the number of some digits of a text -/
def nt (t : ByteArray) (a k : Nat) : Int := (nm (sub t.data.toList a k) : Int)

/-- an answer of three -/
def rT (y m d e p : Int) : Value := .tuple #[dV y m d, .int .i64 e, .int .i64 p]
theorem rdV_is (p1 p2 : Nat) (n0 n1 n2 : Int) : ∃ y m d e p, rdV p1 p2 n0 n1 n2 = rT y m d e p := by
  unfold rdV
  split
  · split
    · exact ⟨_, _, _, _, _, rfl⟩
    · exact ⟨_, _, _, _, _, rfl⟩
  · exact ⟨_, _, _, _, _, rfl⟩
theorem ryV_is (p1 : Nat) (n0 n1 : Int) : ∃ y m d e p, ryV p1 n0 n1 = rT y m d e p := by
  unfold ryV
  split
  · exact ⟨_, _, _, _, _, rfl⟩
  · exact ⟨_, _, _, _, _, rfl⟩
theorem rwV_is (p1 p2 : Nat) (n0 n1 n2 : Int) : ∃ y m d e p, rwV p1 p2 n0 n1 n2 = rT y m d e p := by
  unfold rwV ofT
  split
  · split
    · split
      · exact ⟨_, _, _, _, _, rfl⟩
      · exact ⟨_, _, _, _, _, rfl⟩
    · exact ⟨_, _, _, _, _, rfl⟩
  · exact ⟨_, _, _, _, _, rfl⟩

/-- the answer for a text that has the shape k -/
def shA (t : ByteArray) (k : Nat) : Value :=
  match k with
  | 0 => rdV 5 8 (nt t 0 4) (nt t 5 2) (nt t 8 2)
  | 1 => rdV 4 6 (nt t 0 4) (nt t 4 2) (nt t 6 2)
  | 2 => ryV 5 (nt t 0 4) (nt t 5 3)
  | 3 => ryV 4 (nt t 0 4) (nt t 4 3)
  | 4 => rwV 6 9 (nt t 0 4) (nt t 6 2) (nt t 9 1)
  | _ => rwV 5 7 (nt t 0 4) (nt t 5 2) (nt t 7 1)

theorem shapes_any (w : World) : Calls Tryz.prog 15 #[] w fun e w' => e = .returned (.slice (some ⟨w.heap.size, 0, none⟩) 6 6) ∧ w' = w.alloc dsO := by
  go_enter Tryz.func15, Tryz.ntmps15
  go_wp2
  go_ret
  exact ⟨rfl, rfl⟩

/-- the world behind fit -/
theorem fit_ds (t : ByteArray) (ht : t.size ≤ 64) (w : World) : Calls Tryz.prog 14 #[.string t, .slice (some ⟨w.heap.size, 0, none⟩) 6 6] (w.alloc dsO) fun e w' => e = .returned (.tuple #[.int .i64 (fitL t.data.toList (SS DS) 0 0).1, .int .i64 ((fitL t.data.toList (SS DS) 0 0).2 : Nat)]) ∧ Below w.heap.size w w' := by
  refine (fit_any t ht DS DS_small (by decide) w.heap.size (w.alloc dsO) (ShB.ds (heap_alloc_new _ _))).mono ?_
  rintro e w' ⟨rfl, n, rfl⟩
  exact ⟨rfl, below_drewN ((Below.refl _ _).alloc (Nat.le_refl _) _) n⟩

theorem parse_long (t : ByteArray) (ht : 64 < t.size) (w : World) : Calls Tryz.prog 7 #[.string t] w fun e w' => e = .returned (rT 0 0 0 1 0) ∧ Below w.heap.size w w' := by
  unfold rT dV
  have hB := alloc_below w zD
  go_enter Tryz.func7, Tryz.ntmps7
  go_wp2
  refine bodyPost_ret (by simp [results, Tryz.results7, go_sem]; try rfl) rfl ?_
  exact ⟨rfl, hB⟩

theorem parse_none (t : ByteArray) (ht : t.size ≤ 64) (p : Nat) (hf : fitL t.data.toList (SS DS) 0 0 = (-1, p)) (w : World) : Calls Tryz.prog 7 #[.string t] w fun e w' => e = .returned (rT 0 0 0 31 (p : Int)) ∧ Below w.heap.size w w' := by
  have hsz : (w.alloc zD).heap.size = w.heap.size + 1 := by simp
  have HF := hid (fit_ds t ht (w.alloc zD))
  rw [hf, hsz] at HF
  have HS := hid (shapes_any (w.alloc zD))
  rw [hsz] at HS
  unfold rT dV
  clear hf
  go_enter Tryz.func7, Tryz.ntmps7
  go_wp2_with fail
  refine HS.out.mono ?_
  rintro e w1 ⟨rfl, rfl⟩
  go_wp2_with fail
  refine HF.out.mono ?_
  rintro e w2 ⟨rfl, hb⟩
  rw [← hsz] at hb
  have hx := (Box.new w 0 0 0).later hb
  obtain ⟨k0, k1, k2, f0, f1, f2, _⟩ := hx.facts
  obtain ⟨d0, d1, d2, _⟩ := (hx.put 0 0 0).facts
  have HB := hid ((alloc_below w zD).trans (hb.mono (by simp)))
  clear hx hb
  go_wp2
  refine bodyPost_ret (by simp [results, Tryz.results7, go_sem, d0, d1, d2]; try rfl) rfl ?_
  exact ⟨rfl, ((HB.out.setCell (Nat.le_refl _) _).setCell (Nat.le_refl _) _).setCell (Nat.le_refl _) _⟩

set_option maxHeartbeats 1000000 in
theorem parse_0 (t : ByteArray) (hm : MK t 0) (hf : fitL t.data.toList (SS DS) 0 0 = (0, 0)) (w : World) (hA : HasAh w) :
    Calls Tryz.prog 7 #[.string t] w fun e w' => e = .returned (shA t 0) ∧ Below w.heap.size w w' := by
  have hz := mk_size t 0 10 hm (by decide +kernel)
  have HR := hid (fun w hA => readDay_any t (by omega) 5 8 (mk_sk t 0 0 0 hm (by decide +kernel)) (mk_sk t 0 4 5 hm (by decide +kernel)) (mk_sk t 0 7 8 hm (by decide +kernel)) ⟨by omega, by omega, mk_dig t 0 0 4 hm (by decide +kernel)⟩ ⟨by omega, by omega, mk_dig t 0 5 2 hm (by decide +kernel)⟩ ⟨by omega, by omega, mk_dig t 0 8 2 hm (by decide +kernel)⟩ w hA)
  obtain ⟨y, m, d, e, p, hv⟩ := rdV_is 5 8 (nt t 0 4) (nt t 5 2) (nt t 8 2)
  have HV : Hid (shA t 0 = rT y m d e p) := hv
  rw [HV.out]
  have HR2 : Hid (∀ w, HasAh w → Calls Tryz.prog 16 #[.string t] w fun x w' => x = .returned (rT y m d e p) ∧ Below w.heap.size w w') := fun w hA => by
    have h := HR.out w hA
    rw [← hv]
    exact h
  have hsz : (w.alloc zD).heap.size = w.heap.size + 1 := by simp
  have HF := hid (fit_ds t (by omega) (w.alloc zD))
  rw [hf, hsz] at HF
  have HS := hid (shapes_any (w.alloc zD))
  rw [hsz] at HS
  have HA := hid hA
  unfold rT dV at *
  clear hf hv hm HV HR hA
  go_enter Tryz.func7, Tryz.ntmps7
  go_wp2_with fail
  refine HS.out.mono ?_
  rintro e w1 ⟨rfl, rfl⟩
  go_wp2_with fail
  refine HF.out.mono ?_
  rintro e w2 ⟨rfl, hb⟩
  rw [← hsz] at hb
  have HX := hid ((Box.new w 0 0 0).later hb)
  have HB := hid ((alloc_below w zD).trans (hb.mono (by simp)))
  have HA2 := hid (HA.out.below HB.out)
  clear hb HF HS HA
  go_wp2_with fail
  refine (HR2.out _ HA2.out).mono ?_
  rintro e w3 ⟨rfl, hb3⟩
  have hx := HX.out.later hb3
  obtain ⟨k0, k1, k2, f0, f1, f2, _⟩ := hx.facts
  obtain ⟨d0, d1, d2, _⟩ := (hx.put y m d).facts
  have HB3 := hid (HB.out.trans (hb3.mono HB.out.size))
  clear hx hb3 HX HB
  go_wp2
  refine bodyPost_ret (by simp [results, Tryz.results7, go_sem, d0, d1, d2]; try rfl) rfl ?_
  exact ⟨rfl, ((HB3.out.setCell (Nat.le_refl _) _).setCell (Nat.le_refl _) _).setCell (Nat.le_refl _) _⟩

set_option maxHeartbeats 1000000 in
theorem parse_1 (t : ByteArray) (hm : MK t 1) (hf : fitL t.data.toList (SS DS) 0 0 = (1, 0)) (w : World) (hA : HasAh w) :
    Calls Tryz.prog 7 #[.string t] w fun e w' => e = .returned (shA t 1) ∧ Below w.heap.size w w' := by
  have hz := mk_size t 1 8 hm (by decide +kernel)
  have HR := hid (fun w hA => readDay_any t (by omega) 4 6 (mk_sk t 1 0 0 hm (by decide +kernel)) (mk_sk t 1 4 4 hm (by decide +kernel)) (mk_sk t 1 6 6 hm (by decide +kernel)) ⟨by omega, by omega, mk_dig t 1 0 4 hm (by decide +kernel)⟩ ⟨by omega, by omega, mk_dig t 1 4 2 hm (by decide +kernel)⟩ ⟨by omega, by omega, mk_dig t 1 6 2 hm (by decide +kernel)⟩ w hA)
  obtain ⟨y, m, d, e, p, hv⟩ := rdV_is 4 6 (nt t 0 4) (nt t 4 2) (nt t 6 2)
  have HV : Hid (shA t 1 = rT y m d e p) := hv
  rw [HV.out]
  have HR2 : Hid (∀ w, HasAh w → Calls Tryz.prog 16 #[.string t] w fun x w' => x = .returned (rT y m d e p) ∧ Below w.heap.size w w') := fun w hA => by
    have h := HR.out w hA
    rw [← hv]
    exact h
  have hsz : (w.alloc zD).heap.size = w.heap.size + 1 := by simp
  have HF := hid (fit_ds t (by omega) (w.alloc zD))
  rw [hf, hsz] at HF
  have HS := hid (shapes_any (w.alloc zD))
  rw [hsz] at HS
  have HA := hid hA
  unfold rT dV at *
  clear hf hv hm HV HR hA
  go_enter Tryz.func7, Tryz.ntmps7
  go_wp2_with fail
  refine HS.out.mono ?_
  rintro e w1 ⟨rfl, rfl⟩
  go_wp2_with fail
  refine HF.out.mono ?_
  rintro e w2 ⟨rfl, hb⟩
  rw [← hsz] at hb
  have HX := hid ((Box.new w 0 0 0).later hb)
  have HB := hid ((alloc_below w zD).trans (hb.mono (by simp)))
  have HA2 := hid (HA.out.below HB.out)
  clear hb HF HS HA
  go_wp2_with fail
  refine (HR2.out _ HA2.out).mono ?_
  rintro e w3 ⟨rfl, hb3⟩
  have hx := HX.out.later hb3
  obtain ⟨k0, k1, k2, f0, f1, f2, _⟩ := hx.facts
  obtain ⟨d0, d1, d2, _⟩ := (hx.put y m d).facts
  have HB3 := hid (HB.out.trans (hb3.mono HB.out.size))
  clear hx hb3 HX HB
  go_wp2
  refine bodyPost_ret (by simp [results, Tryz.results7, go_sem, d0, d1, d2]; try rfl) rfl ?_
  exact ⟨rfl, ((HB3.out.setCell (Nat.le_refl _) _).setCell (Nat.le_refl _) _).setCell (Nat.le_refl _) _⟩

set_option maxHeartbeats 1000000 in
theorem parse_2 (t : ByteArray) (hm : MK t 2) (hf : fitL t.data.toList (SS DS) 0 0 = (2, 0)) (w : World) (hA : HasAh w) :
    Calls Tryz.prog 7 #[.string t] w fun e w' => e = .returned (shA t 2) ∧ Below w.heap.size w w' := by
  have hz := mk_size t 2 8 hm (by decide +kernel)
  have HR := hid (fun w hA => readDayOfYear_any t (by omega) 5 (mk_sk t 2 0 0 hm (by decide +kernel)) (mk_sk t 2 4 5 hm (by decide +kernel)) ⟨by omega, by omega, mk_dig t 2 0 4 hm (by decide +kernel)⟩ ⟨by omega, by omega, mk_dig t 2 5 3 hm (by decide +kernel)⟩ w hA)
  obtain ⟨y, m, d, e, p, hv⟩ := ryV_is 5 (nt t 0 4) (nt t 5 3)
  have HV : Hid (shA t 2 = rT y m d e p) := hv
  rw [HV.out]
  have HR2 : Hid (∀ w, HasAh w → Calls Tryz.prog 17 #[.string t] w fun x w' => x = .returned (rT y m d e p) ∧ Below w.heap.size w w') := fun w hA => by
    have h := HR.out w hA
    rw [← hv]
    exact h
  have hsz : (w.alloc zD).heap.size = w.heap.size + 1 := by simp
  have HF := hid (fit_ds t (by omega) (w.alloc zD))
  rw [hf, hsz] at HF
  have HS := hid (shapes_any (w.alloc zD))
  rw [hsz] at HS
  have HA := hid hA
  unfold rT dV at *
  clear hf hv hm HV HR hA
  go_enter Tryz.func7, Tryz.ntmps7
  go_wp2_with fail
  refine HS.out.mono ?_
  rintro e w1 ⟨rfl, rfl⟩
  go_wp2_with fail
  refine HF.out.mono ?_
  rintro e w2 ⟨rfl, hb⟩
  rw [← hsz] at hb
  have HX := hid ((Box.new w 0 0 0).later hb)
  have HB := hid ((alloc_below w zD).trans (hb.mono (by simp)))
  have HA2 := hid (HA.out.below HB.out)
  clear hb HF HS HA
  go_wp2_with fail
  refine (HR2.out _ HA2.out).mono ?_
  rintro e w3 ⟨rfl, hb3⟩
  have hx := HX.out.later hb3
  obtain ⟨k0, k1, k2, f0, f1, f2, _⟩ := hx.facts
  obtain ⟨d0, d1, d2, _⟩ := (hx.put y m d).facts
  have HB3 := hid (HB.out.trans (hb3.mono HB.out.size))
  clear hx hb3 HX HB
  go_wp2
  refine bodyPost_ret (by simp [results, Tryz.results7, go_sem, d0, d1, d2]; try rfl) rfl ?_
  exact ⟨rfl, ((HB3.out.setCell (Nat.le_refl _) _).setCell (Nat.le_refl _) _).setCell (Nat.le_refl _) _⟩

set_option maxHeartbeats 1000000 in
theorem parse_3 (t : ByteArray) (hm : MK t 3) (hf : fitL t.data.toList (SS DS) 0 0 = (3, 0)) (w : World) (hA : HasAh w) :
    Calls Tryz.prog 7 #[.string t] w fun e w' => e = .returned (shA t 3) ∧ Below w.heap.size w w' := by
  have hz := mk_size t 3 7 hm (by decide +kernel)
  have HR := hid (fun w hA => readDayOfYear_any t (by omega) 4 (mk_sk t 3 0 0 hm (by decide +kernel)) (mk_sk t 3 4 4 hm (by decide +kernel)) ⟨by omega, by omega, mk_dig t 3 0 4 hm (by decide +kernel)⟩ ⟨by omega, by omega, mk_dig t 3 4 3 hm (by decide +kernel)⟩ w hA)
  obtain ⟨y, m, d, e, p, hv⟩ := ryV_is 4 (nt t 0 4) (nt t 4 3)
  have HV : Hid (shA t 3 = rT y m d e p) := hv
  rw [HV.out]
  have HR2 : Hid (∀ w, HasAh w → Calls Tryz.prog 17 #[.string t] w fun x w' => x = .returned (rT y m d e p) ∧ Below w.heap.size w w') := fun w hA => by
    have h := HR.out w hA
    rw [← hv]
    exact h
  have hsz : (w.alloc zD).heap.size = w.heap.size + 1 := by simp
  have HF := hid (fit_ds t (by omega) (w.alloc zD))
  rw [hf, hsz] at HF
  have HS := hid (shapes_any (w.alloc zD))
  rw [hsz] at HS
  have HA := hid hA
  unfold rT dV at *
  clear hf hv hm HV HR hA
  go_enter Tryz.func7, Tryz.ntmps7
  go_wp2_with fail
  refine HS.out.mono ?_
  rintro e w1 ⟨rfl, rfl⟩
  go_wp2_with fail
  refine HF.out.mono ?_
  rintro e w2 ⟨rfl, hb⟩
  rw [← hsz] at hb
  have HX := hid ((Box.new w 0 0 0).later hb)
  have HB := hid ((alloc_below w zD).trans (hb.mono (by simp)))
  have HA2 := hid (HA.out.below HB.out)
  clear hb HF HS HA
  go_wp2_with fail
  refine (HR2.out _ HA2.out).mono ?_
  rintro e w3 ⟨rfl, hb3⟩
  have hx := HX.out.later hb3
  obtain ⟨k0, k1, k2, f0, f1, f2, _⟩ := hx.facts
  obtain ⟨d0, d1, d2, _⟩ := (hx.put y m d).facts
  have HB3 := hid (HB.out.trans (hb3.mono HB.out.size))
  clear hx hb3 HX HB
  go_wp2
  refine bodyPost_ret (by simp [results, Tryz.results7, go_sem, d0, d1, d2]; try rfl) rfl ?_
  exact ⟨rfl, ((HB3.out.setCell (Nat.le_refl _) _).setCell (Nat.le_refl _) _).setCell (Nat.le_refl _) _⟩

set_option maxHeartbeats 1000000 in
theorem parse_4 (t : ByteArray) (hm : MK t 4) (hf : fitL t.data.toList (SS DS) 0 0 = (4, 0)) (w : World) (hA : HasAh w) :
    Calls Tryz.prog 7 #[.string t] w fun e w' => e = .returned (shA t 4) ∧ Below w.heap.size w w' := by
  have hz := mk_size t 4 10 hm (by decide +kernel)
  have HR := hid (fun w hA => readDayOfWeek_any t (by omega) 6 9 (mk_sk t 4 0 0 hm (by decide +kernel)) (mk_sk t 4 4 6 hm (by decide +kernel)) (mk_sk t 4 8 9 hm (by decide +kernel)) ⟨by omega, by omega, mk_dig t 4 0 4 hm (by decide +kernel)⟩ ⟨by omega, by omega, mk_dig t 4 6 2 hm (by decide +kernel)⟩ ⟨by omega, by omega, mk_dig t 4 9 1 hm (by decide +kernel)⟩ w hA)
  obtain ⟨y, m, d, e, p, hv⟩ := rwV_is 6 9 (nt t 0 4) (nt t 6 2) (nt t 9 1)
  have HV : Hid (shA t 4 = rT y m d e p) := hv
  rw [HV.out]
  have HR2 : Hid (∀ w, HasAh w → Calls Tryz.prog 18 #[.string t] w fun x w' => x = .returned (rT y m d e p) ∧ Below w.heap.size w w') := fun w hA => by
    have h := HR.out w hA
    rw [← hv]
    exact h
  have hsz : (w.alloc zD).heap.size = w.heap.size + 1 := by simp
  have HF := hid (fit_ds t (by omega) (w.alloc zD))
  rw [hf, hsz] at HF
  have HS := hid (shapes_any (w.alloc zD))
  rw [hsz] at HS
  have HA := hid hA
  unfold rT dV at *
  clear hf hv hm HV HR hA
  go_enter Tryz.func7, Tryz.ntmps7
  go_wp2_with fail
  refine HS.out.mono ?_
  rintro e w1 ⟨rfl, rfl⟩
  go_wp2_with fail
  refine HF.out.mono ?_
  rintro e w2 ⟨rfl, hb⟩
  rw [← hsz] at hb
  have HX := hid ((Box.new w 0 0 0).later hb)
  have HB := hid ((alloc_below w zD).trans (hb.mono (by simp)))
  have HA2 := hid (HA.out.below HB.out)
  clear hb HF HS HA
  go_wp2_with fail
  refine (HR2.out _ HA2.out).mono ?_
  rintro e w3 ⟨rfl, hb3⟩
  have hx := HX.out.later hb3
  obtain ⟨k0, k1, k2, f0, f1, f2, _⟩ := hx.facts
  obtain ⟨d0, d1, d2, _⟩ := (hx.put y m d).facts
  have HB3 := hid (HB.out.trans (hb3.mono HB.out.size))
  clear hx hb3 HX HB
  go_wp2
  refine bodyPost_ret (by simp [results, Tryz.results7, go_sem, d0, d1, d2]; try rfl) rfl ?_
  exact ⟨rfl, ((HB3.out.setCell (Nat.le_refl _) _).setCell (Nat.le_refl _) _).setCell (Nat.le_refl _) _⟩

set_option maxHeartbeats 1000000 in
theorem parse_5 (t : ByteArray) (hm : MK t 5) (hf : fitL t.data.toList (SS DS) 0 0 = (5, 0)) (w : World) (hA : HasAh w) :
    Calls Tryz.prog 7 #[.string t] w fun e w' => e = .returned (shA t 5) ∧ Below w.heap.size w w' := by
  have hz := mk_size t 5 8 hm (by decide +kernel)
  have HR := hid (fun w hA => readDayOfWeek_any t (by omega) 5 7 (mk_sk t 5 0 0 hm (by decide +kernel)) (mk_sk t 5 4 5 hm (by decide +kernel)) (mk_sk t 5 7 7 hm (by decide +kernel)) ⟨by omega, by omega, mk_dig t 5 0 4 hm (by decide +kernel)⟩ ⟨by omega, by omega, mk_dig t 5 5 2 hm (by decide +kernel)⟩ ⟨by omega, by omega, mk_dig t 5 7 1 hm (by decide +kernel)⟩ w hA)
  obtain ⟨y, m, d, e, p, hv⟩ := rwV_is 5 7 (nt t 0 4) (nt t 5 2) (nt t 7 1)
  have HV : Hid (shA t 5 = rT y m d e p) := hv
  rw [HV.out]
  have HR2 : Hid (∀ w, HasAh w → Calls Tryz.prog 18 #[.string t] w fun x w' => x = .returned (rT y m d e p) ∧ Below w.heap.size w w') := fun w hA => by
    have h := HR.out w hA
    rw [← hv]
    exact h
  have hsz : (w.alloc zD).heap.size = w.heap.size + 1 := by simp
  have HF := hid (fit_ds t (by omega) (w.alloc zD))
  rw [hf, hsz] at HF
  have HS := hid (shapes_any (w.alloc zD))
  rw [hsz] at HS
  have HA := hid hA
  unfold rT dV at *
  clear hf hv hm HV HR hA
  go_enter Tryz.func7, Tryz.ntmps7
  go_wp2_with fail
  refine HS.out.mono ?_
  rintro e w1 ⟨rfl, rfl⟩
  go_wp2_with fail
  refine HF.out.mono ?_
  rintro e w2 ⟨rfl, hb⟩
  rw [← hsz] at hb
  have HX := hid ((Box.new w 0 0 0).later hb)
  have HB := hid ((alloc_below w zD).trans (hb.mono (by simp)))
  have HA2 := hid (HA.out.below HB.out)
  clear hb HF HS HA
  go_wp2_with fail
  refine (HR2.out _ HA2.out).mono ?_
  rintro e w3 ⟨rfl, hb3⟩
  have hx := HX.out.later hb3
  obtain ⟨k0, k1, k2, f0, f1, f2, _⟩ := hx.facts
  obtain ⟨d0, d1, d2, _⟩ := (hx.put y m d).facts
  have HB3 := hid (HB.out.trans (hb3.mono HB.out.size))
  clear hx hb3 HX HB
  go_wp2
  refine bodyPost_ret (by simp [results, Tryz.results7, go_sem, d0, d1, d2]; try rfl) rfl ?_
  exact ⟨rfl, ((HB3.out.setCell (Nat.le_refl _) _).setCell (Nat.le_refl _) _).setCell (Nat.le_refl _) _⟩

end Go.Proofs.YtjpglgemnaknhaaGreatDoor
