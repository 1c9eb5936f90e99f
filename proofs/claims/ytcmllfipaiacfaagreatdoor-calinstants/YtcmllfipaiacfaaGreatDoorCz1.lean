/-
  The document's zone. Laid by mkcz1.py.
-/
import Derived.Test.YtcmllfipaiacfaaGreatDoorCl1
namespace Go.Proofs.YtcmllfipaiacfaaGreatDoor
open Go.RowKit
set_option maxRecDepth 100000
set_option linter.unusedSimpArgs false

/-- what zone answers -/
def zoA (c : UInt8) (z v0 v1 p0 p1 : Nat) : Int × Int × Bool :=
  if 23 < v0 then (0, (p0 : Int), false) else if 59 < v1 then (0, (p1 : Int), false) else if c = 45 then (if 3600 * (v0 : Int) + 60 * (v1 : Int) = 0 then (0, (z : Int), false) else (-(3600 * (v0 : Int) + 60 * (v1 : Int)), 0, true)) else (3600 * (v0 : Int) + 60 * (v1 : Int), 0, true)
theorem zone_Z (t : ByteArray) (z : Nat) (hz : z < t.size) (hc : t[z]'hz = 90) (w : World) :
    Calls Tryz.prog 27 #[.string t, .int .i64 (z : Int)] w fun e w' => e = .returned (tupB (0, 0, true)) ∧ Below w.heap.size w w' := by
  unfold tupB
  go_enter Tryz.func27, Tryz.ntmps27
  go_wp2
  go_ret3
  exact ⟨rfl, Below.refl _ _⟩
set_option maxHeartbeats 4000000 in
theorem zone_1 (t : ByteArray) (ht : t.size ≤ 64) (z : Nat) (hz : z < t.size) (c : UInt8) (hc : t[z]'hz = c) (h90 : c ≠ 90) (q0 : Nat) (hP : PT t.data.toList (z + 1) [q0]) (v0 : Nat) (e0 : n2 t q0 = v0) (b0 : v0 ≤ 99) (w : World) :
    Calls Tryz.prog 27 #[.string t, .int .i64 (z : Int)] w fun e w' => e = .returned (tupB (zoA c z v0 0 q0 q0)) ∧ Below w.heap.size w w' := by
  have HPt := hid (fun w => parts_any t ht (z + 1) [q0] (by simp) hP w)
  simp only [List.map_cons, List.map_nil, e0] at HPt
  rw [show ((z + 1 : Nat) : Int) = (z : Int) + 1 by omega] at HPt
  obtain ⟨A, hA⟩ : ∃ A, zoA c z v0 0 q0 q0 = A := ⟨_, rfl⟩
  have A1 := hid (show 23 < v0 → A = (0, (q0 : Int), false) from fun h => by rw [← hA]; unfold zoA; rw [if_pos h])
  have A3 := hid (show ¬ 23 < v0 → c = 45 → 3600 * (v0 : Int) + 60 * (((0 : Nat) : Nat) : Int) = 0 → A = (0, (z : Int), false) from fun h l m => by rw [← hA]; unfold zoA; rw [if_neg h, if_neg (by decide), if_pos l, if_pos m])
  have A4 := hid (show ¬ 23 < v0 → c = 45 → ¬ 3600 * (v0 : Int) + 60 * (((0 : Nat) : Nat) : Int) = 0 → A = (-(3600 * (v0 : Int) + 60 * (((0 : Nat) : Nat) : Int)), 0, true) from fun h l m => by rw [← hA]; unfold zoA; rw [if_neg h, if_neg (by decide), if_pos l, if_neg m])
  have A5 := hid (show ¬ 23 < v0 → c ≠ 45 → A = (3600 * (v0 : Int) + 60 * (((0 : Nat) : Nat) : Int), 0, true) from fun h l => by rw [← hA]; unfold zoA; rw [if_neg h, if_neg (by decide), if_neg l])
  rw [hA]
  unfold tupB
  have n90 : ¬ (c.toNat : Int) = 90 := fun e => h90 (UInt8.toNat_inj.1 (by show c.toNat = 90; omega))
  clear hP hA h90 e0
  go_enter Tryz.func27, Tryz.ntmps27
  go_wp2_with fail
  refine (HPt.out _).mono ?_
  rintro e w1 ⟨v, p, rfl, hT, hb⟩
  obtain ⟨g, c1, hv1, hc1, cell1⟩ := own_cells hT.l (by simp)
  obtain ⟨k, c2, hv2, hc2, cell2⟩ := own_cells hT.r (by simp)
  subst hv1
  subst hv2
  have x0 := cell1 0 (by simp)
  have y0 := cell2 0 (by simp)
  have y0n := fun n => cell_old y0 (below_drewN (Below.refl w1.heap.size w1) n)
  simp only [List.getElem_cons_zero] at x0 y0 y0n
  have HB := hid hb
  clear hT hb HPt cell1 cell2
  simp only [List.length_cons, List.length_nil, Nat.zero_add, Nat.reduceAdd] at hc1 hc2 ⊢
  by_cases h0 : 23 < v0
  · have E := hid (A1.out h0)
    have q0 : (23 : Int) < (v0 : Int) := by omega
    go_wp2_with fail
    go_quiet (fail)
    have HB9 := hid (HB.out.trans ((below_drewN (Below.refl _ _) nq).mono HB.out.size))
    go_wp2
    go_ret3
    exact ⟨by rw [E.out]; rfl, HB9.out⟩
  have q0 : ¬ (23 : Int) < (v0 : Int) := by omega
  have eq : (v0 : Int) * 3600 = 3600 * (v0 : Int) + 60 * (((0 : Nat) : Nat) : Int) := by omega
  by_cases h45 : c = 45
  · by_cases hn : 3600 * (v0 : Int) + 60 * (((0 : Nat) : Nat) : Int) = 0
    · have E := hid (A3.out h0 h45 hn)
      have hn' : (v0 : Int) * 3600 = 0 := by omega
      have hv0 : v0 = 0 := by omega
      skip
      subst h45
      subst hv0
      skip
      go_wp2
      go_ret3
      exact ⟨by rw [E.out]; rfl, HB.out⟩
    · have E := hid (A4.out h0 h45 hn)
      have hn' : ¬ (v0 : Int) * 3600 = 0 := by omega
      subst h45
      rw [← eq] at E
      have EQ := hid eq
      clear eq
      go_wp2
      go_ret3
      exact ⟨by rw [E.out]; rfl, HB.out⟩
  · have E := hid (A5.out h0 h45)
    have n45 : ¬ (c.toNat : Int) = 45 := fun e => h45 (UInt8.toNat_inj.1 (by show c.toNat = 45; omega))
    rw [← eq] at E
    have EQ := hid eq
    clear eq
    go_wp2
    go_ret3
    exact ⟨by rw [E.out]; rfl, HB.out⟩
set_option maxHeartbeats 4000000 in
theorem zone_2 (t : ByteArray) (ht : t.size ≤ 64) (z : Nat) (hz : z < t.size) (c : UInt8) (hc : t[z]'hz = c) (h90 : c ≠ 90) (q0 q1 : Nat) (hP : PT t.data.toList (z + 1) [q0, q1]) (v0 v1 : Nat) (e0 : n2 t q0 = v0) (e1 : n2 t q1 = v1) (b0 : v0 ≤ 99) (b1 : v1 ≤ 99) (w : World) :
    Calls Tryz.prog 27 #[.string t, .int .i64 (z : Int)] w fun e w' => e = .returned (tupB (zoA c z v0 v1 q0 q1)) ∧ Below w.heap.size w w' := by
  have HPt := hid (fun w => parts_any t ht (z + 1) [q0, q1] (by simp) hP w)
  simp only [List.map_cons, List.map_nil, e0, e1] at HPt
  rw [show ((z + 1 : Nat) : Int) = (z : Int) + 1 by omega] at HPt
  obtain ⟨A, hA⟩ : ∃ A, zoA c z v0 v1 q0 q1 = A := ⟨_, rfl⟩
  have A1 := hid (show 23 < v0 → A = (0, (q0 : Int), false) from fun h => by rw [← hA]; unfold zoA; rw [if_pos h])
  have A2 := hid (show ¬ 23 < v0 → 59 < v1 → A = (0, (q1 : Int), false) from fun h k => by rw [← hA]; unfold zoA; rw [if_neg h, if_pos k])
  have A3 := hid (show ¬ 23 < v0 → ¬ 59 < v1 → c = 45 → 3600 * (v0 : Int) + 60 * ((v1 : Nat) : Int) = 0 → A = (0, (z : Int), false) from fun h k l m => by rw [← hA]; unfold zoA; rw [if_neg h, if_neg k, if_pos l, if_pos m])
  have A4 := hid (show ¬ 23 < v0 → ¬ 59 < v1 → c = 45 → ¬ 3600 * (v0 : Int) + 60 * ((v1 : Nat) : Int) = 0 → A = (-(3600 * (v0 : Int) + 60 * ((v1 : Nat) : Int)), 0, true) from fun h k l m => by rw [← hA]; unfold zoA; rw [if_neg h, if_neg k, if_pos l, if_neg m])
  have A5 := hid (show ¬ 23 < v0 → ¬ 59 < v1 → c ≠ 45 → A = (3600 * (v0 : Int) + 60 * ((v1 : Nat) : Int), 0, true) from fun h k l => by rw [← hA]; unfold zoA; rw [if_neg h, if_neg k, if_neg l])
  rw [hA]
  unfold tupB
  have n90 : ¬ (c.toNat : Int) = 90 := fun e => h90 (UInt8.toNat_inj.1 (by show c.toNat = 90; omega))
  clear hP hA h90 e0 e1
  go_enter Tryz.func27, Tryz.ntmps27
  go_wp2_with fail
  refine (HPt.out _).mono ?_
  rintro e w1 ⟨v, p, rfl, hT, hb⟩
  obtain ⟨g, c1, hv1, hc1, cell1⟩ := own_cells hT.l (by simp)
  obtain ⟨k, c2, hv2, hc2, cell2⟩ := own_cells hT.r (by simp)
  subst hv1
  subst hv2
  have x0 := cell1 0 (by simp)
  have y0 := cell2 0 (by simp)
  have y0n := fun n => cell_old y0 (below_drewN (Below.refl w1.heap.size w1) n)
  simp only [List.getElem_cons_zero] at x0 y0 y0n
  have x1 := cell1 1 (by simp)
  have y1 := cell2 1 (by simp)
  have y1n := fun n => cell_old y1 (below_drewN (Below.refl w1.heap.size w1) n)
  simp only [List.getElem_cons_succ, List.getElem_cons_zero] at x1 y1 y1n
  have HB := hid hb
  clear hT hb HPt cell1 cell2
  simp only [List.length_cons, List.length_nil, Nat.zero_add, Nat.reduceAdd] at hc1 hc2 ⊢
  by_cases h0 : 23 < v0
  · have E := hid (A1.out h0)
    have q0 : (23 : Int) < (v0 : Int) := by omega
    go_wp2_with fail
    go_quiet (fail)
    have HB9 := hid (HB.out.trans ((below_drewN (Below.refl _ _) nq).mono HB.out.size))
    go_wp2
    go_ret3
    exact ⟨by rw [E.out]; rfl, HB9.out⟩
  have q0 : ¬ (23 : Int) < (v0 : Int) := by omega
  by_cases h1 : 59 < v1
  · have E := hid (A2.out h0 h1)
    have q1 : (59 : Int) < (v1 : Int) := by omega
    go_wp2_with fail
    go_quiet (fail)
    have HB9 := hid (HB.out.trans ((below_drewN (Below.refl _ _) nq).mono HB.out.size))
    go_wp2
    go_ret3
    exact ⟨by rw [E.out]; rfl, HB9.out⟩
  have q1 : ¬ (59 : Int) < (v1 : Int) := by omega
  have eq : (v0 : Int) * 3600 + (v1 : Int) * 60 = 3600 * (v0 : Int) + 60 * ((v1 : Nat) : Int) := by omega
  by_cases h45 : c = 45
  · by_cases hn : 3600 * (v0 : Int) + 60 * ((v1 : Nat) : Int) = 0
    · have E := hid (A3.out h0 h1 h45 hn)
      have hn' : (v0 : Int) * 3600 + (v1 : Int) * 60 = 0 := by omega
      have hv0 : v0 = 0 := by omega
      have hv1 : v1 = 0 := by omega
      subst h45
      subst hv0
      subst hv1
      go_wp2
      go_ret3
      exact ⟨by rw [E.out]; rfl, HB.out⟩
    · have E := hid (A4.out h0 h1 h45 hn)
      have hn' : ¬ (v0 : Int) * 3600 + (v1 : Int) * 60 = 0 := by omega
      subst h45
      rw [← eq] at E
      have EQ := hid eq
      clear eq
      go_wp2
      go_ret3
      exact ⟨by rw [E.out]; rfl, HB.out⟩
  · have E := hid (A5.out h0 h1 h45)
    have n45 : ¬ (c.toNat : Int) = 45 := fun e => h45 (UInt8.toNat_inj.1 (by show c.toNat = 45; omega))
    rw [← eq] at E
    have EQ := hid eq
    clear eq
    go_wp2
    go_ret3
    exact ⟨by rw [E.out]; rfl, HB.out⟩
end Go.Proofs.YtcmllfipaiacfaaGreatDoor
