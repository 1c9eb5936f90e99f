/-
  A day's text read by its number in the year: readDayOfYear, out of refused.
-/
import Derived.Test.YtjpglgemnaknhaaGreatDoorRda
import Derived.Deep.RegionHeld
namespace Go.Proofs.YtjpglgemnaknhaaGreatDoor
open Go.RowKit
set_option maxRecDepth 100000

/-- a number lies in block b -/
def IBox (w : World) (b : Nat) (v : Int) : Prop := w.heap[b]? = some (.cells #[.int .i64 v] 3 (0, 0))
theorem IBox.facts {w : World} {b : Nat} {v : Int} (h : IBox w b v) : w.cell? ⟨b, 0, none⟩ = some (.int .i64 v) ∧ w.frozen? ⟨b, 0, none⟩ = false ∧ b < w.heap.size :=
  ⟨by rw [Lib.cell_of_heap h]; rfl, Lib.frozen_of_heap h 0, (Array.getElem?_eq_some_iff.1 h).1⟩
theorem IBox.later {w w' : World} {b : Nat} {v : Int} (h : IBox w b v) (hb : Below w.heap.size w w') : IBox w' b v := (hb.block b h.facts.2.2).trans h
theorem IBox.put {w : World} {b : Nat} {v : Int} (h : IBox w b v) (v' : Int) : IBox (w.setCell ⟨b, 0, none⟩ (.int .i64 v')) b v' := Lib.heap_setCell_same h _

abbrev zI : Obj := .cells #[.int .i64 0] 3
abbrev ptY (b : Nat) : Obj := .cells #[.int .i64 4, .func (.func 41) #[] #[.pointer (some ⟨b + 1, 0, none⟩)], .int .i64 3, .func (.func 42) #[] #[.pointer (some ⟨b + 2, 0, none⟩), .pointer (some ⟨b + 1, 0, none⟩)]] 66

def SY (w0 : World) (n0 n1 : Int) (k : Nat) (w : World) : Prop :=
  HasAh w ∧ Below w0.heap.size w0 w ∧ Box w w0.heap.size 0 0 0 ∧ IBox w (w0.heap.size + 1) (if 1 ≤ k then n0 else 0) ∧ IBox w (w0.heap.size + 2) (if 2 ≤ k then n1 else 0) ∧
  w.heap[w0.heap.size + 3]? = some (ptY w0.heap.size)

theorem SY.start (w : World) (hA : HasAh w) (n0 n1 : Int) : SY w n0 n1 0 ((((w.alloc zD).alloc zI).alloc zI).alloc (ptY w.heap.size)) := by
  have s1 : (w.alloc zD).heap.size = w.heap.size + 1 := by simp
  have s2 : ((w.alloc zD).alloc zI).heap.size = w.heap.size + 2 := by simp
  have s3 : (((w.alloc zD).alloc zI).alloc zI).heap.size = w.heap.size + 3 := by simp
  refine ⟨(((hA.alloc _).alloc _).alloc _).alloc _, ((((Below.refl _ _).alloc (Nat.le_refl _) _).alloc (by omega) _).alloc (by omega) _).alloc (by omega) _, ?_, ?_, ?_, ?_⟩
  · exact (((Box.new w 0 0 0).later (alloc_below _ zI)).later (alloc_below _ zI)).later (alloc_below _ (ptY w.heap.size))
  · have h : IBox ((w.alloc zD).alloc zI) (w.alloc zD).heap.size 0 := heap_alloc_new _ _
    rw [s1] at h
    exact (h.later (alloc_below _ zI)).later (alloc_below _ (ptY w.heap.size))
  · have h : IBox (((w.alloc zD).alloc zI).alloc zI) ((w.alloc zD).alloc zI).heap.size 0 := heap_alloc_new _ _
    rw [s2] at h
    exact h.later (alloc_below _ (ptY w.heap.size))
  · have h := heap_alloc_new (((w.alloc zD).alloc zI).alloc zI) (ptY w.heap.size)
    rw [s3] at h
    exact h

theorem SY.stable {w0 w w' : World} {n0 n1 : Int} {k : Nat} (h : SY w0 n0 n1 k w) (hb : Below w.heap.size w w') : SY w0 n0 n1 k w' :=
  ⟨h.1.below hb, h.2.1.trans (hb.mono h.2.1.size), h.2.2.1.later hb, h.2.2.2.1.later hb, h.2.2.2.2.1.later hb, (hb.block _ (Array.getElem?_eq_some_iff.1 h.2.2.2.2.2).1).trans h.2.2.2.2.2⟩

theorem SY.size {w0 w : World} {n0 n1 : Int} {k : Nat} (h : SY w0 n0 n1 k w) : w0.heap.size + 4 ≤ w.heap.size := by
  have := (Array.getElem?_eq_some_iff.1 h.2.2.2.2.2).1
  omega

theorem SY.set1 {w0 w : World} {n0 n1 : Int} (h : SY w0 n0 n1 0 w) (hG : HasAh w0) : SY w0 n0 n1 1 (w.setCell ⟨w0.heap.size + 1, 0, none⟩ (.int .i64 n0)) := by
  refine ⟨h.1.belowAt ((Below.refl w0.heap.size w).setCell (by show w0.heap.size ≤ w0.heap.size + 1; omega) _) hG.lt, h.2.1.setCell (by show w0.heap.size ≤ w0.heap.size + 1; omega) _, ?_, ?_, ?_, ?_⟩
  · unfold Box
    rw [Below.heap_setCell _ _ _ _ (by show w0.heap.size ≠ w0.heap.size + 1; omega)]
    exact h.2.2.1
  · have := h.2.2.2.1.put n0; simpa using this
  · unfold IBox
    rw [Below.heap_setCell _ _ _ _ (by show w0.heap.size + 2 ≠ w0.heap.size + 1; omega)]
    exact h.2.2.2.2.1
  · rw [Below.heap_setCell _ _ _ _ (by show w0.heap.size + 3 ≠ w0.heap.size + 1; omega)]
    exact h.2.2.2.2.2
theorem SY.set2 {w0 w : World} {n0 n1 : Int} (h : SY w0 n0 n1 1 w) (hG : HasAh w0) : SY w0 n0 n1 2 (w.setCell ⟨w0.heap.size + 2, 0, none⟩ (.int .i64 n1)) := by
  refine ⟨h.1.belowAt ((Below.refl w0.heap.size w).setCell (by show w0.heap.size ≤ w0.heap.size + 2; omega) _) hG.lt, h.2.1.setCell (by show w0.heap.size ≤ w0.heap.size + 2; omega) _, ?_, ?_, ?_, ?_⟩
  · unfold Box
    rw [Below.heap_setCell _ _ _ _ (by show w0.heap.size ≠ w0.heap.size + 2; omega)]
    exact h.2.2.1
  · unfold IBox
    rw [Below.heap_setCell _ _ _ _ (by show w0.heap.size + 1 ≠ w0.heap.size + 2; omega)]
    exact h.2.2.2.1
  · have := h.2.2.2.2.1.put n1; simpa using this
  · rw [Below.heap_setCell _ _ _ _ (by show w0.heap.size + 3 ≠ w0.heap.size + 2; omega)]
    exact h.2.2.2.2.2

theorem yearDays_any (y : Int) (hy : 0 ≤ y) (w : World) (hA : HasAh w) :
    Calls Tryz.prog 43 #[.int .i64 y] w fun e w' => e = .returned (.int .i64 (365 + lpN y)) ∧ w' = w := by
  have H := hid (monthStart_any y 13 hy (by omega) (by omega) w hA)
  rw [ms_13] at H
  clear hA
  go_enter Tryz.func43, Tryz.ntmps43
  go_wp2_with (go_at_call 50; refine H.out.mono ?_; rintro e w' ⟨rfl, rfl⟩)
  go_ret
  exact ⟨rfl, rfl⟩

theorem ylo1_any (w0 w : World) (n0 n1 : Int) (hG : HasAh w0) (h : SY w0 n0 n1 0 w) :
    Calls Tryz.prog 41 #[.int .i64 n0, .pointer (some ⟨w0.heap.size + 1, 0, none⟩)] w fun e w' => e = .returned (.bool true) ∧ SY w0 n0 n1 1 w' ∧ ∀ x, w0.heap.size + 4 ≤ x → x < w.heap.size → w'.heap[x]? = w.heap[x]? := by
  have R := hid (h.set1 hG)
  obtain ⟨c0, f0, _⟩ := h.2.2.2.1.facts
  have FR := hid (set_frame w (w0.heap.size + 1) 0 (.int .i64 n0) (w0.heap.size + 4) (by omega))
  clear h
  go_enter Tryz.func41, Tryz.ntmps41
  go_wp2
  go_ret
  exact ⟨rfl, R.out, FR.out⟩

set_option maxHeartbeats 1000000 in
theorem ylo2_any (w0 w : World) (n0 n1 : Int) (hn : 0 ≤ n0 ∧ n0 ≤ 9999) (hG : HasAh w0) (h : SY w0 n0 n1 1 w) :
    Calls Tryz.prog 42 #[.int .i64 n1, .pointer (some ⟨w0.heap.size + 2, 0, none⟩), .pointer (some ⟨w0.heap.size + 1, 0, none⟩)] w fun e w' => e = .returned (.bool (decide (1 ≤ n1 ∧ n1 ≤ 365 + lpN n0))) ∧ SY w0 n0 n1 2 w' ∧ ∀ x, w0.heap.size + 4 ≤ x → x < w.heap.size → w'.heap[x]? = w.heap[x]? := by
  have R := hid (h.set2 hG)
  obtain ⟨c0, f0, _⟩ := h.2.2.2.2.1.facts
  obtain ⟨e0, _, _⟩ := R.out.2.2.2.1.facts
  have FR := hid (set_frame w (w0.heap.size + 2) 0 (.int .i64 n1) (w0.heap.size + 4) (by omega))
  have HN := hid (fun w hA => yearDays_any n0 hn.1 w hA)
  have hw := lpN_cases n0
  have hw2 : 365 ≤ 365 + lpN n0 ∧ 365 + lpN n0 ≤ 366 := by omega
  simp at c0 e0
  clear h hn hw
  generalize 365 + lpN n0 = c at *
  by_cases h1 : 1 ≤ n1
  · by_cases h2 : n1 ≤ c
    all_goals
      go_enter Tryz.func42, Tryz.ntmps42
      go_wp2_with (go_at_call 43; refine (HN.out _ R.out.1).mono ?_; rintro e w' ⟨rfl, rfl⟩)
      go_ret
      exact ⟨ret_bool (by simp [h1, h2]), R.out, FR.out⟩
  · go_enter Tryz.func42, Tryz.ntmps42
    go_wp2
    go_ret
    exact ⟨ret_bool (by simp; omega), R.out, FR.out⟩

def LaterY (w w' : World) : Prop := Below w.heap.size w w'

/-- the answer of readDayOfYear -/
def ryV (p1 : Nat) (n0 n1 : Int) : Value := if 1 ≤ n1 ∧ n1 ≤ 365 + lpN n0 then .tuple #[dV (dY (ys n0 + n1 - 1)) (dM (ys n0 + n1 - 1)) (dD (ys n0 + n1 - 1)), .int .i64 0, .int .i64 0] else .tuple #[dV 0 0 0, .int .i64 30, .int .i64 (p1 : Int)]

set_option maxHeartbeats 1000000 in
theorem readDayOfYear_any (t : ByteArray) (ht : t.size ≤ 64) (p1 : Nat) (h0 : sk t.data.toList 0 = 0) (h1 : sk t.data.toList 4 = p1)
    (l0 : 4 ≤ t.size ∧ 0 ≠ t.size ∧ ∀ c ∈ sub t.data.toList 0 4, isDB c = true) (l1 : p1 + 3 ≤ t.size ∧ p1 ≠ t.size ∧ ∀ c ∈ sub t.data.toList p1 3, isDB c = true)
    (w : World) (hA : HasAh w) :
    Calls Tryz.prog 17 #[.string t] w fun e w' => e = .returned (ryV p1 (nm (sub t.data.toList 0 4)) (nm (sub t.data.toList p1 3))) ∧ Below w.heap.size w w' := by
  have hmf : ∀ (fn : Fn) (first cap : Array Value) (w : World), (Instr.makeFunc fn first cap).run Tryz.prog w = .ok (.func fn first cap) w := fun _ _ _ _ => rfl
  obtain ⟨n0, hn0⟩ : ∃ n : Int, n = (nm (sub t.data.toList 0 4) : Int) := ⟨_, rfl⟩
  obtain ⟨n1, hn1⟩ : ∃ n : Int, n = (nm (sub t.data.toList p1 3) : Int) := ⟨_, rfl⟩
  have hb0 : 0 ≤ n0 ∧ n0 ≤ 9999 := by
    have h := nm_lt (sub t.data.toList 0 4) l0.2.2
    rw [sub_len _ _ _ (by rw [Array.length_toList]; exact l0.1)] at h
    omega
  rw [← hn0, ← hn1]
  have HR := hid (fun w1 hw => refused_any t ht 2 (w.heap.size + 3) (sel3 4 3 3) (sel3 41 42 42) (sel3 0 p1 p1)
    (sel3 #[.pointer (some ⟨w.heap.size + 1, 0, none⟩)] #[.pointer (some ⟨w.heap.size + 2, 0, none⟩), .pointer (some ⟨w.heap.size + 1, 0, none⟩)] #[])
    (sel3 true (decide (1 ≤ n1 ∧ n1 ≤ 365 + lpN n0)) true) (SY w n0 n1) (w.heap.size + 4) (by omega)
    (fun k => match k with
      | 0 => eg_of Tryz.func41 (by kernel_rfl) rfl
      | 1 => eg_of Tryz.func42 (by kernel_rfl) rfl
      | _ + 2 => eg_of Tryz.func42 (by kernel_rfl) rfl)
    (fun k w w' h hb => h.stable hb) (fun k w h => h.size)
    (fun k j w hj h => by
      match j, hj with
      | 0, _ => exact ⟨by rw [Lib.cell_of_heap h.2.2.2.2.2]; rfl, by rw [Lib.cell_of_heap h.2.2.2.2.2]; rfl⟩
      | 1, _ => exact ⟨by rw [Lib.cell_of_heap h.2.2.2.2.2]; rfl, by rw [Lib.cell_of_heap h.2.2.2.2.2]; rfl⟩)
    h0 (fun k hk _ => by
      match k, hk with
      | 0, _ => exact h1)
    (fun k hk => by
      match k, hk with
      | 0, _ => exact .inr ⟨l0.1, by decide, by decide, l0.2.2⟩
      | 1, _ => exact .inr ⟨l1.1, by decide, by decide, l1.2.2⟩)
    (fun k wx hk _ h => by
      match k, hk with
      | 0, _ => exact (by rw [← hn0]; exact ylo1_any w wx n0 n1 hA h : Calls Tryz.prog _ #[.int .i64 (nm (sub t.data.toList 0 4) : Int), .pointer (some ⟨w.heap.size + 1, 0, none⟩)] wx _)
      | 1, _ => exact (by rw [← hn1]; exact ylo2_any w wx n0 n1 hb0 hA h : Calls Tryz.prog _ #[.int .i64 (nm (sub t.data.toList p1 3) : Int), .pointer (some ⟨w.heap.size + 2, 0, none⟩), .pointer (some ⟨w.heap.size + 1, 0, none⟩)] wx _))
    w1 hw)
  have HW := hid (SY.start w hA n0 n1)
  have e0 : (0 : Nat) ≠ t.size := l0.2.1
  have e1 := l1.2.1
  clear h0 h1 l0 l1 hn0 hn1 hA
  by_cases g1 : 1 ≤ n1 ∧ n1 ≤ 365 + lpN n0
  · have ER : rg t.size (sel3 0 p1 p1) (sel3 true (decide (1 ≤ n1 ∧ n1 ≤ 365 + lpN n0)) true) 2 0 = (-1, 2) := by
      rw [rg_yes (k := 0) e0 rfl, rg_yes (k := 1) e1 (by simp [sel3, g1])]; rfl
    rw [ER] at HR
    have HV : Hid (ryV p1 n0 n1 = .tuple #[dV (dY (ys n0 + n1 - 1)) (dM (ys n0 + n1 - 1)) (dD (ys n0 + n1 - 1)), .int .i64 0, .int .i64 0]) := by unfold ryV; rw [if_pos g1]; exact rfl
    rw [HV.out]
    have hin : 0 ≤ ys n0 + n1 - 1 ∧ ys n0 + n1 - 1 ≤ 3652424 := by
      have a := ys_le 0 n0 hb0.1
      have b := ys_le (n0 + 1) 10000 (by omega)
      have c := ys_next n0
      rw [ys_zero] at a
      rw [ys_10000] at b
      omega
    have HY := hid (fun w => yearStart_any n0 (by omega) (by omega) w)
    have HD := hid (fun w hA => dateOf_any (ys n0 + n1 - 1) hin.1 hin.2 w hA)
    have hys := ys_bounds n0 (by omega) (by omega)
    have hl := lpN_cases n0
    have hn1' : n1 ≤ 366 := by omega
    have hn1'' : 1 ≤ n1 := g1.1
    clear ER g1 HV hl
    obtain ⟨N, hN⟩ : ∃ N, ys n0 + n1 - 1 = N := ⟨_, rfl⟩
    rw [hN] at HD hin ⊢
    generalize dY N = yy at *
    generalize dM N = mm at *
    generalize dD N = dd at *
    unfold dV at *
    go_enter Tryz.func17, Tryz.ntmps17
    go_wp2_with fail
    refine (HR.out _ HW.out).mono ?_
    rintro e w1 ⟨rfl, hs⟩
    have HS1 := hid hs
    clear hs HR HW
    obtain ⟨c0, _⟩ := HS1.out.2.2.2.1.facts
    obtain ⟨c1, _⟩ := HS1.out.2.2.2.2.1.facts
    simp at c0 c1
    go_upto_region 5 with fail
    have HA1 := hid (HS1.out.1.below ((Below.refl _ _).drew))
    have s0 : LaterY w1 w1.drew := (Below.refl _ _).drew
    have CC := hid (show ∀ wx, LaterY w1 wx → wx.cell? ⟨w.heap.size + 1, 0, none⟩ = some (.int .i64 n0) ∧ wx.cell? ⟨w.heap.size + 2, 0, none⟩ = some (.int .i64 n1) from fun wx hx => ⟨by have := (HS1.out.2.2.2.1.later hx).facts.1; simpa using this, by have := (HS1.out.2.2.2.2.1.later hx).facts.1; simpa using this⟩)
    have HD1 := hid (show ∀ wx, LaterY w1 wx → Box wx w.heap.size 0 0 0 from fun wx hx => HS1.out.2.2.1.later hx)
    have HB1 := hid (show ∀ wx, LaterY w1 wx → Below w.heap.size w wx from fun wx hx => HS1.out.2.1.trans (Below.mono hx HS1.out.2.1.size))
    have r1 : IntKind.i64.wrap (ys n0 + n1) = ys n0 + n1 := by rw [IntKind.wrap_i64]; omega
    have r2 : IntKind.i64.wrap (ys n0 + n1 - 1) = N := by rw [IntKind.wrap_i64]; omega
    have r3 : IntKind.i64.wrap N = N := by rw [IntKind.wrap_i64]; omega
    clear HS1
    first | go_region_held (fun wx => wx.cell? ⟨w.heap.size + 1, 0, none⟩ = some (.int .i64 n0) ∧ wx.cell? ⟨w.heap.size + 2, 0, none⟩ = some (.int .i64 n1)) (first | exact CC.out _ (by assumption) | go_keep) (first
      | (go_at_call 44; refine (HY.out _).mono ?_; rintro e w2 ⟨rfl, rfl⟩)
      | (go_at_call 20; refine (HD.out _ HA1.out).mono ?_; rintro e w3 ⟨rfl, hb3⟩; have s3 : LaterY w1 w3 := Below.trans s0 hb3; obtain ⟨c0, c1⟩ := CC.out _ s3; obtain ⟨g0, g1, g2, f0, f1, f2, gz⟩ := (HD1.out _ s3).facts)) | fail
    all_goals (obtain ⟨q0, q1, q2, _⟩ := ((HD1.out _ s3).put yy mm dd).facts)
    all_goals (go_wp2)
    all_goals (refine bodyPost_ret (by simp [results, Tryz.results17, go_sem, q0, q1, q2]; try rfl) rfl ?_)
    all_goals (exact ⟨rfl, (((HB1.out _ s3).setCell (Nat.le_refl _) _).setCell (Nat.le_refl _) _).setCell (Nat.le_refl _) _⟩)
  · have ER : rg t.size (sel3 0 p1 p1) (sel3 true (decide (1 ≤ n1 ∧ n1 ≤ 365 + lpN n0)) true) 2 0 = ((p1 : Int), 2) := by
      rw [rg_yes (k := 0) e0 rfl, rg_no (k := 1) e1 (by simp only [sel3]; exact decide_eq_false g1)]; rfl
    rw [ER] at HR
    have HV : Hid (ryV p1 n0 n1 = .tuple #[dV 0 0 0, .int .i64 30, .int .i64 (p1 : Int)]) := by unfold ryV; rw [if_neg g1]; exact rfl
    rw [HV.out]
    clear ER g1 HV
    unfold dV
    go_enter Tryz.func17, Tryz.ntmps17
    go_wp2_with fail
    refine (HR.out _ HW.out).mono ?_
    rintro e w1 ⟨rfl, hs⟩
    obtain ⟨k0, k1, k2, f0, f1, f2, _⟩ := hs.2.2.1.facts
    obtain ⟨d0, d1, d2, _⟩ := (hs.2.2.1.put 0 0 0).facts
    have HB := hid hs.2.1
    clear hs HR HW
    go_wp2
    refine bodyPost_ret (by simp [results, Tryz.results17, go_sem, d0, d1, d2]; try rfl) rfl ?_
    exact ⟨rfl, ((HB.out.setCell (Nat.le_refl _) _).setCell (Nat.le_refl _) _).setCell (Nat.le_refl _) _⟩
end Go.Proofs.YtjpglgemnaknhaaGreatDoor
