/-
  A day's text read by its week: readDayOfWeek, out of refused.
-/
import Derived.Test.YtjpglgemnaknhaaGreatDoorRda
import Derived.Test.YtjpglgemnaknhaaGreatDoorCfw
namespace Go.Proofs.YtjpglgemnaknhaaGreatDoor
open Go.RowKit
set_option maxRecDepth 100000

theorem WBox.put0 {w : World} {b : Nat} {y m d : Int} (h : WBox w b y m d) (y' : Int) : WBox (w.setCell ⟨b, 0, none⟩ (.int .i64 y')) b y' m d := Lib.heap_setCell_same h _
theorem WBox.put1 {w : World} {b : Nat} {y m d : Int} (h : WBox w b y m d) (m' : Int) : WBox (w.setCell ⟨b, 1, none⟩ (.int .i64 m')) b y m' d := Lib.heap_setCell_same h _
theorem WBox.put2 {w : World} {b : Nat} {y m d : Int} (h : WBox w b y m d) (d' : Int) : WBox (w.setCell ⟨b, 2, none⟩ (.int .i64 d')) b y m d' := Lib.heap_setCell_same h _

/-- the parts of a day's text lie there, and the day as far as it is read -/
def SW (w0 : World) (n0 n1 n2 : Int) (k : Nat) (w : World) : Prop :=
  HasAh w ∧ Below w0.heap.size w0 w ∧ Box w w0.heap.size 0 0 0 ∧ WBox w (w0.heap.size + 1) (if 1 ≤ k then n0 else 0) (if 2 ≤ k then n1 else 0) (if 3 ≤ k then n2 else 0) ∧
  w.heap[w0.heap.size + 2]? = some (.cells #[.int .i64 4, .func (.func 45) #[] #[.pointer (some ⟨w0.heap.size + 1, 0, none⟩)], .int .i64 2, .func (.func 46) #[] #[.pointer (some ⟨w0.heap.size + 1, 0, none⟩)], .int .i64 1, .func (.func 48) #[] #[.pointer (some ⟨w0.heap.size + 1, 0, none⟩)]] 66 (0, 0))

/-- a date of zeros; the parts -/
abbrev zW : Obj := .cells #[.int .i64 0, .int .i64 0, .int .i64 0] 69
abbrev ptW (b : Nat) : Obj := .cells #[.int .i64 4, .func (.func 45) #[] #[.pointer (some ⟨b + 1, 0, none⟩)], .int .i64 2, .func (.func 46) #[] #[.pointer (some ⟨b + 1, 0, none⟩)], .int .i64 1, .func (.func 48) #[] #[.pointer (some ⟨b + 1, 0, none⟩)]] 66

theorem SW.start (w : World) (hA : HasAh w) (n0 n1 n2 : Int) : SW w n0 n1 n2 0 (((w.alloc zD).alloc zW).alloc (ptW w.heap.size)) := by
  have s1 : (w.alloc zD).heap.size = w.heap.size + 1 := by simp
  have s2 : ((w.alloc zD).alloc zW).heap.size = w.heap.size + 2 := by simp
  refine ⟨((hA.alloc _).alloc _).alloc _, (((Below.refl _ _).alloc (Nat.le_refl _) _).alloc (by omega) _).alloc (by omega) _, ?_, ?_, ?_⟩
  · exact ((Box.new w 0 0 0).later (alloc_below _ zW)).later (alloc_below _ (ptW w.heap.size))
  · have h := (WBox.new (w.alloc zD) 0 0 0).later (alloc_below _ (ptW w.heap.size))
    rw [s1] at h
    exact h
  · have h := heap_alloc_new ((w.alloc zD).alloc zW) (ptW w.heap.size)
    rw [s2] at h
    exact h

theorem SW.stable {w0 w w' : World} {n0 n1 n2 : Int} {k : Nat} (h : SW w0 n0 n1 n2 k w) (hb : Below w.heap.size w w') : SW w0 n0 n1 n2 k w' :=
  ⟨h.1.below hb, h.2.1.trans (hb.mono h.2.1.size), h.2.2.1.later hb, h.2.2.2.1.later hb, (hb.block _ (Array.getElem?_eq_some_iff.1 h.2.2.2.2).1).trans h.2.2.2.2⟩

theorem SW.size {w0 w : World} {n0 n1 n2 : Int} {k : Nat} (h : SW w0 n0 n1 n2 k w) : w0.heap.size + 3 ≤ w.heap.size := by
  have := (Array.getElem?_eq_some_iff.1 h.2.2.2.2).1
  omega

theorem SW.set {w0 w : World} {n0 n1 n2 : Int} {k : Nat} (h : SW w0 n0 n1 n2 k w) (hG : HasAh w0) (j : Nat) (v : Value)
    (hb : WBox (w.setCell ⟨w0.heap.size + 1, j, none⟩ v) (w0.heap.size + 1) (if 1 ≤ k + 1 then n0 else 0) (if 2 ≤ k + 1 then n1 else 0) (if 3 ≤ k + 1 then n2 else 0)) :
    SW w0 n0 n1 n2 (k + 1) (w.setCell ⟨w0.heap.size + 1, j, none⟩ v) := by
  refine ⟨h.1.belowAt ((Below.refl w0.heap.size w).setCell (by show w0.heap.size ≤ w0.heap.size + 1; omega) _) hG.lt, h.2.1.setCell (by show w0.heap.size ≤ w0.heap.size + 1; omega) _, ?_, hb, ?_⟩
  · unfold Box
    rw [Below.heap_setCell _ _ _ _ (by show w0.heap.size ≠ w0.heap.size + 1; omega)]
    exact h.2.2.1
  · rw [Below.heap_setCell _ _ _ _ (by show w0.heap.size + 2 ≠ w0.heap.size + 1; omega)]
    exact h.2.2.2.2

theorem wlo1_any (w0 w : World) (n0 n1 n2 : Int) (hG : HasAh w0) (h : SW w0 n0 n1 n2 0 w) :
    Calls Tryz.prog 45 #[.int .i64 n0, .pointer (some ⟨w0.heap.size + 1, 0, none⟩)] w fun e w' => e = .returned (.bool true) ∧ SW w0 n0 n1 n2 1 w' ∧ ∀ x, w0.heap.size + 3 ≤ x → x < w.heap.size → w'.heap[x]? = w.heap[x]? := by
  have R := hid (h.set hG 0 (.int .i64 n0) (by have := h.2.2.2.1.put0 n0; simpa using this))
  obtain ⟨c0, c1, c2, f0, f1, f2, _⟩ := h.2.2.2.1.facts
  have FR := hid (set_frame w (w0.heap.size + 1) 0 (.int .i64 n0) (w0.heap.size + 3) (by omega))
  clear h
  go_enter Tryz.func45, Tryz.ntmps45
  go_wp2
  go_ret
  exact ⟨rfl, R.out, FR.out⟩

set_option maxHeartbeats 1000000 in
theorem wlo2_any (w0 w : World) (n0 n1 n2 : Int) (hn : 0 ≤ n0 ∧ n0 ≤ 9999) (hG : HasAh w0) (h : SW w0 n0 n1 n2 1 w) :
    Calls Tryz.prog 46 #[.int .i64 n1, .pointer (some ⟨w0.heap.size + 1, 0, none⟩)] w fun e w' => e = .returned (.bool (decide (1 ≤ n1 ∧ n1 ≤ wkN n0))) ∧ SW w0 n0 n1 n2 2 w' ∧ ∀ x, w0.heap.size + 3 ≤ x → x < w.heap.size → w'.heap[x]? = w.heap[x]? := by
  have R := hid (h.set hG 1 (.int .i64 n1) (by have := h.2.2.2.1.put1 n1; simpa using this))
  obtain ⟨c0, c1, c2, f0, f1, f2, _⟩ := h.2.2.2.1.facts
  obtain ⟨e0, e1, e2, _⟩ := R.out.2.2.2.1.facts
  have FR := hid (set_frame w (w0.heap.size + 1) 1 (.int .i64 n1) (w0.heap.size + 3) (by omega))
  have HN := hid (fun w => yearWeeks_any n0 (by omega) (by omega) w)
  have hw := (wkN_is n0).2
  simp at c0 c1 c2 e0 e1 e2
  generalize wkN n0 = c at *
  clear h hn
  by_cases h1 : 1 ≤ n1
  · by_cases h2 : n1 ≤ c
    all_goals
      go_enter Tryz.func46, Tryz.ntmps46
      go_wp2_with (go_at_call 47; refine (HN.out _).mono ?_; rintro e w' ⟨rfl, rfl⟩)
      go_ret
      exact ⟨ret_bool (by simp [h1, h2]), R.out, FR.out⟩
  · go_enter Tryz.func46, Tryz.ntmps46
    go_wp2
    go_ret
    exact ⟨ret_bool (by simp; omega), R.out, FR.out⟩

theorem wlo3_any (w0 w : World) (n0 n1 n2 : Int) (hG : HasAh w0) (h : SW w0 n0 n1 n2 2 w) :
    Calls Tryz.prog 48 #[.int .i64 n2, .pointer (some ⟨w0.heap.size + 1, 0, none⟩)] w fun e w' => e = .returned (.bool (decide (1 ≤ n2 ∧ n2 ≤ 7))) ∧ SW w0 n0 n1 n2 3 w' ∧ ∀ x, w0.heap.size + 3 ≤ x → x < w.heap.size → w'.heap[x]? = w.heap[x]? := by
  have R := hid (h.set hG 2 (.int .i64 n2) (by have := h.2.2.2.1.put2 n2; simpa using this))
  obtain ⟨c0, c1, c2, f0, f1, f2, _⟩ := h.2.2.2.1.facts
  have FR := hid (set_frame w (w0.heap.size + 1) 2 (.int .i64 n2) (w0.heap.size + 3) (by omega))
  clear h
  by_cases h1 : 1 ≤ n2
  · by_cases h2 : n2 ≤ 7
    all_goals
      go_enter Tryz.func48, Tryz.ntmps48
      go_wp2
      go_ret
      exact ⟨ret_bool (by simp [h1, h2]), R.out, FR.out⟩
  · go_enter Tryz.func48, Tryz.ntmps48
    go_wp2
    go_ret
    exact ⟨ret_bool (by simp; omega), R.out, FR.out⟩

/-- a day by its number, with no place -/
def ofT (n : Int) : Value := if 0 ≤ n ∧ n ≤ 3652424 then .tuple #[dV (dY n) (dM n) (dD n), .int .i64 0, .int .i64 0] else .tuple #[dV 0 0 0, .int .i64 35, .int .i64 0]
theorem ofVT (n : Int) : ∃ y m d e : Int, ofV n = .tuple #[dV y m d, .int .i64 e] ∧ ofT n = .tuple #[dV y m d, .int .i64 e, .int .i64 0] := by
  unfold ofV ofT
  split
  · exact ⟨_, _, _, _, rfl, rfl⟩
  · exact ⟨_, _, _, _, rfl, rfl⟩
/-- the answer of readDayOfWeek -/
def rwV (p1 p2 : Nat) (n0 n1 n2 : Int) : Value := if 1 ≤ n1 ∧ n1 ≤ wkN n0 then if 1 ≤ n2 ∧ n2 ≤ 7 then ofT (wkD n0 n1 n2) else .tuple #[dV 0 0 0, .int .i64 30, .int .i64 (p2 : Int)] else .tuple #[dV 0 0 0, .int .i64 30, .int .i64 (p1 : Int)]

set_option maxHeartbeats 1000000 in
theorem readDayOfWeek_any (t : ByteArray) (ht : t.size ≤ 64) (p1 p2 : Nat) (h0 : sk t.data.toList 0 = 0) (h1 : sk t.data.toList 4 = p1) (h2 : sk t.data.toList (p1 + 2) = p2)
    (l0 : 4 ≤ t.size ∧ 0 ≠ t.size ∧ ∀ c ∈ sub t.data.toList 0 4, isDB c = true) (l1 : p1 + 2 ≤ t.size ∧ p1 ≠ t.size ∧ ∀ c ∈ sub t.data.toList p1 2, isDB c = true) (l2 : p2 + 1 ≤ t.size ∧ p2 ≠ t.size ∧ ∀ c ∈ sub t.data.toList p2 1, isDB c = true)
    (w : World) (hA : HasAh w) :
    Calls Tryz.prog 18 #[.string t] w fun e w' => e = .returned (rwV p1 p2 (nm (sub t.data.toList 0 4)) (nm (sub t.data.toList p1 2)) (nm (sub t.data.toList p2 1))) ∧ Below w.heap.size w w' := by
  have hmf : ∀ (fn : Fn) (first cap : Array Value) (w : World), (Instr.makeFunc fn first cap).run Tryz.prog w = .ok (.func fn first cap) w := fun _ _ _ _ => rfl
  obtain ⟨n0, hn0⟩ : ∃ n : Int, n = (nm (sub t.data.toList 0 4) : Int) := ⟨_, rfl⟩
  obtain ⟨n1, hn1⟩ : ∃ n : Int, n = (nm (sub t.data.toList p1 2) : Int) := ⟨_, rfl⟩
  obtain ⟨n2, hn2⟩ : ∃ n : Int, n = (nm (sub t.data.toList p2 1) : Int) := ⟨_, rfl⟩
  have hb0 : 0 ≤ n0 ∧ n0 ≤ 9999 := by
    have h := nm_lt (sub t.data.toList 0 4) l0.2.2
    rw [sub_len _ _ _ (by rw [Array.length_toList]; exact l0.1)] at h
    omega
  rw [← hn0, ← hn1, ← hn2]
  have HR := hid (fun w1 hw => refused_any t ht 3 (w.heap.size + 2) (sel3 4 2 1) (sel3 45 46 48) (sel3 0 p1 p2) (fun _ => #[.pointer (some ⟨w.heap.size + 1, 0, none⟩)])
    (sel3 true (decide (1 ≤ n1 ∧ n1 ≤ wkN n0)) (decide (1 ≤ n2 ∧ n2 ≤ 7))) (SW w n0 n1 n2) (w.heap.size + 3) (by omega)
    (fun k => match k with
      | 0 => eg_of Tryz.func45 (by kernel_rfl) rfl
      | 1 => eg_of Tryz.func46 (by kernel_rfl) rfl
      | _ + 2 => eg_of Tryz.func48 (by kernel_rfl) rfl)
    (fun k w w' h hb => h.stable hb) (fun k w h => h.size)
    (fun k j w hj h => by
      match j, hj with
      | 0, _ => exact ⟨by rw [Lib.cell_of_heap h.2.2.2.2]; rfl, by rw [Lib.cell_of_heap h.2.2.2.2]; rfl⟩
      | 1, _ => exact ⟨by rw [Lib.cell_of_heap h.2.2.2.2]; rfl, by rw [Lib.cell_of_heap h.2.2.2.2]; rfl⟩
      | 2, _ => exact ⟨by rw [Lib.cell_of_heap h.2.2.2.2]; rfl, by rw [Lib.cell_of_heap h.2.2.2.2]; rfl⟩)
    h0 (fun k hk _ => by
      match k, hk with
      | 0, _ => exact h1
      | 1, _ => exact h2)
    (fun k hk => by
      match k, hk with
      | 0, _ => exact .inr ⟨l0.1, by decide, by decide, l0.2.2⟩
      | 1, _ => exact .inr ⟨l1.1, by decide, by decide, l1.2.2⟩
      | 2, _ => exact .inr ⟨l2.1, by decide, by decide, l2.2.2⟩)
    (fun k wx hk _ h => by
      match k, hk with
      | 0, _ => exact (by rw [← hn0]; exact wlo1_any w wx n0 n1 n2 hA h : Calls Tryz.prog _ #[.int .i64 (nm (sub t.data.toList 0 4) : Int), .pointer (some ⟨w.heap.size + 1, 0, none⟩)] wx _)
      | 1, _ => exact (by rw [← hn1]; exact wlo2_any w wx n0 n1 n2 hb0 hA h : Calls Tryz.prog _ #[.int .i64 (nm (sub t.data.toList p1 2) : Int), .pointer (some ⟨w.heap.size + 1, 0, none⟩)] wx _)
      | 2, _ => exact (by rw [← hn2]; exact wlo3_any w wx n0 n1 n2 hA h : Calls Tryz.prog _ #[.int .i64 (nm (sub t.data.toList p2 1) : Int), .pointer (some ⟨w.heap.size + 1, 0, none⟩)] wx _))
    w1 hw)
  have HW := hid (SW.start w hA n0 n1 n2)
  have e0 : (0 : Nat) ≠ t.size := l0.2.1
  have e1 := l1.2.1
  have e2 := l2.2.1
  clear h0 h1 h2 l0 l1 l2 hn0 hn1 hn2 hA
  by_cases g1 : 1 ≤ n1 ∧ n1 ≤ wkN n0
  · by_cases g2 : 1 ≤ n2 ∧ n2 ≤ 7
    · have ER : rg t.size (sel3 0 p1 p2) (sel3 true (decide (1 ≤ n1 ∧ n1 ≤ wkN n0)) (decide (1 ≤ n2 ∧ n2 ≤ 7))) 3 0 = (-1, 3) := by
        rw [rg_yes (k := 0) e0 rfl, rg_yes (k := 1) e1 (by simp [sel3, g1]), rg_yes (k := 2) e2 (by simp [sel3, g2])]; rfl
      rw [ER] at HR
      obtain ⟨y1, m1, d1, e1, hv, ht1⟩ := ofVT (wkD n0 n1 n2)
      have HV : Hid (rwV p1 p2 n0 n1 n2 = .tuple #[dV y1 m1 d1, .int .i64 e1, .int .i64 0]) := by unfold rwV; rw [if_pos g1, if_pos g2]; exact ht1
      have HF := hid (fun w hA => fromWeek_good n0 n1 n2 ⟨by omega, hb0.2, g1.1, g1.2, g2.1, g2.2⟩ w hA)
      rw [hv] at HF
      rw [HV.out]
      clear ER g1 g2 HV hv ht1 hb0
      unfold dV at *
      go_enter Tryz.func18, Tryz.ntmps18
      go_wp2_with fail
      refine (HR.out _ HW.out).mono ?_
      rintro e w1 ⟨rfl, hs⟩
      obtain ⟨c0, c1, c2, _⟩ := hs.2.2.2.1.facts
      simp at c0 c1 c2
      have HS1 := hid hs
      clear hs HR HW
      go_wp2_with fail
      refine (HF.out _ HS1.out.1).mono ?_
      rintro e w2 ⟨rfl, hb2⟩
      have HS2 := hid (HS1.out.stable hb2)
      clear hb2 HF HS1 c0 c1 c2
      have hx : Box (w2.alloc (.cells #[.int .i64 y1, .int .i64 m1, .int .i64 d1] 28)) w.heap.size 0 0 0 := HS2.out.2.2.1.later (alloc_below _ _)
      obtain ⟨k0, k1, k2, f0, f1, f2, _⟩ := hx.facts
      obtain ⟨q0, q1, q2, _⟩ := (hx.put y1 m1 d1).facts
      have HB := hid (show Below w.heap.size w (w2.alloc (.cells #[.int .i64 y1, .int .i64 m1, .int .i64 d1] 28)) from HS2.out.2.1.alloc HS2.out.2.1.size _)
      clear hx
      go_wp2
      refine bodyPost_ret (by simp [results, Tryz.results18, go_sem, q0, q1, q2]; try rfl) rfl ?_
      exact ⟨rfl, ((HB.out.setCell (Nat.le_refl _) _).setCell (Nat.le_refl _) _).setCell (Nat.le_refl _) _⟩
    · have ER : rg t.size (sel3 0 p1 p2) (sel3 true (decide (1 ≤ n1 ∧ n1 ≤ wkN n0)) (decide (1 ≤ n2 ∧ n2 ≤ 7))) 3 0 = ((p2 : Int), 3) := by
        rw [rg_yes (k := 0) e0 rfl, rg_yes (k := 1) e1 (by simp [sel3, g1]), rg_no (k := 2) e2 (by simp only [sel3]; exact decide_eq_false g2)]; rfl
      rw [ER] at HR
      have HV : Hid (rwV p1 p2 n0 n1 n2 = .tuple #[dV 0 0 0, .int .i64 30, .int .i64 (p2 : Int)]) := by unfold rwV; rw [if_pos g1, if_neg g2]; exact rfl
      rw [HV.out]
      clear ER g1 g2 HV
      unfold dV
      go_enter Tryz.func18, Tryz.ntmps18
      go_wp2_with fail
      refine (HR.out _ HW.out).mono ?_
      rintro e w1 ⟨rfl, hs⟩
      obtain ⟨k0, k1, k2, f0, f1, f2, _⟩ := hs.2.2.1.facts
      obtain ⟨d0, d1, d2, _⟩ := (hs.2.2.1.put 0 0 0).facts
      have HB := hid hs.2.1
      clear hs HR HW
      go_wp2
      refine bodyPost_ret (by simp [results, Tryz.results18, go_sem, d0, d1, d2]; try rfl) rfl ?_
      exact ⟨rfl, ((HB.out.setCell (Nat.le_refl _) _).setCell (Nat.le_refl _) _).setCell (Nat.le_refl _) _⟩
  · have ER : rg t.size (sel3 0 p1 p2) (sel3 true (decide (1 ≤ n1 ∧ n1 ≤ wkN n0)) (decide (1 ≤ n2 ∧ n2 ≤ 7))) 3 0 = ((p1 : Int), 2) := by
      rw [rg_yes (k := 0) e0 rfl, rg_no (k := 1) e1 (by simp only [sel3]; exact decide_eq_false g1)]; rfl
    rw [ER] at HR
    have HV : Hid (rwV p1 p2 n0 n1 n2 = .tuple #[dV 0 0 0, .int .i64 30, .int .i64 (p1 : Int)]) := by unfold rwV; rw [if_neg g1]; exact rfl
    rw [HV.out]
    clear ER g1 HV
    unfold dV
    go_enter Tryz.func18, Tryz.ntmps18
    go_wp2_with fail
    refine (HR.out _ HW.out).mono ?_
    rintro e w1 ⟨rfl, hs⟩
    obtain ⟨k0, k1, k2, f0, f1, f2, _⟩ := hs.2.2.1.facts
    obtain ⟨d0, d1, d2, _⟩ := (hs.2.2.1.put 0 0 0).facts
    have HB := hid hs.2.1
    clear hs HR HW
    go_wp2
    refine bodyPost_ret (by simp [results, Tryz.results18, go_sem, d0, d1, d2]; try rfl) rfl ?_
    exact ⟨rfl, ((HB.out.setCell (Nat.le_refl _) _).setCell (Nat.le_refl _) _).setCell (Nat.le_refl _) _⟩
end Go.Proofs.YtjpglgemnaknhaaGreatDoor
