/-
  A day's text read: readDay, out of refused.
-/
import Derived.Test.YtjpglgemnaknhaaGreatDoorRefused
import Derived.Test.YtjpglgemnaknhaaGreatDoorCday
namespace Go.Proofs.YtjpglgemnaknhaaGreatDoor
open Go.RowKit
set_option maxRecDepth 100000

def sel3 {α : Type} (a b c : α) : Nat → α
  | 0 => a
  | 1 => b
  | _ => c

/-- the parts of a day's text lie there, and the day as far as it is read -/
def SD (w0 : World) (n0 n1 n2 : Int) (k : Nat) (w : World) : Prop :=
  HasAh w ∧ Below w0.heap.size w0 w ∧ Box w w0.heap.size 0 0 0 ∧ Box w (w0.heap.size + 1) (if 1 ≤ k then n0 else 0) (if 2 ≤ k then n1 else 0) (if 3 ≤ k then n2 else 0) ∧
  w.heap[w0.heap.size + 2]? = some (.cells #[.int .i64 4, .func (.func 38) #[] #[.pointer (some ⟨w0.heap.size + 1, 0, none⟩)], .int .i64 2, .func (.func 39) #[] #[.pointer (some ⟨w0.heap.size + 1, 0, none⟩)], .int .i64 2, .func (.func 40) #[] #[.pointer (some ⟨w0.heap.size + 1, 0, none⟩)]] 66 (0, 0))

/-- a date of zeros; the parts -/
abbrev zD : Obj := .cells #[.int .i64 0, .int .i64 0, .int .i64 0] 28
abbrev ptO (b : Nat) : Obj := .cells #[.int .i64 4, .func (.func 38) #[] #[.pointer (some ⟨b + 1, 0, none⟩)], .int .i64 2, .func (.func 39) #[] #[.pointer (some ⟨b + 1, 0, none⟩)], .int .i64 2, .func (.func 40) #[] #[.pointer (some ⟨b + 1, 0, none⟩)]] 66

theorem alloc_below (w : World) (o : Obj) : Below w.heap.size w (w.alloc o) := (Below.refl _ _).alloc (Nat.le_refl _) _

theorem SD.start (w : World) (hA : HasAh w) (n0 n1 n2 : Int) : SD w n0 n1 n2 0 (((w.alloc zD).alloc zD).alloc (ptO w.heap.size)) := by
  have s1 : (w.alloc zD).heap.size = w.heap.size + 1 := by simp
  have s2 : ((w.alloc zD).alloc zD).heap.size = w.heap.size + 2 := by simp
  refine ⟨((hA.alloc _).alloc _).alloc _, (((Below.refl _ _).alloc (Nat.le_refl _) _).alloc (by omega) _).alloc (by omega) _, ?_, ?_, ?_⟩
  · exact ((Box.new w 0 0 0).later (alloc_below _ zD)).later (alloc_below _ (ptO w.heap.size))
  · have h := (Box.new (w.alloc zD) 0 0 0).later (alloc_below _ (ptO w.heap.size))
    rw [s1] at h
    exact h
  · have h := heap_alloc_new ((w.alloc zD).alloc zD) (ptO w.heap.size)
    rw [s2] at h
    exact h

theorem SD.stable {w0 w w' : World} {n0 n1 n2 : Int} {k : Nat} (h : SD w0 n0 n1 n2 k w) (hb : Below w.heap.size w w') : SD w0 n0 n1 n2 k w' :=
  ⟨h.1.below hb, h.2.1.trans (hb.mono h.2.1.size), h.2.2.1.later hb, h.2.2.2.1.later hb, (hb.block _ (Array.getElem?_eq_some_iff.1 h.2.2.2.2).1).trans h.2.2.2.2⟩

theorem SD.size {w0 w : World} {n0 n1 n2 : Int} {k : Nat} (h : SD w0 n0 n1 n2 k w) : w0.heap.size + 3 ≤ w.heap.size := by
  have := (Array.getElem?_eq_some_iff.1 h.2.2.2.2).1
  omega

theorem SD.set {w0 w : World} {n0 n1 n2 : Int} {k : Nat} (h : SD w0 n0 n1 n2 k w) (hG : HasAh w0) (j : Nat) (v : Value)
    (hb : Box (w.setCell ⟨w0.heap.size + 1, j, none⟩ v) (w0.heap.size + 1) (if 1 ≤ k + 1 then n0 else 0) (if 2 ≤ k + 1 then n1 else 0) (if 3 ≤ k + 1 then n2 else 0)) :
    SD w0 n0 n1 n2 (k + 1) (w.setCell ⟨w0.heap.size + 1, j, none⟩ v) := by
  refine ⟨h.1.belowAt ((Below.refl w0.heap.size w).setCell (by show w0.heap.size ≤ w0.heap.size + 1; omega) _) hG.lt, h.2.1.setCell (by show w0.heap.size ≤ w0.heap.size + 1; omega) _, ?_, hb, ?_⟩
  · unfold Box
    rw [Below.heap_setCell _ _ _ _ (by show w0.heap.size ≠ w0.heap.size + 1; omega)]
    exact h.2.2.1
  · rw [Below.heap_setCell _ _ _ _ (by show w0.heap.size + 2 ≠ w0.heap.size + 1; omega)]
    exact h.2.2.2.2

theorem set_frame (w : World) (B j : Nat) (v : Value) (L : Nat) (h : B < L) : ∀ x, L ≤ x → x < w.heap.size → (w.setCell ⟨B, j, none⟩ v).heap[x]? = w.heap[x]? := fun x hx _ =>
  Below.heap_setCell _ _ _ _ (by show x ≠ B; omega)

theorem clo1_any (w0 w : World) (n0 n1 n2 : Int) (hG : HasAh w0) (h : SD w0 n0 n1 n2 0 w) :
    Calls Tryz.prog 38 #[.int .i64 n0, .pointer (some ⟨w0.heap.size + 1, 0, none⟩)] w fun e w' => e = .returned (.bool true) ∧ SD w0 n0 n1 n2 1 w' ∧ ∀ x, w0.heap.size + 3 ≤ x → x < w.heap.size → w'.heap[x]? = w.heap[x]? := by
  have R := hid (h.set hG 0 (.int .i64 n0) (by have := h.2.2.2.1.put0 n0; simpa using this))
  obtain ⟨c0, c1, c2, f0, f1, f2, _⟩ := h.2.2.2.1.facts
  have FR := hid (set_frame w (w0.heap.size + 1) 0 (.int .i64 n0) (w0.heap.size + 3) (by omega))
  clear h
  go_enter Tryz.func38, Tryz.ntmps38
  go_wp2
  go_ret
  exact ⟨rfl, R.out, FR.out⟩

theorem clo2_any (w0 w : World) (n0 n1 n2 : Int) (hG : HasAh w0) (h : SD w0 n0 n1 n2 1 w) :
    Calls Tryz.prog 39 #[.int .i64 n1, .pointer (some ⟨w0.heap.size + 1, 0, none⟩)] w fun e w' => e = .returned (.bool (decide (1 ≤ n1 ∧ n1 ≤ 12))) ∧ SD w0 n0 n1 n2 2 w' ∧ ∀ x, w0.heap.size + 3 ≤ x → x < w.heap.size → w'.heap[x]? = w.heap[x]? := by
  have R := hid (h.set hG 1 (.int .i64 n1) (by have := h.2.2.2.1.put1 n1; simpa using this))
  obtain ⟨c0, c1, c2, f0, f1, f2, _⟩ := h.2.2.2.1.facts
  have FR := hid (set_frame w (w0.heap.size + 1) 1 (.int .i64 n1) (w0.heap.size + 3) (by omega))
  clear h
  by_cases h1 : 1 ≤ n1
  · by_cases h2 : n1 ≤ 12
    all_goals
      go_enter Tryz.func39, Tryz.ntmps39
      go_wp2
      go_ret
      exact ⟨ret_bool (by simp [h1, h2]), R.out, FR.out⟩
  · go_enter Tryz.func39, Tryz.ntmps39
    go_wp2
    go_ret
    exact ⟨ret_bool (by simp; omega), R.out, FR.out⟩

theorem clo3_any (w0 w : World) (n0 n1 n2 : Int) (hG : HasAh w0) (h : SD w0 n0 n1 n2 2 w) :
    Calls Tryz.prog 40 #[.int .i64 n2, .pointer (some ⟨w0.heap.size + 1, 0, none⟩)] w fun e w' => e = .returned (.bool (decide (VD n0 n1 n2))) ∧ SD w0 n0 n1 n2 3 w' ∧ ∀ x, w0.heap.size + 3 ≤ x → x < w.heap.size → w'.heap[x]? = w.heap[x]? := by
  have R := hid (h.set hG 2 (.int .i64 n2) (by have := h.2.2.2.1.put2 n2; simpa using this))
  obtain ⟨c0, c1, c2, f0, f1, f2, _⟩ := h.2.2.2.1.facts
  obtain ⟨e0, e1, e2, _⟩ := R.out.2.2.2.1.facts
  have FR := hid (set_frame w (w0.heap.size + 1) 2 (.int .i64 n2) (w0.heap.size + 3) (by omega))
  have HV := hid (fun w h => valid_any n0 n1 n2 w h)
  have hsz : (w.setCell ⟨w0.heap.size + 1, 2, none⟩ (.int .i64 n2)).heap.size = w.heap.size := by simp
  simp at c0 c1 c2 e0 e1 e2
  generalize decide (VD n0 n1 n2) = bb at *
  clear h
  unfold dV at *
  go_enter Tryz.func40, Tryz.ntmps40
  go_wp2_with fail
  refine (HV.out _ R.out.1).mono ?_
  rintro e w1 ⟨rfl, hb⟩
  have R1 := hid (R.out.stable hb)
  have F1 := hid (fun x hx hz => (hb.block x (by rw [hsz]; exact hz)).trans (FR.out x hx hz))
  clear hb
  go_wp2
  go_ret
  exact ⟨rfl, R1.out, F1.out⟩

/-- the answer of readDay -/
def rdV (p1 p2 : Nat) (n0 n1 n2 : Int) : Value := if 1 ≤ n1 ∧ n1 ≤ 12 then if VD n0 n1 n2 then .tuple #[dV n0 n1 n2, .int .i64 0, .int .i64 0] else .tuple #[dV 0 0 0, .int .i64 30, .int .i64 (p2 : Int)] else .tuple #[dV 0 0 0, .int .i64 30, .int .i64 (p1 : Int)]

theorem eg_of {f : Nat} {fn : Func} {c : Code} (hf : Tryz.prog.funcs[f]? = some fn) (hn : (fn.name == "runtime.NumGoroutine") = false) (hb : fn.body = some c) : ∀ args w, (callFunc f args).run Tryz.prog w = .ok (.enter f args) w := Go.Proofs.enters_of hf hn hb

set_option maxHeartbeats 1000000 in
theorem readDay_any (t : ByteArray) (ht : t.size ≤ 64) (p1 p2 : Nat) (h0 : sk t.data.toList 0 = 0) (h1 : sk t.data.toList 4 = p1) (h2 : sk t.data.toList (p1 + 2) = p2)
    (l0 : 4 ≤ t.size ∧ 0 ≠ t.size ∧ ∀ c ∈ sub t.data.toList 0 4, isDB c = true) (l1 : p1 + 2 ≤ t.size ∧ p1 ≠ t.size ∧ ∀ c ∈ sub t.data.toList p1 2, isDB c = true) (l2 : p2 + 2 ≤ t.size ∧ p2 ≠ t.size ∧ ∀ c ∈ sub t.data.toList p2 2, isDB c = true)
    (w : World) (hA : HasAh w) :
    Calls Tryz.prog 16 #[.string t] w fun e w' => e = .returned (rdV p1 p2 (nm (sub t.data.toList 0 4)) (nm (sub t.data.toList p1 2)) (nm (sub t.data.toList p2 2))) ∧ Below w.heap.size w w' := by
  have hmf : ∀ (fn : Fn) (first cap : Array Value) (w : World), (Instr.makeFunc fn first cap).run Tryz.prog w = .ok (.func fn first cap) w := fun _ _ _ _ => rfl
  obtain ⟨n0, hn0⟩ : ∃ n : Int, n = (nm (sub t.data.toList 0 4) : Int) := ⟨_, rfl⟩
  obtain ⟨n1, hn1⟩ : ∃ n : Int, n = (nm (sub t.data.toList p1 2) : Int) := ⟨_, rfl⟩
  obtain ⟨n2, hn2⟩ : ∃ n : Int, n = (nm (sub t.data.toList p2 2) : Int) := ⟨_, rfl⟩
  rw [← hn0, ← hn1, ← hn2]
  have HR := hid (fun w1 hw => refused_any t ht 3 (w.heap.size + 2) (sel3 4 2 2) (sel3 38 39 40) (sel3 0 p1 p2) (fun _ => #[.pointer (some ⟨w.heap.size + 1, 0, none⟩)])
    (sel3 true (decide (1 ≤ n1 ∧ n1 ≤ 12)) (decide (VD n0 n1 n2))) (SD w n0 n1 n2) (w.heap.size + 3) (by omega)
    (fun k => match k with
      | 0 => eg_of Tryz.func38 (by kernel_rfl) rfl
      | 1 => eg_of Tryz.func39 (by kernel_rfl) rfl
      | _ + 2 => eg_of Tryz.func40 (by kernel_rfl) rfl)
    (fun k w w' h hb => h.stable hb) (fun k w h => h.size)
    (fun k j w hj h => by
      match j, hj with
      | 0, _ => exact ⟨by rw [Lib.cell_of_heap h.2.2.2.2]; rfl, by rw [Lib.cell_of_heap h.2.2.2.2]; rfl⟩
      | 1, _ => exact ⟨by rw [Lib.cell_of_heap h.2.2.2.2]; rfl, by rw [Lib.cell_of_heap h.2.2.2.2]; rfl⟩
      | 2, _ => exact ⟨by rw [Lib.cell_of_heap h.2.2.2.2]; rfl, by rw [Lib.cell_of_heap h.2.2.2.2]; rfl⟩)
    h0 (fun k hk _ => by
      match k, hk with
      | 0, _ => exact h1
      | 1, _ => exact h2)
    (fun k hk => by
      match k, hk with
      | 0, _ => exact .inr ⟨l0.1, by decide, by decide, l0.2.2⟩
      | 1, _ => exact .inr ⟨l1.1, by decide, by decide, l1.2.2⟩
      | 2, _ => exact .inr ⟨l2.1, by decide, by decide, l2.2.2⟩)
    (fun k wx hk _ h => by
      match k, hk with
      | 0, _ => exact (by rw [← hn0]; exact clo1_any w wx n0 n1 n2 hA h : Calls Tryz.prog _ #[.int .i64 (nm (sub t.data.toList 0 4) : Int), .pointer (some ⟨w.heap.size + 1, 0, none⟩)] wx _)
      | 1, _ => exact (by rw [← hn1]; exact clo2_any w wx n0 n1 n2 hA h : Calls Tryz.prog _ #[.int .i64 (nm (sub t.data.toList p1 2) : Int), .pointer (some ⟨w.heap.size + 1, 0, none⟩)] wx _)
      | 2, _ => exact (by rw [← hn2]; exact clo3_any w wx n0 n1 n2 hA h : Calls Tryz.prog _ #[.int .i64 (nm (sub t.data.toList p2 2) : Int), .pointer (some ⟨w.heap.size + 1, 0, none⟩)] wx _))
    w1 hw)
  have HW := hid (SD.start w hA n0 n1 n2)
  have e0 : (0 : Nat) ≠ t.size := l0.2.1
  have e1 := l1.2.1
  have e2 := l2.2.1
  clear h0 h1 h2 l0 l1 l2 hn0 hn1 hn2 hA
  by_cases g1 : 1 ≤ n1 ∧ n1 ≤ 12
  · by_cases g2 : VD n0 n1 n2
    · have ER : rg t.size (sel3 0 p1 p2) (sel3 true (decide (1 ≤ n1 ∧ n1 ≤ 12)) (decide (VD n0 n1 n2))) 3 0 = (-1, 3) := by
        rw [rg_yes (k := 0) e0 rfl, rg_yes (k := 1) e1 (by simp [sel3, g1]), rg_yes (k := 2) e2 (by simp [sel3, g2])]; rfl
      rw [ER] at HR
      have HV : Hid (rdV p1 p2 n0 n1 n2 = .tuple #[dV n0 n1 n2, .int .i64 0, .int .i64 0]) := by unfold rdV; rw [if_pos g1, if_pos g2]; exact rfl
      rw [HV.out]
      clear ER g1 g2 HV
      unfold dV
      go_enter Tryz.func16, Tryz.ntmps16
      go_wp2_with fail
      refine (HR.out _ HW.out).mono ?_
      rintro e w1 ⟨rfl, hs⟩
      obtain ⟨k0, k1, k2, f0, f1, f2, _⟩ := hs.2.2.1.facts
      obtain ⟨c0, c1, c2, _⟩ := hs.2.2.2.1.facts
      obtain ⟨d0, d1, d2, _⟩ := (hs.2.2.1.put n0 n1 n2).facts
      have HB := hid hs.2.1
      simp at c0 c1 c2
      clear hs HR HW
      go_wp2
      refine bodyPost_ret (by simp [results, Tryz.results16, go_sem, d0, d1, d2]; try rfl) rfl ?_
      exact ⟨rfl, ((HB.out.setCell (Nat.le_refl _) _).setCell (Nat.le_refl _) _).setCell (Nat.le_refl _) _⟩
    · have ER : rg t.size (sel3 0 p1 p2) (sel3 true (decide (1 ≤ n1 ∧ n1 ≤ 12)) (decide (VD n0 n1 n2))) 3 0 = ((p2 : Int), 3) := by
        rw [rg_yes (k := 0) e0 rfl, rg_yes (k := 1) e1 (by simp [sel3, g1]), rg_no (k := 2) e2 (by simp only [sel3]; exact decide_eq_false g2)]; rfl
      rw [ER] at HR
      have HV : Hid (rdV p1 p2 n0 n1 n2 = .tuple #[dV 0 0 0, .int .i64 30, .int .i64 (p2 : Int)]) := by unfold rdV; rw [if_pos g1, if_neg g2]; exact rfl
      rw [HV.out]
      clear ER g1 g2 HV
      unfold dV
      go_enter Tryz.func16, Tryz.ntmps16
      go_wp2_with fail
      refine (HR.out _ HW.out).mono ?_
      rintro e w1 ⟨rfl, hs⟩
      obtain ⟨k0, k1, k2, f0, f1, f2, _⟩ := hs.2.2.1.facts
      obtain ⟨d0, d1, d2, _⟩ := (hs.2.2.1.put 0 0 0).facts
      have HB := hid hs.2.1
      clear hs HR HW
      go_wp2
      refine bodyPost_ret (by simp [results, Tryz.results16, go_sem, d0, d1, d2]; try rfl) rfl ?_
      exact ⟨rfl, ((HB.out.setCell (Nat.le_refl _) _).setCell (Nat.le_refl _) _).setCell (Nat.le_refl _) _⟩
  · have ER : rg t.size (sel3 0 p1 p2) (sel3 true (decide (1 ≤ n1 ∧ n1 ≤ 12)) (decide (VD n0 n1 n2))) 3 0 = ((p1 : Int), 2) := by
      rw [rg_yes (k := 0) e0 rfl, rg_no (k := 1) e1 (by simp only [sel3]; exact decide_eq_false g1)]; rfl
    rw [ER] at HR
    have HV : Hid (rdV p1 p2 n0 n1 n2 = .tuple #[dV 0 0 0, .int .i64 30, .int .i64 (p1 : Int)]) := by unfold rdV; rw [if_neg g1]; exact rfl
    rw [HV.out]
    clear ER g1 HV
    unfold dV
    go_enter Tryz.func16, Tryz.ntmps16
    go_wp2_with fail
    refine (HR.out _ HW.out).mono ?_
    rintro e w1 ⟨rfl, hs⟩
    obtain ⟨k0, k1, k2, f0, f1, f2, _⟩ := hs.2.2.1.facts
    obtain ⟨d0, d1, d2, _⟩ := (hs.2.2.1.put 0 0 0).facts
    have HB := hid hs.2.1
    clear hs HR HW
    go_wp2
    refine bodyPost_ret (by simp [results, Tryz.results16, go_sem, d0, d1, d2]; try rfl) rfl ?_
    exact ⟨rfl, ((HB.out.setCell (Nat.le_refl _) _).setCell (Nat.le_refl _) _).setCell (Nat.le_refl _) _⟩
end Go.Proofs.YtjpglgemnaknhaaGreatDoor
