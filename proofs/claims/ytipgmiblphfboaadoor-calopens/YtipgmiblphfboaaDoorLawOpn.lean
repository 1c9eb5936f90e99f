/-
  CalOpens: the law's own walk, out of the contracts.
-/
import Derived.Test.YtipgmiblphfboaaDoorOpn2
import Derived.Deep.RegionHeld
namespace Go.Proofs.YtipgmiblphfboaaDoor
open Go.RowKit
set_option maxRecDepth 100000
attribute [local go_sem ↓] rlLd_op

/-- what the law leans on: the rule, both days, the tables -/
def LK (w0 : World) (wk : Nat → Bool) (v1 v2 : Value) (a b c y m d y' m' d' : Int) (w : World) : Prop := RZ w w0.heap.size wk v1 v2 ∧ Box w (w0.heap.size + 1) y m d ∧ Box w (w0.heap.size + 1 + 1) y' m' d' ∧ Below w0.heap.size w0 w ∧ HasAh w ∧ MkB w a b c
theorem LK.later {w0 w w' : World} {wk : Nat → Bool} {v1 v2 : Value} {a b c y m d y' m' d' : Int} (h : LK w0 wk v1 v2 a b c y m d y' m' d' w) (hb : Below w.heap.size w w') : LK w0 wk v1 v2 a b c y m d y' m' d' w' := ⟨h.1.later hb, h.2.1.later hb, h.2.2.1.later hb, h.2.2.2.1.trans (hb.mono h.2.2.2.1.size), h.2.2.2.2.1.below hb, h.2.2.2.2.2.below hb⟩
theorem cell_far {w : World} {g o : Nat} {x y z : Value} (p : Addr) (hp : p.block ≠ g) : (((w.setCell ⟨g, o, none⟩ x).setCell ⟨g, o + 1, none⟩ y).setCell ⟨g, o + 2, none⟩ z).cell? p = w.cell? p := by
  rw [World.cell?_setCell_other _ _ _ _ (fun e => hp (by rw [← e])), World.cell?_setCell_other _ _ _ _ (fun e => hp (by rw [← e])), World.cell?_setCell_other _ _ _ _ (fun e => hp (by rw [← e]))]
theorem LK.set3 {w0 w : World} {wk : Nat → Bool} {v1 v2 : Value} {a b c y m d y' m' d' : Int} (h : LK w0 wk v1 v2 a b c y m d y' m' d' w) {g o : Nat} {x1 x2 x3 : Value} (hA0 : HasAh w0) (hM0 : MkB w0 a b c) (hg : w0.heap.size + 1 + 1 + 1 ≤ g) : LK w0 wk v1 v2 a b c y m d y' m' d' (((w.setCell ⟨g, o, none⟩ x1).setCell ⟨g, o + 1, none⟩ x2).setCell ⟨g, o + 2, none⟩ x3) := by
  have hb : Below w0.heap.size w0 (((w.setCell ⟨g, o, none⟩ x1).setCell ⟨g, o + 1, none⟩ x2).setCell ⟨g, o + 2, none⟩ x3) := ((h.2.2.2.1.setCell (by show w0.heap.size ≤ g; omega) _).setCell (by show w0.heap.size ≤ g; omega) _).setCell (by show w0.heap.size ≤ g; omega) _
  have hk : ∀ k, k < w0.heap.size + 1 + 1 + 1 → (((w.setCell ⟨g, o, none⟩ x1).setCell ⟨g, o + 1, none⟩ x2).setCell ⟨g, o + 2, none⟩ x3).heap[k]? = w.heap[k]? := fun k hk => by
    rw [Below.heap_setCell _ _ _ _ (by show k ≠ g; omega), Below.heap_setCell _ _ _ _ (by show k ≠ g; omega), Below.heap_setCell _ _ _ _ (by show k ≠ g; omega)]
  exact ⟨(hk _ (by omega)).trans h.1, (hk _ (by omega)).trans h.2.1, (hk _ (by omega)).trans h.2.2.1, hb, hA0.below hb, hM0.below hb⟩
theorem RL.cells3 {w : World} {g off n c : Nat} {L : List (Int × Int × Int)} (h : RL eD 3 w (.slice (some ⟨g, off, none⟩) n c) L) (i : Nat) (hi : i < L.length) : w.cell? ⟨g, off + i * 3, none⟩ = some (.int .i64 L[i].1) ∧ w.cell? ⟨g, off + i * 3 + 1, none⟩ = some (.int .i64 L[i].2.1) ∧ w.cell? ⟨g, off + i * 3 + 2, none⟩ = some (.int .i64 L[i].2.2) := by
  obtain ⟨ao, c', hv, _, _, h3⟩ := h
  cases hv
  obtain ⟨g', off', ha, hq⟩ := h3 i hi
  cases ha
  exact ⟨hq 0 _ rfl, hq 1 _ rfl, hq 2 _ rfl⟩
theorem RL.some3 {w : World} {g off n c : Nat} {L : List (Int × Int × Int)} (h : RL eD 3 w (.slice (some ⟨g, off, none⟩) n c) L) (i : Nat) (hi : i < L.length) {o : Nat} (ho : o = off + i * 3) : ∃ e0 e1 e2 : Value, w.cell? ⟨g, o, none⟩ = some e0 ∧ w.cell? ⟨g, o + 1, none⟩ = some e1 ∧ w.cell? ⟨g, o + 2, none⟩ = some e2 := by
  subst ho
  exact ⟨_, _, _, h.cells3 i hi⟩
theorem RL.other {w : World} {g off n c g' o : Nat} {L : List (Int × Int × Int)} {x y z : Value} (h : RL eD 3 w (.slice (some ⟨g, off, none⟩) n c) L) (hne : g ≠ g') : RL eD 3 (((w.setCell ⟨g', o, none⟩ x).setCell ⟨g', o + 1, none⟩ y).setCell ⟨g', o + 2, none⟩ z) (.slice (some ⟨g, off, none⟩) n c) L := by
  obtain ⟨ao, c', hv, h1, h2, h3⟩ := h
  cases hv
  refine ⟨_, c, rfl, h1, h2, fun i hi => ?_⟩
  obtain ⟨g2, off2, ha, hq⟩ := h3 i hi
  cases ha
  exact ⟨g, off, rfl, fun j u hj => by rw [cell_far _ (by show g ≠ g'; exact hne)]; exact hq j u hj⟩
theorem RL.set3 {w : World} {g off n c : Nat} {L : List (Int × Int × Int)} (h : RL eD 3 w (.slice (some ⟨g, off, none⟩) n c) L) (i : Nat) (hi : i < L.length) (X : Int × Int × Int) {o : Nat} (ho : o = off + i * 3) : RL eD 3 (((w.setCell ⟨g, o, none⟩ (.int .i64 X.1)).setCell ⟨g, o + 1, none⟩ (.int .i64 X.2.1)).setCell ⟨g, o + 2, none⟩ (.int .i64 X.2.2)) (.slice (some ⟨g, off, none⟩) n c) (L.set i X) := by
  subst ho
  obtain ⟨k0, k1, k2⟩ := h.cells3 i hi
  obtain ⟨ao, c', hv, h1, h2, h3⟩ := h
  cases hv
  refine ⟨_, c, by rw [List.length_set], by rw [List.length_set]; exact h1, h2, fun k hk => ?_⟩
  rw [List.length_set] at hk
  obtain ⟨g2, off2, ha, hq⟩ := h3 k hk
  cases ha
  refine ⟨g, off, rfl, fun j u hj => ?_⟩
  by_cases e : k = i
  · subst e
    rw [List.getElem_set_self] at hj
    match j, hj with
    | 0, hj =>
      simp only [eD, List.getElem?_cons_zero, Option.some.injEq] at hj
      subst hj
      rw [World.cell?_setCell_other _ _ _ _ (by simp), World.cell?_setCell_other _ _ _ _ (by simp)]
      exact World.cell?_setCell_same _ _ _ k0
    | 1, hj =>
      simp only [eD, List.getElem?_cons_zero, List.getElem?_cons_succ, Option.some.injEq] at hj
      subst hj
      rw [World.cell?_setCell_other _ _ _ _ (by simp)]
      refine World.cell?_setCell_same _ _ _ (?_ : _ = some (.int .i64 L[k].2.1))
      rw [World.cell?_setCell_other _ _ _ _ (by simp)]
      exact k1
    | 2, hj =>
      simp only [eD, List.getElem?_cons_zero, List.getElem?_cons_succ, Option.some.injEq] at hj
      subst hj
      refine World.cell?_setCell_same _ _ _ (?_ : _ = some (.int .i64 L[k].2.2))
      rw [World.cell?_setCell_other _ _ _ _ (by simp), World.cell?_setCell_other _ _ _ _ (by simp)]
      exact k2
    | j + 3, hj => simp [eD] at hj
  · rw [List.getElem_set_ne (fun h => e h.symm)] at hj
    have hj3 : j < 3 := by have := (List.getElem?_eq_some_iff.1 hj).1; simpa [eD] using this
    rw [World.cell?_setCell_other _ _ _ _ (by simp <;> omega), World.cell?_setCell_other _ _ _ _ (by simp <;> omega), World.cell?_setCell_other _ _ _ _ (by simp <;> omega)]
    exact hq j u hj
theorem OL.shape {t : TypeId} {w : World} {base : Nat} {v : Value} {L : List (Int × Int × Int)} (h : OL eD 3 t w base v L) (hl : 0 < L.length) : ∃ g cap n, v = .slice (some ⟨g, 0, none⟩) n cap ∧ L.length = n ∧ base ≤ g ∧ g < w.heap.size ∧ ∃ cur, w.heap[g]? = some (.cells cur t (0, 0)) := by
  rcases h.2 with ⟨_, h0⟩ | ⟨g, cap, cur, rfl, hb, hg, _⟩
  · omega
  · exact ⟨g, cap, _, rfl, rfl, hb, (Array.getElem?_eq_some_iff.1 hg).1, cur, hg⟩

set_option maxHeartbeats 8000000 in
theorem openlaw_any (wk : Nat → Bool) (D E : List (Int × Int × Int)) (v1 v2 : Value) (y m d y' m' d' n a b c : Int) (w : World) (h1 : RL eD 3 w v1 D) (h2 : RL eD 3 w v2 E) (hs1 : D.length * 24 ≤ reachBytes) (hs2 : E.length * 24 ≤ reachBytes) (hA : HasAh w) (hM : MkB w a b c) :
    Calls Tryd.prog 4 #[rlV wk v1 v2, dV y m d, dV y' m' d', .int .i64 n] w fun e w' => e = .returned (.bool true) ∧ Below w.heap.size w w' := by
  obtain ⟨aw1, cw1, hv1⟩ := h1.len0
  obtain ⟨aw2, cw2, hv2⟩ := h2.len0
  subst hv1 hv2
  have H1 := hid h1
  have H2 := hid h2
  have hz1 : D.length * 24 ≤ 140737488351232 := hs1
  have hz2 : E.length * 24 ≤ 140737488351232 := hs2
  obtain ⟨W3, hW3⟩ : ∃ W3, ((w.alloc (.cells (rlC wk (.slice aw1 D.length cw1) (.slice aw2 E.length cw2)) 26)).alloc (.cells #[.int .i64 y, .int .i64 m, .int .i64 d] 33)).alloc (.cells #[.int .i64 y', .int .i64 m', .int .i64 d'] 33) = W3 := ⟨_, rfl⟩
  have hB : Below w.heap.size w W3 := by
    rw [← hW3]
    exact (((Below.refl _ _).alloc (Nat.le_refl _) _).alloc (by simp) _).alloc (by simp; omega) _
  have hR : RZ W3 w.heap.size wk (.slice aw1 D.length cw1) (.slice aw2 E.length cw2) := by
    rw [← hW3]
    exact ((alloc_below _ _).block _ (by simp; omega)).trans (((alloc_below _ _).block _ (by simp)).trans (heap_alloc_new _ _))
  have hD : Box W3 (w.heap.size + 1) y m d := by
    rw [← hW3]
    have h := Box.new (w.alloc (.cells (rlC wk (.slice aw1 D.length cw1) (.slice aw2 E.length cw2)) 26)) y m d
    rw [World.size_alloc] at h
    exact h.later (alloc_below _ _)
  have hD' : Box W3 (w.heap.size + 1 + 1) y' m' d' := by
    rw [← hW3]
    have h := Box.new ((w.alloc (.cells (rlC wk (.slice aw1 D.length cw1) (.slice aw2 E.length cw2)) 26)).alloc (.cells #[.int .i64 y, .int .i64 m, .int .i64 d] 33)) y' m' d'
    simp only [World.size_alloc] at h
    exact h
  have hz3 : W3.heap.size = w.heap.size + 1 + 1 + 1 := by rw [← hW3]; simp
  have HL3 := hid (show LK w wk (.slice aw1 D.length cw1) (.slice aw2 E.length cw2) a b c y m d y' m' d' W3 from ⟨hR, hD, hD', hB, hA.below hB, hM.below hB⟩)
  have Hz3 := hid hz3
  have HA0 := hid hA
  have HM0 := hid hM
  clear hB hR hD hD' hz3 h1 h2 hA hM
  unfold rlV dV
  unfold rlC at hW3 ⊢
  have RD := hid (room_any _ D a b c W3 (H1.out.below HL3.out.2.2.2.1) hs1 HL3.out.2.2.2.2.2)
  go_enter Tryd.func4, Tryd.ntmps4
  obtain ⟨_, _, _, _, _, _, _, t7, t8⟩ := HL3.out.1.facts.1
  go_wp2_with fail
  refine RD.out.mono ?_
  rintro e w4 ⟨⟨u1, rfl, o1⟩, hb4⟩
  have HL4 := hid (HL3.out.later hb4)
  obtain ⟨g1, c1, n1, rfl, hn1, lg1, lt1, cur1, hcur1⟩ := o1.shape (by simp)
  have R14 := hid (OL.reads eD_len o1)
  have Hn1 := hid (show D.length + 1 = n1 by simpa using hn1)
  clear hn1
  have HC1 := hid hcur1
  have hg1 : w.heap.size + 1 + 1 + 1 ≤ g1 := by have := Hz3.out; omega
  have RE := hid (room_any _ E a b c w4 (H2.out.below HL4.out.2.2.2.1) hs2 HL4.out.2.2.2.2.2)
  clear RD t7 t8 hW3 o1 hcur1 HL3 Hz3 lg1
  obtain ⟨_, _, _, _, _, _, _, t7, t8⟩ := HL4.out.1.facts.1
  go_wp2_with fail
  refine RE.out.mono ?_
  rintro e w5 ⟨⟨u2, rfl, o2⟩, hb5⟩
  have HL5 := hid (HL4.out.later hb5)
  obtain ⟨g2, c2, n2, rfl, hn2, lg2, lt2, cur2, hcur2⟩ := o2.shape (by simp)
  have R15 := hid (R14.out.below hb5)
  have R25 := hid (OL.reads eD_len o2)
  have HC15 := hid ((hb5.block g1 lt1).trans HC1.out)
  have HC25 := hid hcur2
  have hne12 : g1 ≠ g2 := by omega
  have hne21 : g2 ≠ g1 := by omega
  have hg2 : w.heap.size + 1 + 1 + 1 ≤ g2 := by omega
  have lt15 : g1 < w5.heap.size := by omega
  have AS1 := hid (asked_any wk D E a b c _ _ (.slice aw1 D.length cw1) (.slice aw2 E.length cw2) y m d y' m' d' n w5 R15.out R25.out hs1 hs2 HL5.out.2.2.2.2.1 HL5.out.2.2.2.2.2)
  unfold rlV dV at AS1
  unfold rlC at AS1
  obtain ⟨d0, d1, d2, _⟩ := HL5.out.2.1.facts
  obtain ⟨j0, j1, j2, _⟩ := HL5.out.2.2.1.facts
  have hl := run_rlLd HL5.out.1
  unfold rlC at hl
  have Hn2 := hid (show E.length + 1 = n2 by simpa using hn2)
  clear hn2
  clear HL4 R14 HC1 RE t7 t8 o2 hcur2 hb5 hb4 lg2 lt1
  go_wp2_with fail
  refine AS1.out.mono ?_
  rintro e w6 ⟨rfl, hb6⟩
  have HL6 := hid (HL5.out.later hb6)
  have R16 := hid (R15.out.below hb6)
  have R26 := hid (R25.out.below hb6)
  have HL6G1 := hid (fun k => Lib.frozen_of_heap ((hb6.block g1 lt15).trans HC15.out) k)
  have HL6G2 := hid ((hb6.block g2 lt2).trans HC25.out)
  clear AS1 d0 d1 d2 j0 j1 j2 hl hb6 HL5 R15 R25 HC15 HC25 lt15 lt2
  by_cases hD0 : D.length = 0
  · have hne : n1 = 1 := by have := Hn1.out; omega
    subst hne
    clear hD0 Hn1
    by_cases hE0 : E.length = 0
    · have hne : n2 = 1 := by have := Hn2.out; omega
      subst hne
      clear hE0 Hn2
      have AS2 := hid (asked_any wk D E a b c _ _ (.slice aw1 D.length cw1) (.slice aw2 E.length cw2) y m d y' m' d' n w6 R16.out R26.out (by simpa using hs1) (by simpa using hs2) HL6.out.2.2.2.2.1 HL6.out.2.2.2.2.2)
      unfold rlV dV at AS2
      unfold rlC at AS2
      obtain ⟨d0, d1, d2, _⟩ := HL6.out.2.1.facts
      obtain ⟨j0, j1, j2, _⟩ := HL6.out.2.2.1.facts
      have hl := run_rlLd HL6.out.1
      unfold rlC at hl
      go_wp2_with fail
      refine AS2.out.mono ?_
      rintro e w8 ⟨rfl, hb8⟩
      have HL8 := hid (HL6.out.later hb8)
      clear AS2 d0 d1 d2 j0 j1 j2 hl hb8
      have sd : LtB w8 w8.drew := (Below.refl _ _).drew
      have KX := hid (fun wx (h : LtB w8 wx) => (show (rlLd ⟨w.heap.size, 0, none⟩).run Tryd.prog wx = .ok (.agg #[.bool (wk 0), .bool (wk 1), .bool (wk 2), .bool (wk 3), .bool (wk 4), .bool (wk 5), .bool (wk 6), (.slice aw1 D.length cw1), (.slice aw2 E.length cw2)]) wx ∧ (wx.cell? ⟨w.heap.size, 7, none⟩ = some (.slice aw1 D.length cw1) ∧ wx.cell? ⟨w.heap.size, 8, none⟩ = some (.slice aw2 E.length cw2)) ∧ (wx.cell? ⟨w.heap.size + 1, 0, none⟩ = some (.int .i64 y) ∧ wx.cell? ⟨w.heap.size + 1, 1, none⟩ = some (.int .i64 m) ∧ wx.cell? ⟨w.heap.size + 1, 2, none⟩ = some (.int .i64 d)) ∧ wx.cell? ⟨w.heap.size + 1 + 1, 0, none⟩ = some (.int .i64 y') ∧ wx.cell? ⟨w.heap.size + 1 + 1, 1, none⟩ = some (.int .i64 m') ∧ wx.cell? ⟨w.heap.size + 1 + 1, 2, none⟩ = some (.int .i64 d') from ⟨run_rlLd (HL8.out.later h).1, ⟨(HL8.out.later h).1.facts.1.2.2.2.2.2.2.2.1, (HL8.out.later h).1.facts.1.2.2.2.2.2.2.2.2⟩, ⟨(HL8.out.later h).2.1.facts.1, (HL8.out.later h).2.1.facts.2.1, (HL8.out.later h).2.1.facts.2.2.1⟩, (HL8.out.later h).2.2.1.facts.1, (HL8.out.later h).2.2.1.facts.2.1, (HL8.out.later h).2.2.1.facts.2.2.1⟩))
      have RD := hid (fun wx (h : LtB w8 wx) => room_any (.slice aw1 D.length cw1) D a b c wx (H1.out.below (HL8.out.later h).2.2.2.1) hs1 (HL8.out.later h).2.2.2.2.2)
      have RE := hid (fun wx (h : LtB w8 wx) => room_any (.slice aw2 E.length cw2) E a b c wx (H2.out.below (HL8.out.later h).2.2.2.1) hs2 (HL8.out.later h).2.2.2.2.2)
      have AS3 := hid (fun q1 q2 wx (h : LtB w8 wx) r1 r2 => asked_any wk D E a b c q1 q2 (.slice aw1 D.length cw1) (.slice aw2 E.length cw2) y m d y' m' d' n wx r1 r2 hs1 hs2 (HL8.out.later h).2.2.2.2.1 (HL8.out.later h).2.2.2.2.2)
      unfold rlV dV at AS3
      unfold rlC at AS3
      go_wp2_with fail
      first | go_region_held (fun wx => (rlLd ⟨w.heap.size, 0, none⟩).run Tryd.prog wx = .ok (.agg #[.bool (wk 0), .bool (wk 1), .bool (wk 2), .bool (wk 3), .bool (wk 4), .bool (wk 5), .bool (wk 6), (.slice aw1 D.length cw1), (.slice aw2 E.length cw2)]) wx ∧ (wx.cell? ⟨w.heap.size, 7, none⟩ = some (.slice aw1 D.length cw1) ∧ wx.cell? ⟨w.heap.size, 8, none⟩ = some (.slice aw2 E.length cw2)) ∧ (wx.cell? ⟨w.heap.size + 1, 0, none⟩ = some (.int .i64 y) ∧ wx.cell? ⟨w.heap.size + 1, 1, none⟩ = some (.int .i64 m) ∧ wx.cell? ⟨w.heap.size + 1, 2, none⟩ = some (.int .i64 d)) ∧ wx.cell? ⟨w.heap.size + 1 + 1, 0, none⟩ = some (.int .i64 y') ∧ wx.cell? ⟨w.heap.size + 1 + 1, 1, none⟩ = some (.int .i64 m') ∧ wx.cell? ⟨w.heap.size + 1 + 1, 2, none⟩ = some (.int .i64 d')) (first | exact KX.out _ (by assumption) | go_keep) (first
        | (go_at_call 12; refine (AS3.out _ _ _ s4 q3.out q4.out).mono ?_; rintro e w21 ⟨rfl, hb5⟩; have s5 : LtB w8 w21 := LtB.call s4 hb5; clear hb5)
        | (go_at_call 11; first
            | (refine (RE.out _ s3).mono ?_; rintro e w20 ⟨⟨u4, rfl, o4⟩, hb4⟩; have s4 : LtB w8 w20 := LtB.call s3 hb4; have q3 := hid (p3.out.below hb4); have q4 := hid (OL.reads eD_len o4); clear hb4 o4)
            | (refine (RD.out _ sd).mono ?_; rintro e w19 ⟨⟨u3, rfl, o3⟩, hb3⟩; have s3 : LtB w8 w19 := LtB.call sd hb3; have p3 := hid (OL.reads eD_len o3); clear hb3 o3))) | fail
      have HE := hid ((HL8.out.later s5).2.2.2.1)
      clear s3 s4 s5 sd
      go_wp2
      go_ret
      exact ⟨rfl, HE.out⟩
    · obtain ⟨q, hq⟩ : ∃ q, E.length = q + 1 := ⟨E.length - 1, by omega⟩
      have hne : n2 = q + 1 + 1 := by have := Hn2.out; omega
      subst hne
      have hqb : q ≤ 6000000000000 := by omega
      have hwq : wrap64 ((q : Int) + 1 + 1 - 2) = (q : Int) := by rw [show (q : Int) + 1 + 1 - 2 = (q : Int) by omega]; unfold wrap64; omega
      obtain ⟨i0, i1, i2, k0, k1, k2⟩ := RL.some3 R26.out q (by simp; omega) (o := q * 3) (by omega)
      have fz := fun k => Lib.frozen_of_heap HL6G2.out k
      obtain ⟨z0, z1, z2⟩ := And.intro (fz (q * 3)) (And.intro (fz (q * 3 + 1)) (fz (q * 3 + 2)))
      obtain ⟨j0, j1, j2, _⟩ := HL6.out.2.2.1.facts
      obtain ⟨wS, hwS⟩ : ∃ wS, ((w6.setCell ⟨g2, q * 3, none⟩ (.int .i64 y')).setCell ⟨g2, q * 3 + 1, none⟩ (.int .i64 m')).setCell ⟨g2, q * 3 + 2, none⟩ (.int .i64 d') = wS := ⟨_, rfl⟩
      have HLS := hid (show LK w wk (.slice aw1 D.length cw1) (.slice aw2 E.length cw2) a b c y m d y' m' d' wS by rw [← hwS]; exact HL6.out.set3 HA0.out HM0.out hg2)
      have R1S := hid (show RL eD 3 wS (.slice (some ⟨g1, 0, none⟩) _ c1) (D ++ [(a, b, c)]) by rw [← hwS]; exact R16.out.other hne12)
      have R2S := hid (show RL eD 3 wS (.slice (some ⟨g2, 0, none⟩) (q + 1 + 1) c2) (E.set q (y', m', d') ++ [(a, b, c)]) by
        rw [← hwS]
        have := R26.out.set3 q (by simp; omega) (y', m', d') (o := q * 3) (by omega)
        rw [List.set_append_left _ _ (by omega)] at this
        exact this)
      have Hq := hid hq
      clear fz hq hE0
      skip
      have AS2 := hid (asked_any wk D (E.set q (y', m', d')) a b c _ _ (.slice aw1 D.length cw1) (.slice aw2 E.length cw2) y m d y' m' d' n wS R1S.out R2S.out (by simpa using hs1) (by simpa using hs2) HLS.out.2.2.2.2.1 HLS.out.2.2.2.2.2)
      unfold rlV dV at AS2
      unfold rlC at AS2
      obtain ⟨d0, d1, d2, _⟩ := HLS.out.2.1.facts
      obtain ⟨j0, j1, j2, _⟩ := HLS.out.2.2.1.facts
      have hl := run_rlLd HLS.out.1
      unfold rlC at hl
      go_wp2_with fail
      refine AS2.out.mono ?_
      rintro e w8 ⟨rfl, hb8⟩
      have HL8 := hid (HLS.out.later hb8)
      clear AS2 d0 d1 d2 j0 j1 j2 hl hb8
      have sd : LtB w8 w8.drew := (Below.refl _ _).drew
      have KX := hid (fun wx (h : LtB w8 wx) => (show (rlLd ⟨w.heap.size, 0, none⟩).run Tryd.prog wx = .ok (.agg #[.bool (wk 0), .bool (wk 1), .bool (wk 2), .bool (wk 3), .bool (wk 4), .bool (wk 5), .bool (wk 6), (.slice aw1 D.length cw1), (.slice aw2 E.length cw2)]) wx ∧ (wx.cell? ⟨w.heap.size, 7, none⟩ = some (.slice aw1 D.length cw1) ∧ wx.cell? ⟨w.heap.size, 8, none⟩ = some (.slice aw2 E.length cw2)) ∧ (wx.cell? ⟨w.heap.size + 1, 0, none⟩ = some (.int .i64 y) ∧ wx.cell? ⟨w.heap.size + 1, 1, none⟩ = some (.int .i64 m) ∧ wx.cell? ⟨w.heap.size + 1, 2, none⟩ = some (.int .i64 d)) ∧ wx.cell? ⟨w.heap.size + 1 + 1, 0, none⟩ = some (.int .i64 y') ∧ wx.cell? ⟨w.heap.size + 1 + 1, 1, none⟩ = some (.int .i64 m') ∧ wx.cell? ⟨w.heap.size + 1 + 1, 2, none⟩ = some (.int .i64 d') from ⟨run_rlLd (HL8.out.later h).1, ⟨(HL8.out.later h).1.facts.1.2.2.2.2.2.2.2.1, (HL8.out.later h).1.facts.1.2.2.2.2.2.2.2.2⟩, ⟨(HL8.out.later h).2.1.facts.1, (HL8.out.later h).2.1.facts.2.1, (HL8.out.later h).2.1.facts.2.2.1⟩, (HL8.out.later h).2.2.1.facts.1, (HL8.out.later h).2.2.1.facts.2.1, (HL8.out.later h).2.2.1.facts.2.2.1⟩))
      have RD := hid (fun wx (h : LtB w8 wx) => room_any (.slice aw1 D.length cw1) D a b c wx (H1.out.below (HL8.out.later h).2.2.2.1) hs1 (HL8.out.later h).2.2.2.2.2)
      have RE := hid (fun wx (h : LtB w8 wx) => room_any (.slice aw2 E.length cw2) E a b c wx (H2.out.below (HL8.out.later h).2.2.2.1) hs2 (HL8.out.later h).2.2.2.2.2)
      have AS3 := hid (fun q1 q2 wx (h : LtB w8 wx) r1 r2 => asked_any wk D E a b c q1 q2 (.slice aw1 D.length cw1) (.slice aw2 E.length cw2) y m d y' m' d' n wx r1 r2 hs1 hs2 (HL8.out.later h).2.2.2.2.1 (HL8.out.later h).2.2.2.2.2)
      unfold rlV dV at AS3
      unfold rlC at AS3
      go_wp2_with fail
      first | go_region_held (fun wx => (rlLd ⟨w.heap.size, 0, none⟩).run Tryd.prog wx = .ok (.agg #[.bool (wk 0), .bool (wk 1), .bool (wk 2), .bool (wk 3), .bool (wk 4), .bool (wk 5), .bool (wk 6), (.slice aw1 D.length cw1), (.slice aw2 E.length cw2)]) wx ∧ (wx.cell? ⟨w.heap.size, 7, none⟩ = some (.slice aw1 D.length cw1) ∧ wx.cell? ⟨w.heap.size, 8, none⟩ = some (.slice aw2 E.length cw2)) ∧ (wx.cell? ⟨w.heap.size + 1, 0, none⟩ = some (.int .i64 y) ∧ wx.cell? ⟨w.heap.size + 1, 1, none⟩ = some (.int .i64 m) ∧ wx.cell? ⟨w.heap.size + 1, 2, none⟩ = some (.int .i64 d)) ∧ wx.cell? ⟨w.heap.size + 1 + 1, 0, none⟩ = some (.int .i64 y') ∧ wx.cell? ⟨w.heap.size + 1 + 1, 1, none⟩ = some (.int .i64 m') ∧ wx.cell? ⟨w.heap.size + 1 + 1, 2, none⟩ = some (.int .i64 d')) (first | exact KX.out _ (by assumption) | go_keep) (first
        | (go_at_call 12; refine (AS3.out _ _ _ s4 q3.out q4.out).mono ?_; rintro e w21 ⟨rfl, hb5⟩; have s5 : LtB w8 w21 := LtB.call s4 hb5; clear hb5)
        | (go_at_call 11; first
            | (refine (RE.out _ s3).mono ?_; rintro e w20 ⟨⟨u4, rfl, o4⟩, hb4⟩; have s4 : LtB w8 w20 := LtB.call s3 hb4; have q3 := hid (p3.out.below hb4); have q4 := hid (OL.reads eD_len o4); clear hb4 o4)
            | (refine (RD.out _ sd).mono ?_; rintro e w19 ⟨⟨u3, rfl, o3⟩, hb3⟩; have s3 : LtB w8 w19 := LtB.call sd hb3; have p3 := hid (OL.reads eD_len o3); clear hb3 o3))) | fail
      have HE := hid ((HL8.out.later s5).2.2.2.1)
      clear s3 s4 s5 sd
      go_wp2
      go_ret
      exact ⟨rfl, HE.out⟩
  · obtain ⟨q1, hq1⟩ : ∃ q, n1 = q + 1 + 1 := ⟨D.length - 1, by have := Hn1.out; omega⟩
    subst hq1
    obtain ⟨i0, i1, i2, k0, k1, k2⟩ := RL.some3 R16.out 0 (by simp) (o := 0) (by omega)
    obtain ⟨z0, z1, z2⟩ := And.intro (HL6G1.out 0) (And.intro (HL6G1.out 1) (HL6G1.out 2))
    obtain ⟨j0, j1, j2, _⟩ := HL6.out.2.1.facts
    obtain ⟨w7, hw7⟩ : ∃ w7, ((w6.setCell ⟨g1, 0, none⟩ (.int .i64 y)).setCell ⟨g1, 1, none⟩ (.int .i64 m)).setCell ⟨g1, 2, none⟩ (.int .i64 d) = w7 := ⟨_, rfl⟩
    have HL7 := hid (show LK w wk (.slice aw1 D.length cw1) (.slice aw2 E.length cw2) a b c y m d y' m' d' w7 by rw [← hw7]; exact HL6.out.set3 (o := 0) HA0.out HM0.out hg1)
    have R27 := hid (show RL eD 3 w7 (.slice (some ⟨g2, 0, none⟩) n2 c2) (E ++ [(a, b, c)]) by rw [← hw7]; exact R26.out.other (o := 0) hne21)
    have R17 := hid (show RL eD 3 w7 (.slice (some ⟨g1, 0, none⟩) (q1 + 1 + 1) c1) (D.set 0 (y, m, d) ++ [(a, b, c)]) by
      rw [← hw7]
      have := R16.out.set3 0 (by simp) (y, m, d) (o := 0) (by omega)
      rw [List.set_append_left _ _ (by omega)] at this
      exact this)
    have HL7G2 := hid (show w7.heap[g2]? = some (.cells cur2 33 (0, 0)) by
      rw [← hw7, Below.heap_setCell _ _ _ _ (by show g2 ≠ g1; exact hne21), Below.heap_setCell _ _ _ _ (by show g2 ≠ g1; exact hne21), Below.heap_setCell _ _ _ _ (by show g2 ≠ g1; exact hne21)]
      exact HL6G2.out)
    have HD0 := hid hD0
    clear HL6 R16 R26 HL6G1 HL6G2 hD0
    by_cases hE0 : E.length = 0
    · have hne : n2 = 1 := by have := Hn2.out; omega
      subst hne
      clear hE0 Hn2
      have AS2 := hid (asked_any wk (D.set 0 (y, m, d)) E a b c _ _ (.slice aw1 D.length cw1) (.slice aw2 E.length cw2) y m d y' m' d' n w7 R17.out R27.out (by simpa using hs1) (by simpa using hs2) HL7.out.2.2.2.2.1 HL7.out.2.2.2.2.2)
      unfold rlV dV at AS2
      unfold rlC at AS2
      obtain ⟨d0, d1, d2, _⟩ := HL7.out.2.1.facts
      obtain ⟨j0, j1, j2, _⟩ := HL7.out.2.2.1.facts
      have hl := run_rlLd HL7.out.1
      unfold rlC at hl
      go_wp2_with fail
      refine AS2.out.mono ?_
      rintro e w8 ⟨rfl, hb8⟩
      have HL8 := hid (HL7.out.later hb8)
      clear AS2 d0 d1 d2 j0 j1 j2 hl hb8
      have sd : LtB w8 w8.drew := (Below.refl _ _).drew
      have KX := hid (fun wx (h : LtB w8 wx) => (show (rlLd ⟨w.heap.size, 0, none⟩).run Tryd.prog wx = .ok (.agg #[.bool (wk 0), .bool (wk 1), .bool (wk 2), .bool (wk 3), .bool (wk 4), .bool (wk 5), .bool (wk 6), (.slice aw1 D.length cw1), (.slice aw2 E.length cw2)]) wx ∧ (wx.cell? ⟨w.heap.size, 7, none⟩ = some (.slice aw1 D.length cw1) ∧ wx.cell? ⟨w.heap.size, 8, none⟩ = some (.slice aw2 E.length cw2)) ∧ (wx.cell? ⟨w.heap.size + 1, 0, none⟩ = some (.int .i64 y) ∧ wx.cell? ⟨w.heap.size + 1, 1, none⟩ = some (.int .i64 m) ∧ wx.cell? ⟨w.heap.size + 1, 2, none⟩ = some (.int .i64 d)) ∧ wx.cell? ⟨w.heap.size + 1 + 1, 0, none⟩ = some (.int .i64 y') ∧ wx.cell? ⟨w.heap.size + 1 + 1, 1, none⟩ = some (.int .i64 m') ∧ wx.cell? ⟨w.heap.size + 1 + 1, 2, none⟩ = some (.int .i64 d') from ⟨run_rlLd (HL8.out.later h).1, ⟨(HL8.out.later h).1.facts.1.2.2.2.2.2.2.2.1, (HL8.out.later h).1.facts.1.2.2.2.2.2.2.2.2⟩, ⟨(HL8.out.later h).2.1.facts.1, (HL8.out.later h).2.1.facts.2.1, (HL8.out.later h).2.1.facts.2.2.1⟩, (HL8.out.later h).2.2.1.facts.1, (HL8.out.later h).2.2.1.facts.2.1, (HL8.out.later h).2.2.1.facts.2.2.1⟩))
      have RD := hid (fun wx (h : LtB w8 wx) => room_any (.slice aw1 D.length cw1) D a b c wx (H1.out.below (HL8.out.later h).2.2.2.1) hs1 (HL8.out.later h).2.2.2.2.2)
      have RE := hid (fun wx (h : LtB w8 wx) => room_any (.slice aw2 E.length cw2) E a b c wx (H2.out.below (HL8.out.later h).2.2.2.1) hs2 (HL8.out.later h).2.2.2.2.2)
      have AS3 := hid (fun q1 q2 wx (h : LtB w8 wx) r1 r2 => asked_any wk D E a b c q1 q2 (.slice aw1 D.length cw1) (.slice aw2 E.length cw2) y m d y' m' d' n wx r1 r2 hs1 hs2 (HL8.out.later h).2.2.2.2.1 (HL8.out.later h).2.2.2.2.2)
      unfold rlV dV at AS3
      unfold rlC at AS3
      go_wp2_with fail
      first | go_region_held (fun wx => (rlLd ⟨w.heap.size, 0, none⟩).run Tryd.prog wx = .ok (.agg #[.bool (wk 0), .bool (wk 1), .bool (wk 2), .bool (wk 3), .bool (wk 4), .bool (wk 5), .bool (wk 6), (.slice aw1 D.length cw1), (.slice aw2 E.length cw2)]) wx ∧ (wx.cell? ⟨w.heap.size, 7, none⟩ = some (.slice aw1 D.length cw1) ∧ wx.cell? ⟨w.heap.size, 8, none⟩ = some (.slice aw2 E.length cw2)) ∧ (wx.cell? ⟨w.heap.size + 1, 0, none⟩ = some (.int .i64 y) ∧ wx.cell? ⟨w.heap.size + 1, 1, none⟩ = some (.int .i64 m) ∧ wx.cell? ⟨w.heap.size + 1, 2, none⟩ = some (.int .i64 d)) ∧ wx.cell? ⟨w.heap.size + 1 + 1, 0, none⟩ = some (.int .i64 y') ∧ wx.cell? ⟨w.heap.size + 1 + 1, 1, none⟩ = some (.int .i64 m') ∧ wx.cell? ⟨w.heap.size + 1 + 1, 2, none⟩ = some (.int .i64 d')) (first | exact KX.out _ (by assumption) | go_keep) (first
        | (go_at_call 12; refine (AS3.out _ _ _ s4 q3.out q4.out).mono ?_; rintro e w21 ⟨rfl, hb5⟩; have s5 : LtB w8 w21 := LtB.call s4 hb5; clear hb5)
        | (go_at_call 11; first
            | (refine (RE.out _ s3).mono ?_; rintro e w20 ⟨⟨u4, rfl, o4⟩, hb4⟩; have s4 : LtB w8 w20 := LtB.call s3 hb4; have q3 := hid (p3.out.below hb4); have q4 := hid (OL.reads eD_len o4); clear hb4 o4)
            | (refine (RD.out _ sd).mono ?_; rintro e w19 ⟨⟨u3, rfl, o3⟩, hb3⟩; have s3 : LtB w8 w19 := LtB.call sd hb3; have p3 := hid (OL.reads eD_len o3); clear hb3 o3))) | fail
      have HE := hid ((HL8.out.later s5).2.2.2.1)
      clear s3 s4 s5 sd
      go_wp2
      go_ret
      exact ⟨rfl, HE.out⟩
    · obtain ⟨q, hq⟩ : ∃ q, E.length = q + 1 := ⟨E.length - 1, by omega⟩
      have hne : n2 = q + 1 + 1 := by have := Hn2.out; omega
      subst hne
      have hqb : q ≤ 6000000000000 := by omega
      have hwq : wrap64 ((q : Int) + 1 + 1 - 2) = (q : Int) := by rw [show (q : Int) + 1 + 1 - 2 = (q : Int) by omega]; unfold wrap64; omega
      obtain ⟨i0, i1, i2, k0, k1, k2⟩ := RL.some3 R27.out q (by simp; omega) (o := q * 3) (by omega)
      have fz := fun k => Lib.frozen_of_heap HL7G2.out k
      obtain ⟨z0, z1, z2⟩ := And.intro (fz (q * 3)) (And.intro (fz (q * 3 + 1)) (fz (q * 3 + 2)))
      obtain ⟨j0, j1, j2, _⟩ := HL7.out.2.2.1.facts
      obtain ⟨wS, hwS⟩ : ∃ wS, ((w7.setCell ⟨g2, q * 3, none⟩ (.int .i64 y')).setCell ⟨g2, q * 3 + 1, none⟩ (.int .i64 m')).setCell ⟨g2, q * 3 + 2, none⟩ (.int .i64 d') = wS := ⟨_, rfl⟩
      have HLS := hid (show LK w wk (.slice aw1 D.length cw1) (.slice aw2 E.length cw2) a b c y m d y' m' d' wS by rw [← hwS]; exact HL7.out.set3 HA0.out HM0.out hg2)
      have R1S := hid (show RL eD 3 wS (.slice (some ⟨g1, 0, none⟩) _ c1) ((D.set 0 (y, m, d)) ++ [(a, b, c)]) by rw [← hwS]; exact R17.out.other hne12)
      have R2S := hid (show RL eD 3 wS (.slice (some ⟨g2, 0, none⟩) (q + 1 + 1) c2) (E.set q (y', m', d') ++ [(a, b, c)]) by
        rw [← hwS]
        have := R27.out.set3 q (by simp; omega) (y', m', d') (o := q * 3) (by omega)
        rw [List.set_append_left _ _ (by omega)] at this
        exact this)
      have Hq := hid hq
      clear fz hq hE0
      skip
      have AS2 := hid (asked_any wk (D.set 0 (y, m, d)) (E.set q (y', m', d')) a b c _ _ (.slice aw1 D.length cw1) (.slice aw2 E.length cw2) y m d y' m' d' n wS R1S.out R2S.out (by simpa using hs1) (by simpa using hs2) HLS.out.2.2.2.2.1 HLS.out.2.2.2.2.2)
      unfold rlV dV at AS2
      unfold rlC at AS2
      obtain ⟨d0, d1, d2, _⟩ := HLS.out.2.1.facts
      obtain ⟨j0, j1, j2, _⟩ := HLS.out.2.2.1.facts
      have hl := run_rlLd HLS.out.1
      unfold rlC at hl
      go_wp2_with fail
      refine AS2.out.mono ?_
      rintro e w8 ⟨rfl, hb8⟩
      have HL8 := hid (HLS.out.later hb8)
      clear AS2 d0 d1 d2 j0 j1 j2 hl hb8
      have sd : LtB w8 w8.drew := (Below.refl _ _).drew
      have KX := hid (fun wx (h : LtB w8 wx) => (show (rlLd ⟨w.heap.size, 0, none⟩).run Tryd.prog wx = .ok (.agg #[.bool (wk 0), .bool (wk 1), .bool (wk 2), .bool (wk 3), .bool (wk 4), .bool (wk 5), .bool (wk 6), (.slice aw1 D.length cw1), (.slice aw2 E.length cw2)]) wx ∧ (wx.cell? ⟨w.heap.size, 7, none⟩ = some (.slice aw1 D.length cw1) ∧ wx.cell? ⟨w.heap.size, 8, none⟩ = some (.slice aw2 E.length cw2)) ∧ (wx.cell? ⟨w.heap.size + 1, 0, none⟩ = some (.int .i64 y) ∧ wx.cell? ⟨w.heap.size + 1, 1, none⟩ = some (.int .i64 m) ∧ wx.cell? ⟨w.heap.size + 1, 2, none⟩ = some (.int .i64 d)) ∧ wx.cell? ⟨w.heap.size + 1 + 1, 0, none⟩ = some (.int .i64 y') ∧ wx.cell? ⟨w.heap.size + 1 + 1, 1, none⟩ = some (.int .i64 m') ∧ wx.cell? ⟨w.heap.size + 1 + 1, 2, none⟩ = some (.int .i64 d') from ⟨run_rlLd (HL8.out.later h).1, ⟨(HL8.out.later h).1.facts.1.2.2.2.2.2.2.2.1, (HL8.out.later h).1.facts.1.2.2.2.2.2.2.2.2⟩, ⟨(HL8.out.later h).2.1.facts.1, (HL8.out.later h).2.1.facts.2.1, (HL8.out.later h).2.1.facts.2.2.1⟩, (HL8.out.later h).2.2.1.facts.1, (HL8.out.later h).2.2.1.facts.2.1, (HL8.out.later h).2.2.1.facts.2.2.1⟩))
      have RD := hid (fun wx (h : LtB w8 wx) => room_any (.slice aw1 D.length cw1) D a b c wx (H1.out.below (HL8.out.later h).2.2.2.1) hs1 (HL8.out.later h).2.2.2.2.2)
      have RE := hid (fun wx (h : LtB w8 wx) => room_any (.slice aw2 E.length cw2) E a b c wx (H2.out.below (HL8.out.later h).2.2.2.1) hs2 (HL8.out.later h).2.2.2.2.2)
      have AS3 := hid (fun q1 q2 wx (h : LtB w8 wx) r1 r2 => asked_any wk D E a b c q1 q2 (.slice aw1 D.length cw1) (.slice aw2 E.length cw2) y m d y' m' d' n wx r1 r2 hs1 hs2 (HL8.out.later h).2.2.2.2.1 (HL8.out.later h).2.2.2.2.2)
      unfold rlV dV at AS3
      unfold rlC at AS3
      go_wp2_with fail
      first | go_region_held (fun wx => (rlLd ⟨w.heap.size, 0, none⟩).run Tryd.prog wx = .ok (.agg #[.bool (wk 0), .bool (wk 1), .bool (wk 2), .bool (wk 3), .bool (wk 4), .bool (wk 5), .bool (wk 6), (.slice aw1 D.length cw1), (.slice aw2 E.length cw2)]) wx ∧ (wx.cell? ⟨w.heap.size, 7, none⟩ = some (.slice aw1 D.length cw1) ∧ wx.cell? ⟨w.heap.size, 8, none⟩ = some (.slice aw2 E.length cw2)) ∧ (wx.cell? ⟨w.heap.size + 1, 0, none⟩ = some (.int .i64 y) ∧ wx.cell? ⟨w.heap.size + 1, 1, none⟩ = some (.int .i64 m) ∧ wx.cell? ⟨w.heap.size + 1, 2, none⟩ = some (.int .i64 d)) ∧ wx.cell? ⟨w.heap.size + 1 + 1, 0, none⟩ = some (.int .i64 y') ∧ wx.cell? ⟨w.heap.size + 1 + 1, 1, none⟩ = some (.int .i64 m') ∧ wx.cell? ⟨w.heap.size + 1 + 1, 2, none⟩ = some (.int .i64 d')) (first | exact KX.out _ (by assumption) | go_keep) (first
        | (go_at_call 12; refine (AS3.out _ _ _ s4 q3.out q4.out).mono ?_; rintro e w21 ⟨rfl, hb5⟩; have s5 : LtB w8 w21 := LtB.call s4 hb5; clear hb5)
        | (go_at_call 11; first
            | (refine (RE.out _ s3).mono ?_; rintro e w20 ⟨⟨u4, rfl, o4⟩, hb4⟩; have s4 : LtB w8 w20 := LtB.call s3 hb4; have q3 := hid (p3.out.below hb4); have q4 := hid (OL.reads eD_len o4); clear hb4 o4)
            | (refine (RD.out _ sd).mono ?_; rintro e w19 ⟨⟨u3, rfl, o3⟩, hb3⟩; have s3 : LtB w8 w19 := LtB.call sd hb3; have p3 := hid (OL.reads eD_len o3); clear hb3 o3))) | fail
      have HE := hid ((HL8.out.later s5).2.2.2.1)
      clear s3 s4 s5 sd
      go_wp2
      go_ret
      exact ⟨rfl, HE.out⟩
end Go.Proofs.YtipgmiblphfboaaDoor
