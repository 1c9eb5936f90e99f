/-
  Cx1: Sheets: rows of cells as they are read; sameCells.
-/
import Derived.Test.YtmgfdnccmeahjaaGreatDoorZTc5
import Derived.Deep.QuietTactic
import Derived.BigQuiet
namespace Go.Proofs.YtmgfdnccmeahjaaGreatDoor
open Go.RowKit
set_option maxRecDepth 100000
set_option linter.unusedVariables false
set_option linter.unusedSimpArgs false

/-- a cell -/
structure Cl where
  kd : Int
  tx : ByteArray
  nu : Int
/-- a typed cell -/
def clO (x : Nat × Rd) : Cl := ⟨(x.1 : Int), ⟨x.2.2.2.1.toArray⟩, x.2.2.1⟩
/-- a slice reads as these cells -/
def CX (w : World) (v : Value) (X : List Cl) : Prop :=
  ∃ ao cap, v = .slice ao X.length cap ∧ X.length ≤ cap ∧ cap ≤ 9223372036854775807 ∧ ∀ j (hj : j < X.length), ∃ b off, ao = some ⟨b, off, none⟩ ∧ w.cell? ⟨b, off + j * 3, none⟩ = some (.int .i64 X[j].kd) ∧ w.cell? ⟨b, off + j * 3 + 1, none⟩ = some (.string X[j].tx) ∧ w.cell? ⟨b, off + j * 3 + 2, none⟩ = some (.int .i64 X[j].nu)
theorem CX.below {w w' : World} {v : Value} {X : List Cl} (h : CX w v X) (hb : Below w.heap.size w w') : CX w' v X := by
  obtain ⟨ao, cap, h1, h2, h3, h4⟩ := h
  exact ⟨ao, cap, h1, h2, h3, fun j hj => by
    obtain ⟨b, off, h5, h6, h7, h8⟩ := h4 j hj
    exact ⟨b, off, h5, cellB hb h6, cellB hb h7, cellB hb h8⟩⟩
theorem CX.form {w : World} {v : Value} {X : List Cl} (h : CX w v X) : ∃ ao cap, v = .slice ao X.length cap := by
  obtain ⟨ao, cap, h1, _⟩ := h
  exact ⟨ao, cap, h1⟩
theorem CX.len {w : World} {v : Value} {X : List Cl} (h : CX w v X) : X.length ≤ 9223372036854775807 := by
  obtain ⟨ao, cap, _, h2, h3, _⟩ := h
  omega
theorem CX.at {w : World} {v : Value} {X : List Cl} (h : CX w v X) (j : Nat) (hj : j < X.length) : ∃ b off cap, v = .slice (some ⟨b, off, none⟩) X.length cap ∧ w.cell? ⟨b, off + j * 3, none⟩ = some (.int .i64 X[j].kd) ∧ w.cell? ⟨b, off + j * 3 + 1, none⟩ = some (.string X[j].tx) ∧ w.cell? ⟨b, off + j * 3 + 2, none⟩ = some (.int .i64 X[j].nu) := by
  obtain ⟨ao, cap, h1, h2, h3, h4⟩ := h
  obtain ⟨b, off, rfl, h6⟩ := h4 j hj
  exact ⟨b, off, cap, h1, h6⟩
/-- a slice reads as these rows of cells -/
def RKc (w : World) (v : Value) (X : List (List Cl)) : Prop :=
  ∃ ao cap, v = .slice ao X.length cap ∧ X.length ≤ cap ∧ cap ≤ 9223372036854775807 ∧ ∀ i (hi : i < X.length), ∃ g off u, ao = some ⟨g, off, none⟩ ∧ w.cell? ⟨g, off + i, none⟩ = some u ∧ CX w u X[i]
theorem RKc.below {w w' : World} {v : Value} {X : List (List Cl)} (h : RKc w v X) (hb : Below w.heap.size w w') : RKc w' v X := by
  obtain ⟨ao, cap, h1, h2, h3, h4⟩ := h
  exact ⟨ao, cap, h1, h2, h3, fun i hi => by
    obtain ⟨g, off, u, h5, h6, h7⟩ := h4 i hi
    exact ⟨g, off, u, h5, cellB hb h6, h7.below hb⟩⟩
theorem RKc.form {w : World} {v : Value} {X : List (List Cl)} (h : RKc w v X) : ∃ ao cap, v = .slice ao X.length cap := by
  obtain ⟨ao, cap, h1, _⟩ := h
  exact ⟨ao, cap, h1⟩
theorem RKc.len {w : World} {v : Value} {X : List (List Cl)} (h : RKc w v X) : X.length ≤ 9223372036854775807 := by
  obtain ⟨ao, cap, _, h2, h3, _⟩ := h
  omega
theorem RKc.at {w : World} {v : Value} {X : List (List Cl)} (h : RKc w v X) (i : Nat) (hi : i < X.length) : ∃ g off cap u, v = .slice (some ⟨g, off, none⟩) X.length cap ∧ w.cell? ⟨g, off + i, none⟩ = some u ∧ CX w u X[i] := by
  obtain ⟨ao, cap, h1, h2, h3, h4⟩ := h
  obtain ⟨g, off, u, rfl, h6⟩ := h4 i hi
  exact ⟨g, off, cap, u, h1, h6⟩
theorem RKc.nil (w : World) : RKc w (.slice none 0 0) [] := ⟨none, 0, rfl, Nat.le_refl _, by omega, fun i hi => absurd hi (Nat.not_lt_zero _)⟩
theorem ccl_at {X : List (Nat × Rd)} {j : Nat} (hj : j < X.length) : (ccl X)[j * 3]? = some (.int .i64 (clO X[j]).kd) ∧ (ccl X)[j * 3 + 1]? = some (.string (clO X[j]).tx) ∧ (ccl X)[j * 3 + 2]? = some (.int .i64 (clO X[j]).nu) := by
  induction X generalizing j with
  | nil => simp at hj
  | cons x r ih =>
    have e : ccl (x :: r) = clV x ++ ccl r := by unfold ccl; rw [List.flatMap_cons]
    have hl : (clV x).length = 3 := rfl
    cases j with
    | zero =>
      rw [e]
      exact ⟨rfl, rfl, rfl⟩
    | succ j =>
      have := ih (j := j) (by simpa using hj)
      rw [e]
      have s0 : (j + 1) * 3 = 3 + j * 3 := by omega
      rw [s0]
      refine ⟨?_, ?_, ?_⟩
      · rw [List.getElem?_append_right (by rw [hl]; omega), hl, show 3 + j * 3 - 3 = j * 3 by omega]; exact this.1
      · rw [List.getElem?_append_right (by rw [hl]; omega), hl, show 3 + j * 3 + 1 - 3 = j * 3 + 1 by omega]; exact this.2.1
      · rw [List.getElem?_append_right (by rw [hl]; omega), hl, show 3 + j * 3 + 2 - 3 = j * 3 + 2 by omega]; exact this.2.2
theorem OC.reads {w : World} {B : Nat} {v : Value} {X : List (Nat × Rd)} (h : OC w B v X) : CX w v (X.map clO) := by
  have hc := fun g hg => World.ownsRow.cells h (g := g) hg
  rcases h.2 with ⟨rfl, h0⟩ | ⟨g, cap, cur, rfl, _, _, hcap, hm, _⟩
  · exact ⟨none, 0, by rw [List.length_map, h0], by rw [List.length_map]; omega, by omega, fun j hj => by rw [List.length_map] at hj; omega⟩
  · refine ⟨_, cap, by rw [List.length_map], by rw [List.length_map]; exact hcap, hm, fun j hj => ⟨g, 0, rfl, ?_⟩⟩
    rw [List.length_map] at hj
    have h3 := ccl_at hj
    rw [List.getElem_map, Nat.zero_add]
    have k0 := hc g rfl _ _ h3.1
    have k1 := hc g rfl _ _ h3.2.1
    have k2 := hc g rfl _ _ h3.2.2
    rw [Addr.add_lit, Nat.zero_add] at k0 k1 k2
    exact ⟨k0, k1, k2⟩
theorem LK.reads {w : World} {B : Nat} {v : Value} {V : List Value} {X : List (List (Nat × Rd))} (h : LK w B v V X) : RKc w v (X.map (List.map clO)) := by
  have hl := h.len
  have hc := fun g hg => World.ownsRow.cells h.own (g := g) hg
  rcases h.own.2 with ⟨rfl, h0⟩ | ⟨g, cap, cur, rfl, _, _, hcap, hm, _⟩
  · exact ⟨none, 0, by rw [List.length_map, ← hl, h0], by rw [List.length_map]; omega, by omega, fun j hj => by rw [List.length_map] at hj; omega⟩
  · refine ⟨_, cap, by rw [List.length_map, ← hl], by rw [List.length_map]; omega, hm, fun j hj => ?_⟩
    rw [List.length_map] at hj
    have k0 := hc g rfl j (V[j]'(by omega)) (by simp [show j < V.length by omega])
    rw [Addr.add_lit] at k0
    refine ⟨g, 0, _, rfl, k0, ?_⟩
    rw [List.getElem_map]
    exact (h.row j hj (by omega)).reads
/-- what a row's slice is at one world it is at all -/
theorem cellC {w w1 w2 : World} {g off n cap k : Nat} {X : List (List Cl)} {u : Value} (h : RKc w (.slice (some ⟨g, off, none⟩) n cap) X) (h1 : Below w.heap.size w w1) (h2 : Below w.heap.size w w2) (hk : k < X.length) (hc : w1.cell? ⟨g, off + k, none⟩ = some u) : w2.cell? ⟨g, off + k, none⟩ = some u := by
  obtain ⟨g', off', cap', u', e, c, _⟩ := h.at k hk
  cases e
  rw [cellB h1 c] at hc
  rw [cellB h2 c, hc]
theorem rowC {w w1 w2 : World} {g off n cap k : Nat} {X : List (List Cl)} {u : Value} (h : RKc w (.slice (some ⟨g, off, none⟩) n cap) X) (h1 : Below w.heap.size w w1) (h2 : Below w.heap.size w w2) (hk : k < X.length) (hc : w1.cell? ⟨g, off + k, none⟩ = some u) : CX w2 u X[k] := by
  obtain ⟨g', off', cap', u', e, c, t⟩ := h.at k hk
  cases e
  rw [cellB h1 c] at hc
  rw [← Option.some.inj hc]
  exact t.below h2
set_option maxHeartbeats 8000000 in
theorem sameCells_is (a b : Value) (X : List (List Cl)) (w : World) (ha : RKc w a X) (hb : RKc w b X) :
    Calls Tryz.prog 14 #[a, b] w fun e w' => e = .returned (.bool true) ∧ Below w.heap.size w w' := by
  have HA := hid ha
  have HB := hid hb
  have HL := hid ha.len
  obtain ⟨ao, ca, rfl⟩ := ha.form
  obtain ⟨bo, cb, rfl⟩ := hb.form
  clear ha hb
  go_enter Tryz.func14, Tryz.ntmps14
  go_wp2_with fail
  go_loopw [5] (fun i wr => ∃ k : Nat, k ≤ X.length ∧ i = .int .i64 (k : Int) ∧ Below w.heap.size w wr) (fun i _ => X.length - (intOf i).toNat)
  case atStart => exact ⟨0, by omega, rfl, Below.refl _ _⟩
  case round =>
    obtain ⟨k, hk, rfl, hbl⟩ := hrel
    have hl := HL.out
    by_cases hlt : k < X.length
    · have hI : (k : Int) < (X.length : Int) := by omega
      obtain ⟨g, off, c, u, e1, c0, t1⟩ := (HA.out.below hbl).at k hlt
      obtain ⟨g', off', c', u', e1', d0, t2⟩ := (HB.out.below hbl).at k hlt
      cases e1
      cases e1'
      have c0' : wr.drew.cell? ⟨g, off + k, none⟩ = some u := c0
      have d0' : wr.drew.cell? ⟨g', off' + k, none⟩ = some u' := d0
      have T1 := hid t1
      have T2 := hid t2
      have HLk := hid t1.len
      have hY : ∃ Y, Y = X[k]'hlt := ⟨_, rfl⟩
      obtain ⟨Y, hY⟩ := hY
      rw [← hY] at t1 t2 HLk
      obtain ⟨ua, uc, rfl⟩ := t1.form
      obtain ⟨ua', uc', rfl⟩ := t2.form
      have HBL := hid hbl
      have HYe := hid hY
      have HU := hid (fun (wx : World) (hb : Below w.heap.size w wx) => (show wx.cell? ⟨g, off + k, none⟩ = some (.slice ua Y.length uc) ∧ wx.cell? ⟨g', off' + k, none⟩ = some (.slice ua' Y.length uc') from ⟨cellC (HA.out) HBL.out hb hlt c0, cellC (HB.out) HBL.out hb hlt d0⟩))
      have HT1 := hid (fun (wx : World) (hb : Below w.heap.size w wx) => (show CX wx (.slice ua Y.length uc) Y from by have q := rowC HA.out HBL.out hb hlt c0; rw [← hY] at q; exact q))
      have HT2 := hid (fun (wx : World) (hb : Below w.heap.size w wx) => (show CX wx (.slice ua' Y.length uc') Y from by have q := rowC HB.out HBL.out hb hlt d0; rw [← hY] at q; exact q))
      clear hbl t1 t2 hY
      go_wp2_with fail
      go_quiet (fail)
      have BQ := hid (below_drewN HBL.out nq)
      have hYl := HLk.out
      generalize wr.drewN nq = wq at *
      clear c0 d0 c0' d0'
      go_wp2_with fail
      go_loopw [6] (fun j wr2 => ∃ m : Nat, m ≤ Y.length ∧ j = .int .i64 (m : Int) ∧ Below w.heap.size w wr2) (fun j _ => Y.length - (intOf j).toNat)
      case atStart => exact ⟨0, by omega, rfl, BQ.out⟩
      case round =>
        obtain ⟨m, hm, rfl, hbl2⟩ := hrel
        have HB2 := hid hbl2
        have hu := (HU.out wr hbl2).1
        have hu2 := (HU.out wr hbl2).2
        have c00 : wr.drew.cell? ⟨g, off + k, none⟩ = some (.slice ua Y.length uc) := hu
        have d00 : wr.drew.cell? ⟨g', off' + k, none⟩ = some (.slice ua' Y.length uc') := hu2
        clear hbl2
        by_cases hmY : m < Y.length
        · have hmI : (m : Int) < (Y.length : Int) := by omega
          obtain ⟨b1, o1, q1, v1, x0, x1, x2⟩ := (HT1.out wr HB2.out).at m hmY
          obtain ⟨b2, o2, q2, v2, y0, y1, y2⟩ := (HT2.out wr HB2.out).at m hmY
          cases v1
          cases v2
          generalize Y[m] = C at *
          obtain ⟨kd, tx, nu⟩ := C
          simp only [] at x0 x1 x2 y0 y1 y2
          go_wp2_with fail
          go_quiet (fail)
          have BQ2 := hid (below_drewN HB2.out nq)
          generalize wr.drewN nq = wz at *
          clear x0 x1 x2 y0 y1 y2 hu hu2 c00 d00
          go_wp2_with fail
          go_roundw
          case rel => exact ⟨m + 1, by omega, by go_num, BQ2.out⟩
          case measure => simp [intOf]; omega
        · have hmI : ¬ (m : Int) < (Y.length : Int) := by omega
          go_wp2_with fail
          go_roundw
          case rel => exact ⟨k + 1, by omega, by go_num, HB2.out⟩
          case measure => simp [intOf]; omega
    · obtain rfl : k = X.length := by omega
      go_wp2
      go_ret
      exact ⟨rfl, hbl⟩
end Go.Proofs.YtmgfdnccmeahjaaGreatDoor
