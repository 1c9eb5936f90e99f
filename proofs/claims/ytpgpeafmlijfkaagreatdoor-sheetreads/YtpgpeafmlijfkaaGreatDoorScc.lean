/-
  Sheets: rows that a slice reads as; sameRows; what Print checks ahead.
-/
import Derived.Test.YtpgpeafmlijfkaaGreatDoorSqb
import Derived.Test.YtpgpeafmlijfkaaGreatDoorSas
import Derived.Test.YtpgpeafmlijfkaaGreatDoorSpt
import Derived.Deep.LoopGhost
import Derived.Laws.Strings2
namespace Go.Proofs.YtpgpeafmlijfkaaGreatDoor
open Go.RowKit
set_option maxRecDepth 100000
set_option linter.unusedVariables false
set_option linter.unusedSimpArgs false

/-- a slice reads as these texts -/
def Tx (w : World) (v : Value) (T : List (List UInt8)) : Prop :=
  ∃ ao cap, v = .slice ao T.length cap ∧ T.length ≤ cap ∧ cap ≤ 9223372036854775807 ∧ ∀ j (hj : j < T.length), ∃ g off, ao = some ⟨g, off, none⟩ ∧ w.cell? ⟨g, off + j, none⟩ = some (.string ⟨T[j].toArray⟩)
/-- a slice reads as these rows -/
def Rw (w : World) (v : Value) (R : List (List (List UInt8))) : Prop :=
  ∃ ao cap, v = .slice ao R.length cap ∧ R.length ≤ cap ∧ cap ≤ 9223372036854775807 ∧ ∀ i (hi : i < R.length), ∃ g off u, ao = some ⟨g, off, none⟩ ∧ w.cell? ⟨g, off + i, none⟩ = some u ∧ Tx w u R[i]
theorem cellB {w w' : World} (hb : Below w.heap.size w w') {p : Addr} {u : Value} (h : w.cell? p = some u) : w'.cell? p = some u := (hb.cell (p := p) (World.block_lt_of_cell? _ _ h)).trans h
theorem Tx.below {w w' : World} {v : Value} {T : List (List UInt8)} (h : Tx w v T) (hb : Below w.heap.size w w') : Tx w' v T := by
  obtain ⟨ao, cap, h1, h2, h3, h4⟩ := h
  refine ⟨ao, cap, h1, h2, h3, fun j hj => ?_⟩
  obtain ⟨g, off, h5, h6⟩ := h4 j hj
  exact ⟨g, off, h5, cellB hb h6⟩
theorem Rw.below {w w' : World} {v : Value} {R : List (List (List UInt8))} (h : Rw w v R) (hb : Below w.heap.size w w') : Rw w' v R := by
  obtain ⟨ao, cap, h1, h2, h3, h4⟩ := h
  refine ⟨ao, cap, h1, h2, h3, fun j hj => ?_⟩
  obtain ⟨g, off, u, h5, h6, h7⟩ := h4 j hj
  exact ⟨g, off, u, h5, cellB hb h6, h7.below hb⟩
theorem own_tx {w : World} {v : Value} {T : List (List UInt8)} (h : w.ownsRow 0 9 1 v T.length (tl T)) : Tx w v T := by
  have hc := fun g hg => World.ownsRow.cells h (g := g) hg
  rcases h.2 with ⟨rfl, h0⟩ | ⟨g, cap, cur, rfl, _, _, hcap, hm, _⟩
  · exact ⟨none, 0, by rw [h0], by omega, by omega, fun j hj => by omega⟩
  · refine ⟨_, cap, rfl, hcap, hm, fun j hj => ⟨g, 0, rfl, ?_⟩⟩
    have := hc g rfl j (.string ⟨T[j].toArray⟩) (by simp [tl, hj])
    rw [Addr.add_lit] at this
    exact this
theorem TR.rw {w : World} {v : Value} {V : List Value} {R : List (List (List UInt8))} (h : TR w v V R) : Rw w v R := by
  have hl := h.rws.len
  have hc := fun g hg => World.ownsRow.cells h.own (g := g) hg
  rcases h.own.2 with ⟨rfl, h0⟩ | ⟨g, cap, cur, rfl, _, _, hcap, hm, _⟩
  · exact ⟨none, 0, by rw [← hl, h0], by omega, by omega, fun j hj => by omega⟩
  · refine ⟨_, cap, by rw [hl], by omega, hm, fun j hj => ?_⟩
    have hv : j < V.length := by omega
    have := hc g rfl j V[j] (by simp [hv])
    rw [Addr.add_lit] at this
    exact ⟨g, 0, V[j], rfl, this, own_tx (h.rws.row j hj hv)⟩

theorem Tx.at {w : World} {v : Value} {T : List (List UInt8)} (h : Tx w v T) (j : Nat) (hj : j < T.length) : ∃ g off cap, v = .slice (some ⟨g, off, none⟩) T.length cap ∧ T.length ≤ cap ∧ w.cell? ⟨g, off + j, none⟩ = some (.string ⟨T[j].toArray⟩) := by
  obtain ⟨ao, cap, rfl, h2, h3, h4⟩ := h
  obtain ⟨g, off, rfl, h6⟩ := h4 j hj
  exact ⟨g, off, cap, rfl, h2, h6⟩
theorem Tx.form {w : World} {v : Value} {T : List (List UInt8)} (h : Tx w v T) : ∃ ao cap, v = .slice ao T.length cap := by
  obtain ⟨ao, cap, h1, _⟩ := h
  exact ⟨ao, cap, h1⟩
theorem Tx.len {w : World} {v : Value} {T : List (List UInt8)} (h : Tx w v T) : T.length ≤ 9223372036854775807 := by
  obtain ⟨ao, cap, h1, h2, h3, _⟩ := h
  omega
theorem Rw.at {w : World} {v : Value} {R : List (List (List UInt8))} (h : Rw w v R) (j : Nat) (hj : j < R.length) : ∃ g off cap u, v = .slice (some ⟨g, off, none⟩) R.length cap ∧ R.length ≤ cap ∧ w.cell? ⟨g, off + j, none⟩ = some u ∧ Tx w u R[j] := by
  obtain ⟨ao, cap, rfl, h2, h3, h4⟩ := h
  obtain ⟨g, off, u, rfl, h6, h7⟩ := h4 j hj
  exact ⟨g, off, cap, u, rfl, h2, h6, h7⟩
theorem Rw.form {w : World} {v : Value} {R : List (List (List UInt8))} (h : Rw w v R) : ∃ ao cap, v = .slice ao R.length cap := by
  obtain ⟨ao, cap, h1, _⟩ := h
  exact ⟨ao, cap, h1⟩
theorem Rw.len {w : World} {v : Value} {R : List (List (List UInt8))} (h : Rw w v R) : R.length ≤ 9223372036854775807 := by
  obtain ⟨ao, cap, h1, h2, h3, _⟩ := h
  omega
set_option maxHeartbeats 1000000 in
theorem sameTexts_is (a b : Value) (T : List (List UInt8)) (w : World) (ha : Tx w a T) (hb : Tx w b T) :
    Calls Tryz.prog 32 #[a, b] w fun e w' => e = .returned (.bool true) ∧ Below w.heap.size w w' := by
  have HA := hid ha
  have HB := hid hb
  have HL := hid ha.len
  obtain ⟨ao, ca, rfl⟩ := ha.form
  obtain ⟨bo, cb, rfl⟩ := hb.form
  clear ha hb
  go_enter Tryz.func32, Tryz.ntmps32
  go_wp2_with fail
  go_loopw [5] (fun i wr => ∃ k : Nat, k ≤ T.length ∧ i = .int .i64 (k : Int) ∧ Below w.heap.size w wr) (fun i _ => T.length - (intOf i).toNat)
  case atStart => exact ⟨0, by omega, rfl, Below.refl _ _⟩
  case round =>
    obtain ⟨k, hk, rfl, hbl⟩ := hrel
    have hl := HL.out
    by_cases hlt : k < T.length
    · have hI : (k : Int) < (T.length : Int) := by omega
      obtain ⟨g, off, c, e1, hc, c0⟩ := (HA.out.below hbl).at k hlt
      obtain ⟨g', off', c', e1', hc', d0⟩ := (HB.out.below hbl).at k hlt
      cases e1
      cases e1'
      have HBL := hid hbl
      clear hbl
      generalize (⟨(T[k]'hlt).toArray⟩ : ByteArray) = x at *
      have r1 : (x.toList == x.toList) = true := by simp
      go_wp2_with fail
      go_quiet (fail)
      have BQ := hid (below_drewN HBL.out nq)
      go_wp2_with fail
      go_roundw
      case rel => exact ⟨k + 1, by omega, by go_num, BQ.out⟩
      case measure => simp [intOf]; omega
    · obtain rfl : k = T.length := by omega
      go_wp2
      go_ret
      exact ⟨rfl, hbl⟩
theorem Tx.drew {w : World} {v : Value} {T : List (List UInt8)} (h : Tx w v T) : Tx w.drew v T := h
set_option maxHeartbeats 2000000 in
theorem sameRows_is (a b : Value) (R : List (List (List UInt8))) (w : World) (ha : Rw w a R) (hb : Rw w b R) :
    Calls Tryz.prog 10 #[a, b] w fun e w' => e = .returned (.bool true) ∧ Below w.heap.size w w' := by
  have HA := hid ha
  have HB := hid hb
  have HL := hid ha.len
  obtain ⟨ao, ca, rfl⟩ := ha.form
  obtain ⟨bo, cb, rfl⟩ := hb.form
  clear ha hb
  go_enter Tryz.func10, Tryz.ntmps10
  go_wp2_with fail
  go_loopw [5] (fun i wr => ∃ k : Nat, k ≤ R.length ∧ i = .int .i64 (k : Int) ∧ Below w.heap.size w wr) (fun i _ => R.length - (intOf i).toNat)
  case atStart => exact ⟨0, by omega, rfl, Below.refl _ _⟩
  case round =>
    obtain ⟨k, hk, rfl, hbl⟩ := hrel
    have hl := HL.out
    by_cases hlt : k < R.length
    · have hI : (k : Int) < (R.length : Int) := by omega
      obtain ⟨g, off, c, u, e1, hc, c0, t1⟩ := (HA.out.below hbl).at k hlt
      obtain ⟨g', off', c', u', e1', hc', d0, t2⟩ := (HB.out.below hbl).at k hlt
      cases e1
      cases e1'
      have c0' : wr.drew.cell? ⟨g, off + k, none⟩ = some u := c0
      have d0' : wr.drew.cell? ⟨g', off' + k, none⟩ = some u' := d0
      obtain ⟨ua, uc, rfl⟩ := t1.form
      obtain ⟨ua', uc', rfl⟩ := t2.form
      have HS := hid (sameTexts_is _ _ _ wr.drew t1.drew t2.drew)
      have HBL := hid hbl
      clear hbl t1 t2
      go_wp2_with fail
      go_region_with (go_at_call 32; refine Calls.mono HS.out ?_; rintro e w3 ⟨rfl, hb3⟩; have B3 := hid (HBL.out.drew.trans (hb3.mono HBL.out.size)); clear hb3)
      all_goals
        go_wp2
        go_roundw
        case rel => exact ⟨k + 1, by omega, by go_num, B3.out⟩
        case measure => simp [intOf]; omega
    · obtain rfl : k = R.length := by omega
      go_wp2
      go_ret
      exact ⟨rfl, hbl⟩

/-! what Print checks -/

/-- a cell's fault -/
def cfl (T : List UInt8) : Nat := if 4096 < T.length then 5 else if T.all (fun c => mayB c.toNat) = true then 0 else 4
/-- the first cell with a fault, from place j on: its fault and place -/
def cls : List (List UInt8) → Nat → Nat × Nat
  | [], _ => (0, 0)
  | T :: r, j => if cfl T = 0 then cls r (j + 1) else (cfl T, j)
/-- a row's fault, among rows of n cells -/
def wfl (n : Nat) (cs : List (List UInt8)) : Nat × Nat :=
  if cs.length = 0 then (6, 0) else if 64 < cs.length then (6, 64) else if cs.length = n then cls cs 0 else (8, 0)
/-- the first row with a fault, from row i on: fault, line, column -/
def rck (n : Nat) : List (List (List UInt8)) → Nat → Nat × Nat × Nat
  | [], _ => (0, 0, 0)
  | cs :: r, i => if i = 4096 then (7, i + 1, 0) else if (wfl n cs).1 = 0 then rck n r (i + 1) else ((wfl n cs).1, i + 1, (wfl n cs).2)
theorem cfl_vals (T : List UInt8) : cfl T = 0 ∨ cfl T = 4 ∨ cfl T = 5 := by
  unfold cfl
  split
  · exact .inr (.inr rfl)
  · split
    · exact .inl rfl
    · exact .inr (.inl rfl)
theorem cls_vals (cs : List (List UInt8)) (j : Nat) : (cls cs j).1 = 0 ∨ (cls cs j).1 = 4 ∨ (cls cs j).1 = 5 := by
  induction cs generalizing j with
  | nil => exact .inl rfl
  | cons T r ih =>
    rw [cls]
    split
    · exact ih _
    · exact cfl_vals T
theorem wfl_vals (n : Nat) (cs : List (List UInt8)) : (wfl n cs).1 = 0 ∨ (wfl n cs).1 = 4 ∨ (wfl n cs).1 = 5 ∨ (wfl n cs).1 = 6 ∨ (wfl n cs).1 = 8 := by
  unfold wfl
  split
  · simp
  · split
    · simp
    · split
      · rcases cls_vals cs 0 with h | h | h <;> simp [h]
      · simp
theorem rck_vals (n : Nat) (R : List (List (List UInt8))) (i : Nat) : (rck n R i).1 = 0 ∨ (rck n R i).1 = 4 ∨ (rck n R i).1 = 5 ∨ (rck n R i).1 = 6 ∨ (rck n R i).1 = 7 ∨ (rck n R i).1 = 8 := by
  induction R generalizing i with
  | nil => exact .inl rfl
  | cons cs r ih =>
    rw [rck]
    split
    · simp
    · split
      · exact ih _
      · rcases wfl_vals n cs with h | h | h | h | h <;> simp [h]
theorem cfl_ok {T : List UInt8} : cfl T = 0 ↔ okC T := by
  unfold cfl okC
  constructor
  · intro h
    split at h
    · exact absurd h (by decide)
    · split at h
      · rename_i h1 h2
        exact ⟨by omega, List.all_eq_true.1 h2⟩
      · exact absurd h (by decide)
  · rintro ⟨h1, h2⟩
    rw [if_neg (by omega), if_pos (List.all_eq_true.2 h2)]
theorem cls_ok {cs : List (List UInt8)} : ∀ j, (cls cs j).1 = 0 ↔ ∀ T ∈ cs, okC T := by
  induction cs with
  | nil => intro j; simp [cls]
  | cons T r ih =>
    intro j
    rw [cls]
    by_cases h : cfl T = 0
    · rw [if_pos h, ih (j + 1)]
      simp [cfl_ok.1 h]
    · rw [if_neg h]
      constructor
      · intro h'; exact absurd h' h
      · intro h'; exact absurd (cfl_ok.2 (h' T (by simp))) h
theorem wfl_ok {n : Nat} {cs : List (List UInt8)} : (wfl n cs).1 = 0 ↔ okW n cs := by
  unfold wfl okW
  by_cases h0 : cs.length = 0
  · rw [if_pos h0]; simp; omega
  · rw [if_neg h0]
    by_cases h1 : 64 < cs.length
    · rw [if_pos h1]; simp; omega
    · rw [if_neg h1]
      by_cases h2 : cs.length = n
      · rw [if_pos h2, cls_ok 0]
        constructor
        · intro h; exact ⟨by omega, by omega, h2, h⟩
        · intro h; exact h.2.2.2
      · rw [if_neg h2]; simp; intro _ _ h; exact absurd h h2
theorem rck_ok {n : Nat} {R : List (List (List UInt8))} : ∀ i, i + R.length ≤ 4096 ∨ i ≤ 4096 → ((rck n R i).1 = 0 ↔ i + R.length ≤ 4096 ∧ ∀ cs ∈ R, okW n cs) := by
  induction R with
  | nil => intro i h; simp [rck]; omega
  | cons cs r ih =>
    intro i h
    rw [rck]
    by_cases h4 : i = 4096
    · rw [if_pos h4]; simp; omega
    · rw [if_neg h4]
      by_cases h1 : (wfl n cs).1 = 0
      · rw [if_pos h1, ih (i + 1) (by simp at h; omega)]
        have := wfl_ok.1 h1
        simp [this]
        omega
      · rw [if_neg h1]
        constructor
        · intro h'; exact absurd h' h1
        · rintro ⟨_, h'⟩; exact absurd (wfl_ok.2 (h' cs (by simp))) h1
end Go.Proofs.YtpgpeafmlijfkaaGreatDoor
