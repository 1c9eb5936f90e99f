/-
  The law's own rule.
-/
import Derived.Test.YtipgmiblphfboaaDoorShe
import Derived.Test.YtipgmiblphfboaaDoorSha
namespace Go.Proofs.YtipgmiblphfboaaDoor
open Go.RowKit
set_option maxRecDepth 100000

/-- numbers of days as the law's lists have them -/
def QOk (Q : List Int) (odd : Int) : Prop := Q.length ≤ 1000 ∧ Q.Pairwise (· < ·) ∧ ∀ n ∈ Q, 730000 ≤ n ∧ n < 732000 ∧ n % 2 = odd
theorem RZ.setW {w : World} {b : Nat} {wk : Nat → Bool} {v1 v2 : Value} (h : RZ w b wk v1 v2) (i : Nat) (hi : i < 7) (x : Bool) : RZ (w.setCell ⟨b, i, none⟩ (.bool x)) b (fun j => if j = i then x else wk j) v1 v2 := by
  unfold RZ at *
  rw [Lib.heap_setCell_same h]
  match i, hi with
  | 0, _ => simp [rlC]
  | 1, _ => simp [rlC]
  | 2, _ => simp [rlC]
  | 3, _ => simp [rlC]
  | 4, _ => simp [rlC]
  | 5, _ => simp [rlC]
  | 6, _ => simp [rlC]
theorem RZ.set7 {w : World} {b : Nat} {wk : Nat → Bool} {v1 v2 : Value} (h : RZ w b wk v1 v2) (u : Value) : RZ (w.setCell ⟨b, 7, none⟩ u) b wk u v2 := by
  unfold RZ at *
  rw [Lib.heap_setCell_same h]
  simp [rlC]
theorem RZ.set8 {w : World} {b : Nat} {wk : Nat → Bool} {v1 v2 : Value} (h : RZ w b wk v1 v2) (u : Value) : RZ (w.setCell ⟨b, 8, none⟩ u) b wk v1 u := by
  unfold RZ at *
  rw [Lib.heap_setCell_same h]
  simp [rlC]
theorem RZ.frozen {w : World} {b : Nat} {wk : Nat → Bool} {v1 v2 : Value} (h : RZ w b wk v1 v2) (k : Nat) : w.frozen? ⟨b, k, none⟩ = false := Lib.frozen_of_heap h k
theorem RZ.wcell {w : World} {b : Nat} {wk : Nat → Bool} {v1 v2 : Value} (h : RZ w b wk v1 v2) (i : Nat) (hi : i < 7) : w.cell? ⟨b, i, none⟩ = some (.bool (wk i)) := by
  rw [Lib.cell_of_heap h]
  match i, hi with
  | 0, _ => rfl
  | 1, _ => rfl
  | 2, _ => rfl
  | 3, _ => rfl
  | 4, _ => rfl
  | 5, _ => rfl
  | 6, _ => rfl
/-- the rule's block written anew -/
def putR (w : World) (b : Nat) (wk : Nat → Bool) (v1 v2 : Value) : World := w.setRow b (rlC wk v1 v2)
theorem RZ.put {w : World} {b : Nat} {wk : Nat → Bool} {v1 v2 : Value} (h : RZ w b wk v1 v2) (wk' : Nat → Bool) (u1 u2 : Value) : RZ (putR w b wk' u1 u2) b wk' u1 u2 := by
  unfold RZ at *
  simp [putR, World.setRow, Array.getElem?_modify, h]
theorem putR_other {w : World} {b k : Nat} {wk : Nat → Bool} {v1 v2 : Value} (hk : k ≠ b) : (putR w b wk v1 v2).heap[k]? = w.heap[k]? := by
  have : b ≠ k := fun e => hk e.symm
  simp [putR, World.setRow, Array.getElem?_modify, this]
@[simp] theorem putR_size (w : World) (b : Nat) (wk : Nat → Bool) (v1 v2 : Value) : (putR w b wk v1 v2).heap.size = w.heap.size := by simp [putR, World.setRow]
theorem putR_below {w0 w : World} {B b : Nat} {wk : Nat → Bool} {v1 v2 : Value} (h : Below B w0 w) (hb : B ≤ b) : Below B w0 (putR w b wk v1 v2) := ⟨h.os, h.tape, h.output, by rw [putR_size]; exact h.size, fun k hk => by rw [putR_other (by omega)]; exact h.block k hk⟩
def rlSt (a : Addr) (v : Value) : Sem Unit := storeVar 26 a v
theorem rlSt_op (a : Addr) (v : Value) : storeVar 26 a v = rlSt a v := rfl
theorem run_rlSt {w : World} {b : Nat} {wk wk' : Nat → Bool} {v1 v2 u1 u2 : Value} (h : RZ w b wk v1 v2) (h1 : u1.oneCell' = true) (h2 : u2.oneCell' = true) : (rlSt ⟨b, 0, none⟩ (.agg #[.bool (wk' 0), .bool (wk' 1), .bool (wk' 2), .bool (wk' 3), .bool (wk' 4), .bool (wk' 5), .bool (wk' 6), u1, u2])).run Tryd.prog w = .ok () (putR w b wk' u1 u2) :=
  run_storeVar_row _ _ _ _ (rlC wk v1 v2) (rlC wk' u1 u2) h rlinfo rfl (by simp [rlC, h1, h2]; simp [Value.oneCell'])
theorem grownBy_setCell'' (W : World) (b k : Nat) (u : Value) : W.grownBy (W.setCell ⟨b, k, none⟩ u) (some b) := ⟨rfl, rfl, rfl, by simp, fun i _ hne => Below.heap_setCell _ _ _ _ (by show i ≠ b; intro e; exact hne (by rw [e]))⟩
attribute [local go_sem ↓] rlLd_op rlSt_op

set_option maxHeartbeats 2000000 in
theorem lawrule_any (q : Int) (L1 L2 : List Int) (v1 v2 : Value) (w : World) (h1 : RL eI 1 w v1 L1) (h2 : RL eI 1 w v2 L2) (l1 : L1.length ≤ 9223372036854775806) (l2 : L2.length ≤ 9223372036854775806) (r1 : ∀ x ∈ L1, -9223372036854775808 ≤ x ∧ x ≤ 9223372036854775807) (r2 : ∀ x ∈ L2, -9223372036854775808 ≤ x ∧ x ≤ 9223372036854775807) (hA : HasAh w) :
    Calls Tryd.prog 5 #[.int .u8 q, v1, v2] w fun e w' => (∃ (wk : Nat → Bool) (u1 u2 : Value) (Q1 Q2 : List Int), e = .returned (rlV wk u1 u2) ∧ RL eD 3 w' u1 (Q1.map dT) ∧ RL eD 3 w' u2 (Q2.map dT) ∧ QOk Q1 0 ∧ QOk Q2 1) ∧ Below w.heap.size w w' := by
  obtain ⟨w2, hw2⟩ : ∃ w2, (w.alloc (.cells #[.bool false, .bool false, .bool false, .bool false, .bool false, .bool false, .bool false, .slice none 0 0, .slice none 0 0] 26)).alloc (.cells #[.bool false, .bool false, .bool false, .bool false, .bool false, .bool false, .bool false, .slice none 0 0, .slice none 0 0] 26) = w2 := ⟨_, rfl⟩
  have hB2 : Below w.heap.size w w2 := by
    rw [← hw2]
    exact ((Below.refl _ _).alloc (Nat.le_refl _) _).alloc (by simp) _
  have hz2 : w2.heap.size = w.heap.size + 2 := by rw [← hw2]; simp
  have hR0 : RZ w2 w.heap.size (fun _ => false) (.slice none 0 0) (.slice none 0 0) := by
    rw [← hw2]
    exact ((alloc_below _ _).block _ (by simp)).trans (heap_alloc_new _ _)
  have hR1 : RZ w2 (w.heap.size + 1) (fun _ => false) (.slice none 0 0) (.slice none 0 0) := by
    rw [← hw2]
    have h := heap_alloc_new (w.alloc (.cells #[.bool false, .bool false, .bool false, .bool false, .bool false, .bool false, .bool false, .slice none 0 0, .slice none 0 0] 26)) (.cells #[.bool false, .bool false, .bool false, .bool false, .bool false, .bool false, .bool false, .slice none 0 0, .slice none 0 0] 26)
    rw [World.size_alloc] at h
    exact h
  have H1 := hid h1
  have H2 := hid h2
  have R1 := hid r1
  have R2 := hid r2
  have HA := hid hA
  have HZ0 := hid hR0
  have HZ1 := hid hR1
  have HB := hid hB2
  obtain ⟨a1, c1, rfl⟩ := h1.len0
  obtain ⟨a2, c2, rfl⟩ := h2.len0
  clear h1 h2 hA hR0 hR1 hB2 r1 r2
  unfold rlV rlC
  go_enter Tryd.func5, Tryd.ntmps5
  go_wp2
  go_loopg [8] 7 (fun m s8 wr => ∃ (i : Nat) (wk : Nat → Bool), i ≤ 7 ∧ 7 - i ≤ m ∧ s8 = .int .i64 (i : Int) ∧ Hid (RZ wr w.heap.size (fun _ => false) (.slice none 0 0) (.slice none 0 0)) ∧ Hid (RZ wr (w.heap.size + 1) wk (.slice none 0 0) (.slice none 0 0)) ∧ Hid (Below w.heap.size w wr) ∧ w.heap.size + 2 ≤ wr.heap.size)
  case atStart => exact ⟨0, _, by omega, by omega, rfl, HZ0, HZ1, HB, by omega⟩
  case round =>
    obtain ⟨i, wk, hi, hm, rfl, HZ0, HZ1, HB, hz⟩ := hrel
    by_cases hlt : i < 7
    · have hlt' : (i : Int) < 7 := by omega
      have cc := HZ1.out.wcell i hlt
      have ff := HZ1.out.frozen i
      go_wp2
      go_roundg (gk - 1)
      case measure => omega
      case rel => exact ⟨i + 1, _, by omega, by omega, by first | rfl | go_num, hid (show RZ _ _ _ _ _ by
        unfold RZ
        rw [Below.heap_setCell _ _ _ _ (by show w.heap.size ≠ w.heap.size + 1; omega)]
        exact HZ0.out), hid (HZ1.out.setW i hlt _), hid (HB.out.setCell (by show w.heap.size ≤ w.heap.size + 1; omega) _), by simpa using hz⟩
    · have hlt' : ¬ (i : Int) < 7 := by omega
      have C1 := hid (lawdays_any L1 _ 0 (.inl rfl) wr (H1.out.below HB.out) l1 R1.out (HA.out.below HB.out))
      go_wp2_with fail
      refine C1.out.mono ?_
      rintro e w3 ⟨⟨u1, Q1, rfl, o1, k1⟩, hb3⟩
      have HB3 := hid (HB.out.trans (hb3.mono HB.out.size))
      have HZ3 := hid (HZ1.out.later hb3)
      have HY3 := hid (HZ0.out.later hb3)
      have hz3 : w.heap.size + 2 ≤ w3.heap.size := by have := hb3.size; omega
      have c3 := HZ3.out.facts.1.2.2.2.2.2.2.2.1
      have f3 := HZ3.out.frozen 7
      obtain ⟨b1, d1, hu1⟩ := (OL.reads eD_len o1).len0
      rw [List.length_map] at hu1
      have O1 := hid o1
      have K1 := hid k1
      obtain ⟨w4, hw4⟩ : ∃ w4, w3.setCell ⟨w.heap.size + 1, 7, none⟩ u1 = w4 := ⟨_, rfl⟩
      have HZ4 := hid (show RZ w4 (w.heap.size + 1) wk u1 (.slice none 0 0) by rw [← hw4]; exact HZ3.out.set7 u1)
      have HY4 := hid (show RZ w4 w.heap.size (fun _ => false) (.slice none 0 0) (.slice none 0 0) by
        rw [← hw4]
        unfold RZ
        rw [Below.heap_setCell _ _ _ _ (by show w.heap.size ≠ w.heap.size + 1; omega)]
        exact HY3.out)
      have HB4 := hid (show Below w.heap.size w w4 by rw [← hw4]; exact HB3.out.setCell (by show w.heap.size ≤ w.heap.size + 1; omega) _)
      have hz4 : w4.heap.size = w3.heap.size := by rw [← hw4]; simp
      have HO4 := hid (show OL eD 3 33 w4 wr.heap.size u1 (Q1.map dT) by
        rw [← hw4]
        exact OL.keep O1.out (grownBy_setCell'' w3 (w.heap.size + 1) 7 u1) (fun g hg e => by have := (O1.out.block_ge g hg).1; cases e; omega))
      have C2 := hid (lawdays_any L2 _ 1 (.inr rfl) w4 (H2.out.below HB4.out) l2 R2.out (HA.out.below HB4.out))
      subst hu1
      clear hb3 HB HZ0 HZ1 HZ3 HY3 HB3 o1 k1 O1 C1
      go_wp2_with fail
      refine C2.out.mono ?_
      rintro e w5 ⟨⟨u2, Q2, rfl, o2, k2⟩, hb5⟩
      have HB5 := hid (HB4.out.trans (hb5.mono HB4.out.size))
      have HZ5 := hid (HZ4.out.later hb5)
      have HY5 := hid (HY4.out.later hb5)
      have HO5 := hid (OL.below HO4.out hb5)
      have hz5 : w4.heap.size ≤ w5.heap.size := hb5.size
      have c5 := HZ5.out.facts.1.2.2.2.2.2.2.2.2
      have f5 := HZ5.out.frozen 8
      obtain ⟨b2, d2, hu2⟩ := (OL.reads eD_len o2).len0
      rw [List.length_map] at hu2
      have P2 := hid o2
      have K2 := hid k2
      obtain ⟨w6, hw6⟩ : ∃ w6, w5.setCell ⟨w.heap.size + 1, 8, none⟩ u2 = w6 := ⟨_, rfl⟩
      have HZ6 := hid (show RZ w6 (w.heap.size + 1) wk (.slice b1 Q1.length d1) u2 by rw [← hw6]; exact HZ5.out.set8 u2)
      have HY6 := hid (show RZ w6 w.heap.size (fun _ => false) (.slice none 0 0) (.slice none 0 0) by
        rw [← hw6]
        unfold RZ
        rw [Below.heap_setCell _ _ _ _ (by show w.heap.size ≠ w.heap.size + 1; omega)]
        exact HY5.out)
      have HB6 := hid (show Below w.heap.size w w6 by rw [← hw6]; exact HB5.out.setCell (by show w.heap.size ≤ w.heap.size + 1; omega) _)
      have HO6 := hid (show OL eD 3 33 w6 wr.heap.size (.slice b1 Q1.length d1) (Q1.map dT) by
        rw [← hw6]
        exact OL.keep HO5.out (grownBy_setCell'' w5 (w.heap.size + 1) 8 u2) (fun g hg e => by have := (HO5.out.block_ge g hg).1; cases e; omega))
      have HP6 := hid (show OL eD 3 33 w6 w4.heap.size u2 (Q2.map dT) by
        rw [← hw6]
        exact OL.keep P2.out (grownBy_setCell'' w5 (w.heap.size + 1) 8 u2) (fun g hg e => by have := (P2.out.block_ge g hg).1; cases e; omega))
      subst hu2
      have hld := run_rlLd HZ6.out
      have hst := run_rlSt (wk' := wk) (u1 := .slice b1 Q1.length d1) (u2 := .slice b2 Q2.length d2) HY6.out rfl rfl
      have HZ7 := hid (HY6.out.put wk (.slice b1 Q1.length d1) (.slice b2 Q2.length d2))
      have HB7 := hid (putR_below (b := w.heap.size) (wk := wk) (v1 := .slice b1 Q1.length d1) (v2 := .slice b2 Q2.length d2) HB6.out (Nat.le_refl _))
      have hgr : w6.grownBy (putR w6 w.heap.size wk (.slice b1 Q1.length d1) (.slice b2 Q2.length d2)) (some w.heap.size) := ⟨rfl, rfl, rfl, by simp, fun k _ hne => putR_other (fun e => hne (by rw [e]))⟩
      have HO7 := hid (OL.reads eD_len (OL.keep HO6.out hgr (fun g hg e => by have := (HO6.out.block_ge g hg).1; cases e; omega)))
      have HP7 := hid (OL.reads eD_len (OL.keep HP6.out hgr (fun g hg e => by have := (HP6.out.block_ge g hg).1; cases e; omega)))
      generalize putR w6 w.heap.size wk (.slice b1 Q1.length d1) (.slice b2 Q2.length d2) = w7 at *
      obtain ⟨⟨j0, j1, j2, j3, j4, j5, j6, j7, j8⟩, _⟩ := HZ7.out.facts
      clear hb5 HZ4 HY4 HB4 HO4 C2 HZ5 HY5 HB5 HO5 o2 k2 P2 HO6 HP6 hgr
      go_wp2
      refine bodyPost_ret (by simp [results, Tryd.results5, go_sem, j0, j1, j2, j3, j4, j5, j6, j7, j8]; try rfl) rfl ?_
      exact ⟨⟨wk, _, _, Q1, Q2, rfl, HO7.out, HP7.out, K1.out, K2.out⟩, HB7.out⟩
end Go.Proofs.YtipgmiblphfboaaDoor
