/-
  The law's own: every call with a rule, both sides.
-/
import Derived.Test.YtipgmiblphfboaaDoorRm4
import Derived.Test.YtipgmiblphfboaaDoorShd
import Derived.Test.YtipgmiblphfboaaDoorOpn1
import Derived.Deep.RegionHeld
namespace Go.Proofs.YtipgmiblphfboaaDoor
open Go.RowKit
set_option maxRecDepth 100000
attribute [local go_sem ↓] rlLd_op rlSt_op wkLd_op

/-- what Open answers -/
def OpR (wk : Nat → Bool) (D E : List (Int × Int × Int)) (y m d : Int) (b : Bool) (er : Int) : Prop := (∃ A, rlA D E = some A ∧ VD y m d ∧ b = isOp wk A (nb y m d) ∧ er = 0) ∨ ((∃ A, rlA D E = some A) ∧ ¬ VD y m d ∧ b = false ∧ er = 30) ∨ (rlA D E = none ∧ b = false ∧ er = 36)
theorem OpR.same {wk : Nat → Bool} {D E : List (Int × Int × Int)} {y m d : Int} {b b' : Bool} {er er' : Int} (h : OpR wk D E y m d b er) (h' : OpR wk D E y m d b' er') : b = b' ∧ er = er' := by
  rcases h with ⟨A, hA, hv, rfl, rfl⟩ | ⟨⟨A, hA⟩, hv, rfl, rfl⟩ | ⟨hN, rfl, rfl⟩ <;> rcases h' with ⟨A', hA', hv', rfl, rfl⟩ | ⟨⟨A', hA'⟩, hv', rfl, rfl⟩ | ⟨hN', rfl, rfl⟩
  · rw [hA] at hA'; cases hA'; exact ⟨rfl, rfl⟩
  · exact absurd hv hv'
  · rw [hA] at hN'; cases hN'
  · exact absurd hv' hv
  · exact ⟨rfl, rfl⟩
  · rw [hA] at hN'; cases hN'
  · rw [hN] at hA'; cases hA'
  · rw [hN] at hA'; cases hA'
  · exact ⟨rfl, rfl⟩
theorem openR_any (wk : Nat → Bool) (D E : List (Int × Int × Int)) (v1 v2 : Value) (y m d : Int) (w : World) (h1 : RL eD 3 w v1 D) (h2 : RL eD 3 w v2 E) (hA : HasAh w) :
    Calls Tryd.prog 9 #[rlV wk v1 v2, dV y m d] w fun e w' => (∃ b er, e = .returned (.tuple #[.bool b, .int .i64 er]) ∧ OpR wk D E y m d b er) ∧ Below w.heap.size w w' := by
  refine (open_any wk D E v1 v2 y m d w h1 h2 hA).mono ?_
  rintro e w' ⟨⟨A, hA, hv, rfl⟩ | ⟨hA, hv, rfl⟩ | ⟨hN, rfl⟩, hb⟩
  · exact ⟨⟨_, _, rfl, .inl ⟨A, hA, hv, rfl, rfl⟩⟩, hb⟩
  · exact ⟨⟨_, _, rfl, .inr (.inl ⟨hA, hv, rfl, rfl⟩)⟩, hb⟩
  · exact ⟨⟨_, _, rfl, .inr (.inr ⟨hN, rfl, rfl⟩)⟩, hb⟩
theorem refOpenR_any (wk : Nat → Bool) (D E : List (Int × Int × Int)) (v1 v2 : Value) (y m d : Int) (w : World) (h1 : RL eD 3 w v1 D) (h2 : RL eD 3 w v2 E) :
    Calls Tryd.prog 20 #[rlV wk v1 v2, dV y m d] w fun e w' => (∃ b er, e = .returned (.tuple #[.bool b, .int .i64 er]) ∧ OpR wk D E y m d b er) ∧ Below w.heap.size w w' := by
  refine (refOpen_any wk D E v1 v2 y m d w h1 h2).mono ?_
  rintro e w' ⟨⟨A, hA, hv, rfl⟩ | ⟨hA, hv, rfl⟩ | ⟨hN, rfl⟩, hb⟩
  · exact ⟨⟨_, _, rfl, .inl ⟨A, hA, hv, rfl, rfl⟩⟩, hb⟩
  · exact ⟨⟨_, _, rfl, .inr (.inl ⟨hA, hv, rfl, rfl⟩)⟩, hb⟩
  · exact ⟨⟨_, _, rfl, .inr (.inr ⟨hN, rfl, rfl⟩)⟩, hb⟩

theorem RL.init {w : World} {ao : Option Addr} {n c : Nat} {D : List (Int × Int × Int)} {x : Int × Int × Int} (h : RL eD 3 w (.slice ao n c) (D ++ [x])) : RL eD 3 w (.slice ao D.length c) D ∧ n = D.length + 1 ∧ D.length + 1 ≤ c ∧ ∃ g off, ao = some ⟨g, off, none⟩ ∧ w.cell? ⟨g, off + D.length * 3, none⟩ = some (.int .i64 x.1) ∧ w.cell? ⟨g, off + D.length * 3 + 1, none⟩ = some (.int .i64 x.2.1) ∧ w.cell? ⟨g, off + D.length * 3 + 2, none⟩ = some (.int .i64 x.2.2) := by
  obtain ⟨ao', c', hv, h1, h2, h3⟩ := h
  cases hv
  rw [List.length_append, List.length_singleton] at *
  refine ⟨⟨ao, c, rfl, by omega, h2, fun i hi => ?_⟩, rfl, h1, ?_⟩
  · obtain ⟨g, off, ha, hq⟩ := h3 i (by simp; omega)
    refine ⟨g, off, ha, fun j u hj => hq j u ?_⟩
    rw [List.getElem_append_left hi]
    exact hj
  · obtain ⟨g, off, ha, hq⟩ := h3 D.length (by simp)
    have e : (D ++ [x])[D.length]'(by simp) = x := by simp
    rw [e] at hq
    exact ⟨g, off, ha, hq 0 _ rfl, hq 1 _ rfl, hq 2 _ rfl⟩

/-- what asked leans on: the rule, both days, its own rule -/
def AK (w0 : World) (wk : Nat → Bool) (r1 r2 o1 o2 : Value) (y m d y' m' d' : Int) (w : World) : Prop := RZ w w0.heap.size wk r1 r2 ∧ Box w (w0.heap.size + 1) y m d ∧ Box w (w0.heap.size + 1 + 1) y' m' d' ∧ RZ w (w0.heap.size + 1 + 1 + 1) wk o1 o2 ∧ Below w0.heap.size w0 w
theorem AK.later {w0 w w' : World} {wk : Nat → Bool} {r1 r2 o1 o2 : Value} {y m d y' m' d' : Int} (h : AK w0 wk r1 r2 o1 o2 y m d y' m' d' w) (hb : Below w.heap.size w w') : AK w0 wk r1 r2 o1 o2 y m d y' m' d' w' := ⟨h.1.later hb, h.2.1.later hb, h.2.2.1.later hb, h.2.2.2.1.later hb, h.2.2.2.2.trans (hb.mono h.2.2.2.2.size)⟩

theorem moveR_any (wk : Nat → Bool) (D E : List (Int × Int × Int)) (v1 v2 : Value) (y m d n : Int) (w : World) (h1 : RL eD 3 w v1 D) (h2 : RL eD 3 w v2 E) (hA : HasAh w) :
    Calls Tryd.prog 10 #[rlV wk v1 v2, dV y m d, .int .i64 n] w fun e w' => (∃ X0 X1 X2 er, e = .returned (.tuple #[dV X0 X1 X2, .int .i64 er]) ∧ MovR wk D E y m d n (X0, X1, X2) er) ∧ Below w.heap.size w w' := by
  refine (move_any wk D E v1 v2 y m d n w h1 h2 hA).mono ?_
  rintro e w' ⟨⟨⟨a, b, c⟩, er, rfl, h⟩, hb⟩
  exact ⟨⟨a, b, c, er, rfl, h⟩, hb⟩
theorem refMoveR_any (wk : Nat → Bool) (D E : List (Int × Int × Int)) (v1 v2 : Value) (y m d n : Int) (w : World) (h1 : RL eD 3 w v1 D) (h2 : RL eD 3 w v2 E) :
    Calls Tryd.prog 21 #[rlV wk v1 v2, dV y m d, .int .i64 n] w fun e w' => (∃ X0 X1 X2 er, e = .returned (.tuple #[dV X0 X1 X2, .int .i64 er]) ∧ MovR wk D E y m d n (X0, X1, X2) er) ∧ Below w.heap.size w w' := by
  refine (refMove_any wk D E v1 v2 y m d n w h1 h2).mono ?_
  rintro e w' ⟨⟨⟨a, b, c⟩, er, rfl, h⟩, hb⟩
  exact ⟨⟨a, b, c, er, rfl, h⟩, hb⟩
/-- nothing old has turned since -/
def LtB (w1 w : World) : Prop := Below w1.heap.size w1 w
theorem LtB.call {w1 w w' : World} (h : LtB w1 w) (hb : Below w.heap.size w w') : LtB w1 w' := Below.trans h (hb.mono (Below.size h))
/-- and what it has of lists -/
def AQ (w0 : World) (wk : Nat → Bool) (r1 r2 o1 o2 : Value) (D E : List (Int × Int × Int)) (y m d y' m' d' : Int) (w : World) : Prop := AK w0 wk r1 r2 o1 o2 y m d y' m' d' w ∧ RL eD 3 w r1 D ∧ RL eD 3 w r2 E ∧ RL eD 3 w o1 D ∧ RL eD 3 w o2 E ∧ HasAh w
theorem AQ.later {w0 w w' : World} {wk : Nat → Bool} {r1 r2 o1 o2 : Value} {D E : List (Int × Int × Int)} {y m d y' m' d' : Int} (h : AQ w0 wk r1 r2 o1 o2 D E y m d y' m' d' w) (hb : Below w.heap.size w w') : AQ w0 wk r1 r2 o1 o2 D E y m d y' m' d' w' := ⟨h.1.later hb, h.2.1.below hb, h.2.2.1.below hb, h.2.2.2.1.below hb, h.2.2.2.2.1.below hb, h.2.2.2.2.2.below hb⟩
theorem AK.set7 {w0 w : World} {wk : Nat → Bool} {r1 r2 o1 o2 : Value} {y m d y' m' d' : Int} (h : AK w0 wk r1 r2 o1 o2 y m d y' m' d' w) (u : Value) : AK w0 wk r1 r2 u o2 y m d y' m' d' (w.setCell ⟨w0.heap.size + 1 + 1 + 1, 7, none⟩ u) := by
  refine ⟨?_, ?_, ?_, h.2.2.2.1.set7 u, h.2.2.2.2.setCell (by show w0.heap.size ≤ w0.heap.size + 1 + 1 + 1; omega) _⟩
  · unfold RZ; rw [Below.heap_setCell _ _ _ _ (by show w0.heap.size ≠ w0.heap.size + 1 + 1 + 1; omega)]; exact h.1
  · unfold Box; rw [Below.heap_setCell _ _ _ _ (by show w0.heap.size + 1 ≠ w0.heap.size + 1 + 1 + 1; omega)]; exact h.2.1
  · unfold Box; rw [Below.heap_setCell _ _ _ _ (by show w0.heap.size + 1 + 1 ≠ w0.heap.size + 1 + 1 + 1; omega)]; exact h.2.2.1
theorem AK.set8 {w0 w : World} {wk : Nat → Bool} {r1 r2 o1 o2 : Value} {y m d y' m' d' : Int} (h : AK w0 wk r1 r2 o1 o2 y m d y' m' d' w) (u : Value) : AK w0 wk r1 r2 o1 u y m d y' m' d' (w.setCell ⟨w0.heap.size + 1 + 1 + 1, 8, none⟩ u) := by
  refine ⟨?_, ?_, ?_, h.2.2.2.1.set8 u, h.2.2.2.2.setCell (by show w0.heap.size ≤ w0.heap.size + 1 + 1 + 1; omega) _⟩
  · unfold RZ; rw [Below.heap_setCell _ _ _ _ (by show w0.heap.size ≠ w0.heap.size + 1 + 1 + 1; omega)]; exact h.1
  · unfold Box; rw [Below.heap_setCell _ _ _ _ (by show w0.heap.size + 1 ≠ w0.heap.size + 1 + 1 + 1; omega)]; exact h.2.1
  · unfold Box; rw [Below.heap_setCell _ _ _ _ (by show w0.heap.size + 1 + 1 ≠ w0.heap.size + 1 + 1 + 1; omega)]; exact h.2.2.1

set_option maxHeartbeats 4000000 in
theorem asked_any (wk : Nat → Bool) (D E : List (Int × Int × Int)) (a b c : Int) (v1 v2 u1 u2 : Value) (y m d y' m' d' n : Int) (w : World) (h1 : RL eD 3 w v1 (D ++ [(a, b, c)])) (h2 : RL eD 3 w v2 (E ++ [(a, b, c)])) (hs1 : D.length * 24 ≤ reachBytes) (hs2 : E.length * 24 ≤ reachBytes) (hA : HasAh w) (hM : MkB w a b c) :
    Calls Tryd.prog 12 #[v1, v2, rlV wk u1 u2, dV y m d, dV y' m' d', .int .i64 n] w fun e w' => e = .returned (.bool true) ∧ Below w.heap.size w w' := by
  obtain ⟨ao1, n1, c1, rfl⟩ : ∃ ao n c, v1 = .slice ao n c := by obtain ⟨ao, c, h, _⟩ := h1; exact ⟨_, _, _, h⟩
  obtain ⟨ao2, n2, c2, rfl⟩ : ∃ ao n c, v2 = .slice ao n c := by obtain ⟨ao, c, h, _⟩ := h2; exact ⟨_, _, _, h⟩
  obtain ⟨k1, rfl, hc1, g1, f1, rfl, p10, p11, p12⟩ := h1.init
  obtain ⟨k2, rfl, hc2, g2, f2, rfl, p20, p21, p22⟩ := h2.init
  have hz1 : D.length * 24 ≤ 140737488351232 := hs1
  have hz2 : E.length * 24 ≤ 140737488351232 := hs2
  have K1 := hid k1
  have K2 := hid k2
  have HA := hid hA
  have HMk := hid hM
  have P1 := hid (And.intro p10 (And.intro p11 p12))
  have P2 := hid (And.intro p20 (And.intro p21 p22))
  clear h1 h2 k1 k2 hA hM p10 p11 p12 p20 p21 p22 hs1 hs2
  obtain ⟨W5, hW5⟩ : ∃ W5, ((w.alloc (.cells (rlC wk (.slice (some ⟨g1, f1, none⟩) D.length c1) (.slice (some ⟨g2, f2, none⟩) E.length c2)) 26)).alloc (.cells #[.int .i64 y, .int .i64 m, .int .i64 d] 33)).alloc (.cells #[.int .i64 y', .int .i64 m', .int .i64 d'] 33) = W5 := ⟨_, rfl⟩
  have hB5 : Below w.heap.size w W5 := by
    rw [← hW5]
    exact (((Below.refl _ _).alloc (Nat.le_refl _) _).alloc (by simp) _).alloc (by simp; omega) _
  have hR5 : RZ W5 w.heap.size wk (.slice (some ⟨g1, f1, none⟩) D.length c1) (.slice (some ⟨g2, f2, none⟩) E.length c2) := by
    rw [← hW5]
    exact ((alloc_below _ _).block _ (by simp; omega)).trans (((alloc_below _ _).block _ (by simp)).trans (heap_alloc_new _ _))
  have hD5 : Box W5 (w.heap.size + 1) y m d := by
    rw [← hW5]
    have h := Box.new (w.alloc (.cells (rlC wk (.slice (some ⟨g1, f1, none⟩) D.length c1) (.slice (some ⟨g2, f2, none⟩) E.length c2)) 26)) y m d
    rw [World.size_alloc] at h
    exact h.later (alloc_below _ _)
  have hE5 : Box W5 (w.heap.size + 1 + 1) y' m' d' := by
    rw [← hW5]
    have h := Box.new ((w.alloc (.cells (rlC wk (.slice (some ⟨g1, f1, none⟩) D.length c1) (.slice (some ⟨g2, f2, none⟩) E.length c2)) 26)).alloc (.cells #[.int .i64 y, .int .i64 m, .int .i64 d] 33)) y' m' d'
    simp only [World.size_alloc] at h
    exact h
  have hz5 : W5.heap.size = w.heap.size + 1 + 1 + 1 := by rw [← hW5]; simp
  have hwk := run_wkLd hR5
  have hRn : RZ (W5.alloc (.cells #[.bool false, .bool false, .bool false, .bool false, .bool false, .bool false, .bool false, .slice none 0 0, .slice none 0 0] 26)) W5.heap.size (fun _ => false) (.slice none 0 0) (.slice none 0 0) := heap_alloc_new _ _
  have hst := run_rlSt (wk' := wk) (u1 := .slice none 0 0) (u2 := .slice none 0 0) hRn rfl rfl
  have hb6 : Below W5.heap.size W5 (putR (W5.alloc (.cells #[.bool false, .bool false, .bool false, .bool false, .bool false, .bool false, .bool false, .slice none 0 0, .slice none 0 0] 26)) W5.heap.size wk (.slice none 0 0) (.slice none 0 0)) := putR_below (alloc_below _ _) (Nat.le_refl _)
  have HA6 := hid (show AK w wk (.slice (some ⟨g1, f1, none⟩) D.length c1) (.slice (some ⟨g2, f2, none⟩) E.length c2) (.slice none 0 0) (.slice none 0 0) y m d y' m' d' (putR (W5.alloc (.cells #[.bool false, .bool false, .bool false, .bool false, .bool false, .bool false, .bool false, .slice none 0 0, .slice none 0 0] 26)) W5.heap.size wk (.slice none 0 0) (.slice none 0 0)) from
    ⟨hR5.later hb6, hD5.later hb6, hE5.later hb6, by have := hRn.put wk (.slice none 0 0) (.slice none 0 0); rw [hz5] at this ⊢; exact this, hB5.trans (hb6.mono hB5.size)⟩)
  have hz6 : (putR (W5.alloc (.cells #[.bool false, .bool false, .bool false, .bool false, .bool false, .bool false, .bool false, .slice none 0 0, .slice none 0 0] 26)) W5.heap.size wk (.slice none 0 0) (.slice none 0 0)).heap.size = w.heap.size + 1 + 1 + 1 + 1 := by simp [hz5]
  generalize hW6 : putR (W5.alloc (.cells #[.bool false, .bool false, .bool false, .bool false, .bool false, .bool false, .bool false, .slice none 0 0, .slice none 0 0] 26)) W5.heap.size wk (.slice none 0 0) (.slice none 0 0) = W6 at *
  rw [hz5] at hst
  have Hz6 := hid hz6
  clear hR5 hD5 hE5 hB5 hRn hb6 hW6 hz6
  unfold rlV dV
  unfold rlC at hW5 ⊢
  go_enter Tryd.func12, Tryd.ntmps12
  obtain ⟨_, _, _, _, _, _, _, q7, q8⟩ := HA6.out.2.2.2.1.facts.1
  obtain ⟨_, _, _, _, _, _, _, s7, s8⟩ := HA6.out.1.facts.1
  go_wp2_with (at_builtin; refine wpList_appL (enc := eD) dateinfo Tryd.underlying24 rfl (by omega) eD_len eD_one rfl _ _ rfl W6.heap.size (.slice none 0 0) [] (by first | rfl | simp) (OL.nil _ _) (.slice (some ⟨g1, f1, none⟩) D.length c1) D (by first | rfl | simp) (K1.out.below HA6.out.2.2.2.2) ?hlen ?hl2 (Nat.le_refl _) ?hnext)
  case hlen => first | omega | (simp; omega)
  case hl2 => first | (unfold maxLen; omega) | (simp [maxLen]; omega)
  case hnext =>
    intro o1 w7 ho7 hg7
    try rw [List.nil_append] at ho7
    have hb7 : Below W6.heap.size W6 w7 := Below.grown (Below.refl W6.heap.size W6) hg7 (Nat.le_refl _) (fun b hb => by simp [Value.ownBlock] at hb)
    have HA7 := hid (HA6.out.later hb7)
    have Hz7 := hid (show w.heap.size + 1 + 1 + 1 + 1 ≤ w7.heap.size by have := hb7.size; have := Hz6.out; omega)
    obtain ⟨x1, e1, hu1⟩ := (OL.reads eD_len ho7).len0
    subst hu1
    have ff := HA7.out.2.2.2.1.frozen 7
    obtain ⟨_, _, _, _, _, _, _, q7', q8'⟩ := HA7.out.2.2.2.1.facts.1
    obtain ⟨w8, hw8⟩ : ∃ w8, w7.setCell ⟨w.heap.size + 1 + 1 + 1, 7, none⟩ (.slice x1 D.length e1) = w8 := ⟨_, rfl⟩
    have HA8 := hid (show AK w wk (.slice (some ⟨g1, f1, none⟩) D.length c1) (.slice (some ⟨g2, f2, none⟩) E.length c2) (.slice x1 D.length e1) (.slice none 0 0) y m d y' m' d' w8 by rw [← hw8]; exact HA7.out.set7 _)
    have HO8 := hid (show OL eD 3 33 w8 W6.heap.size (.slice x1 D.length e1) D by
      rw [← hw8]
      exact OL.keep ho7 (grownBy_setCell'' w7 (w.heap.size + 1 + 1 + 1) 7 _) (fun g hg e => by have := (ho7.block_ge g hg).1; have := Hz6.out; cases e; omega))
    have Hz8 := hid (show w.heap.size + 1 + 1 + 1 + 1 ≤ w8.heap.size by rw [← hw8]; simpa using Hz7.out)
    obtain ⟨_, _, _, _, _, _, _, t7, t8⟩ := HA8.out.2.2.2.1.facts.1
    obtain ⟨_, _, _, _, _, _, _, r7, r8⟩ := HA8.out.1.facts.1
    clear ho7 hg7 hb7 HA6 HA7 q7 q8 s7 s8 hst hwk hW5 hz5 Hz7
    go_wp2_with (at_builtin; refine wpList_appL (enc := eD) dateinfo Tryd.underlying24 rfl (by omega) eD_len eD_one rfl _ _ rfl w8.heap.size (.slice none 0 0) [] (by first | rfl | simp) (OL.nil _ _) (.slice (some ⟨g2, f2, none⟩) E.length c2) E (by first | rfl | simp) (K2.out.below HA8.out.2.2.2.2) ?hlen3 ?hl3 (Nat.le_refl _) ?hnext3)
    case hlen3 => first | omega | (simp; omega)
    case hl3 => first | (unfold maxLen; omega) | (simp [maxLen]; omega)
    case hnext3 =>
      intro o2 w9 ho9 hg9
      try rw [List.nil_append] at ho9
      have hb9 : Below w8.heap.size w8 w9 := Below.grown (Below.refl w8.heap.size w8) hg9 (Nat.le_refl _) (fun b hb => by simp [Value.ownBlock] at hb)
      have HA9 := hid (HA8.out.later hb9)
      obtain ⟨x2, e2, hu2⟩ := (OL.reads eD_len ho9).len0
      subst hu2
      have ff2 := HA9.out.2.2.2.1.frozen 8
      obtain ⟨_, _, _, _, _, _, _, z7, z8⟩ := HA9.out.2.2.2.1.facts.1
      obtain ⟨w10, hw10⟩ : ∃ w10, w9.setCell ⟨w.heap.size + 1 + 1 + 1, 8, none⟩ (.slice x2 E.length e2) = w10 := ⟨_, rfl⟩
      have HAq := hid (show AK w wk (.slice (some ⟨g1, f1, none⟩) D.length c1) (.slice (some ⟨g2, f2, none⟩) E.length c2) (.slice x1 D.length e1) (.slice x2 E.length e2) y m d y' m' d' w10 by rw [← hw10]; exact HA9.out.set8 _)
      have HO10 := hid (show OL eD 3 33 w10 W6.heap.size (.slice x1 D.length e1) D by
        rw [← hw10]
        exact OL.keep (OL.below HO8.out hb9) (grownBy_setCell'' w9 (w.heap.size + 1 + 1 + 1) 8 _) (fun g hg e => by have := (HO8.out.block_ge g hg).1; have := Hz6.out; cases e; omega))
      have HO11 := hid (show OL eD 3 33 w10 w8.heap.size (.slice x2 E.length e2) E by
        rw [← hw10]
        exact OL.keep ho9 (grownBy_setCell'' w9 (w.heap.size + 1 + 1 + 1) 8 _) (fun g hg e => by have := (ho9.block_ge g hg).1; have := Hz8.out; cases e; omega))
      have HQ0 := hid (show AQ w wk (.slice (some ⟨g1, f1, none⟩) D.length c1) (.slice (some ⟨g2, f2, none⟩) E.length c2) (.slice x1 D.length e1) (.slice x2 E.length e2) D E y m d y' m' d' w10 from ⟨HAq.out, K1.out.below HAq.out.2.2.2.2, K2.out.below HAq.out.2.2.2.2, OL.reads eD_len HO10.out, OL.reads eD_len HO11.out, HA.out.below HAq.out.2.2.2.2⟩)
      have C1 := hid (fun wx (h : AQ w wk (.slice (some ⟨g1, f1, none⟩) D.length c1) (.slice (some ⟨g2, f2, none⟩) E.length c2) (.slice x1 D.length e1) (.slice x2 E.length e2) D E y m d y' m' d' wx) => openR_any wk D E _ _ y m d wx h.2.1 h.2.2.1 h.2.2.2.2.2)
      have C2 := hid (fun wx (h : AQ w wk (.slice (some ⟨g1, f1, none⟩) D.length c1) (.slice (some ⟨g2, f2, none⟩) E.length c2) (.slice x1 D.length e1) (.slice x2 E.length e2) D E y m d y' m' d' wx) => refOpenR_any wk D E _ _ y m d wx h.2.2.2.1 h.2.2.2.2.1)
      have C3 := hid (fun wx (h : AQ w wk (.slice (some ⟨g1, f1, none⟩) D.length c1) (.slice (some ⟨g2, f2, none⟩) E.length c2) (.slice x1 D.length e1) (.slice x2 E.length e2) D E y m d y' m' d' wx) => moveR_any wk D E _ _ y m d n wx h.2.1 h.2.2.1 h.2.2.2.2.2)
      have C4 := hid (fun wx (h : AQ w wk (.slice (some ⟨g1, f1, none⟩) D.length c1) (.slice (some ⟨g2, f2, none⟩) E.length c2) (.slice x1 D.length e1) (.slice x2 E.length e2) D E y m d y' m' d' wx) => refMoveR_any wk D E _ _ y m d n wx h.2.2.2.1 h.2.2.2.2.1)
      have C5 := hid (fun wx (h : AQ w wk (.slice (some ⟨g1, f1, none⟩) D.length c1) (.slice (some ⟨g2, f2, none⟩) E.length c2) (.slice x1 D.length e1) (.slice x2 E.length e2) D E y m d y' m' d' wx) => count_any wk D E _ _ y m d y' m' d' wx h.2.1 h.2.2.1 h.2.2.2.2.2)
      have C6 := hid (fun wx (h : AQ w wk (.slice (some ⟨g1, f1, none⟩) D.length c1) (.slice (some ⟨g2, f2, none⟩) E.length c2) (.slice x1 D.length e1) (.slice x2 E.length e2) D E y m d y' m' d' wx) => refCount_any wk D E _ _ y m d y' m' d' wx h.2.2.2.1 h.2.2.2.2.1)
      unfold rlV dV at C1 C2 C3 C4 C5 C6
      unfold rlC at C1 C2 C3 C4 C5 C6
      clear ho9 hg9 hb9 HA8 HA9 HO8 HO10 HO11 HAq t7 t8 r7 r8 Hz8 Hz6 K1 K2
      obtain ⟨d0, d1, d2, _⟩ := HQ0.out.1.2.1.facts
      have hl := run_rlLd HQ0.out.1.1
      unfold rlC at hl
      go_wp2_with fail
      refine (C1.out _ HQ0.out).mono ?_
      rintro e w11 ⟨⟨a1, er1, rfl, hr1⟩, hb11⟩
      have R1 := hid hr1
      have HQ1 := hid (HQ0.out.later hb11)
      clear hr1 hb11 HQ0 hl d0 d1 d2 C1 hw10
      obtain ⟨d0, d1, d2, _⟩ := HQ1.out.1.2.1.facts
      have hl := run_rlLd HQ1.out.1.2.2.2.1
      unfold rlC at hl
      go_wp2_with fail
      refine (C2.out _ HQ1.out).mono ?_
      rintro e w12 ⟨⟨a2, er2, rfl, hr2⟩, hb12⟩
      obtain ⟨rfl, rfl⟩ := R1.out.same hr2
      have HQ2 := hid (HQ1.out.later hb12)
      clear hr2 hb12 HQ1 hl d0 d1 d2 C2 R1
      obtain ⟨d0, d1, d2, _⟩ := HQ2.out.1.2.1.facts
      have hl := run_rlLd HQ2.out.1.1
      unfold rlC at hl
      go_wp2_with fail
      refine (C3.out _ HQ2.out).mono ?_
      rintro e w13 ⟨⟨X0, X1, X2, er3, rfl, hr3⟩, hb13⟩
      have R3 := hid hr3
      obtain ⟨w14, hw14⟩ : ∃ w14, w13.alloc (.cells #[.int .i64 X0, .int .i64 X1, .int .i64 X2] 33) = w14 := ⟨_, rfl⟩
      have hb14 : Below w13.heap.size w13 w14 := by rw [← hw14]; exact alloc_below _ _
      have HX := hid (show Box w14 w13.heap.size X0 X1 X2 by rw [← hw14]; exact Box.new _ _ _ _)
      have HQ3 := hid ((HQ2.out.later hb13).later hb14)
      clear hr3 hb13 hb14 HQ2 hl d0 d1 d2 C3
      obtain ⟨d0, d1, d2, _⟩ := HQ3.out.1.2.1.facts
      have hl := run_rlLd HQ3.out.1.2.2.2.1
      unfold rlC at hl
      go_wp2_with fail
      refine (C4.out _ HQ3.out).mono ?_
      rintro e w15 ⟨⟨Y0, Y1, Y2, er4, rfl, hr4⟩, hb15⟩
      obtain ⟨hxy, rfl⟩ := R3.out.same hr4
      cases hxy
      obtain ⟨w16, hw16⟩ : ∃ w16, w15.alloc (.cells #[.int .i64 X0, .int .i64 X1, .int .i64 X2] 33) = w16 := ⟨_, rfl⟩
      have hb16 : Below w15.heap.size w15 w16 := by rw [← hw16]; exact alloc_below _ _
      have HX4 := hid ((HX.out.later hb15).later hb16)
      have HY4 := hid (show Box w16 w15.heap.size X0 X1 X2 by rw [← hw16]; exact Box.new _ _ _ _)
      have HQ4 := hid ((HQ3.out.later hb15).later hb16)
      clear hr4 hb15 hb16 HQ3 hl d0 d1 d2 C4 HX R3 hw14
      obtain ⟨d0, d1, d2, _⟩ := HQ4.out.1.2.1.facts
      obtain ⟨j0, j1, j2, _⟩ := HQ4.out.1.2.2.1.facts
      have hl := run_rlLd HQ4.out.1.1
      unfold rlC at hl
      go_wp2_with fail
      refine (C5.out _ HQ4.out).mono ?_
      rintro e w17 ⟨⟨cn, er5, rfl, hr5⟩, hb17⟩
      have R5 := hid hr5
      have HQ5 := hid (HQ4.out.later hb17)
      have HX5 := hid (HX4.out.later hb17)
      have HY5 := hid (HY4.out.later hb17)
      clear hr5 hb17 HQ4 HX4 HY4 hl d0 d1 d2 j0 j1 j2 C5 hw16
      obtain ⟨d0, d1, d2, _⟩ := HQ5.out.1.2.1.facts
      obtain ⟨j0, j1, j2, _⟩ := HQ5.out.1.2.2.1.facts
      have hl := run_rlLd HQ5.out.1.2.2.2.1
      unfold rlC at hl
      go_wp2_with fail
      refine (C6.out _ HQ5.out).mono ?_
      rintro e w18 ⟨⟨cn', er6, rfl, hr6⟩, hb18⟩
      obtain ⟨rfl, rfl⟩ := R5.out.same hr6
      have HQ6 := hid (HQ5.out.later hb18)
      have HX6 := hid (HX5.out.later hb18)
      have HY6 := hid (HY5.out.later hb18)
      clear hr6 hb18 HQ5 HX5 HY5 hl d0 d1 d2 j0 j1 j2 C6 R5
      obtain ⟨x0, x1', x2', _⟩ := HX6.out.facts
      obtain ⟨y0, y1, y2, _⟩ := HY6.out.facts
      go_wp2_with fail
      clear x0 x1' x2' y0 y1 y2 HX6 HY6
      have sd : LtB w18 w18.drew := (Below.refl _ _).drew
      have KX := hid (fun wx (h : LtB w18 wx) => (show ((wx.cell? ⟨w.heap.size, 7, none⟩ = some (.slice (some ⟨g1, f1, none⟩) D.length c1) ∧ wx.cell? ⟨w.heap.size, 8, none⟩ = some (.slice (some ⟨g2, f2, none⟩) E.length c2)) ∧ (wx.cell? ⟨w.heap.size + 1 + 1 + 1, 7, none⟩ = some (.slice x1 D.length e1) ∧ wx.cell? ⟨w.heap.size + 1 + 1 + 1, 8, none⟩ = some (.slice x2 E.length e2))) ∧ ((wx.cell? ⟨g1, f1 + D.length * 3, none⟩ = some (.int .i64 a) ∧ wx.cell? ⟨g1, f1 + D.length * 3 + 1, none⟩ = some (.int .i64 b) ∧ wx.cell? ⟨g1, f1 + D.length * 3 + 2, none⟩ = some (.int .i64 c)) ∧ (wx.cell? ⟨g2, f2 + E.length * 3, none⟩ = some (.int .i64 a) ∧ wx.cell? ⟨g2, f2 + E.length * 3 + 1, none⟩ = some (.int .i64 b) ∧ wx.cell? ⟨g2, f2 + E.length * 3 + 2, none⟩ = some (.int .i64 c))) ∧ (wx.cell? ⟨0, 0, none⟩ = some (.int .i64 a) ∧ wx.cell? ⟨0, 1, none⟩ = some (.int .i64 b) ∧ wx.cell? ⟨0, 2, none⟩ = some (.int .i64 c)) from by
        have hq := HQ6.out.later h
        have hb := hq.1.2.2.2.2
        have r := hq.1.1.facts.1.2.2.2.2.2.2.2
        have o := hq.1.2.2.2.1.facts.1.2.2.2.2.2.2.2
        exact ⟨⟨r, o⟩, ⟨⟨below_cells hb _ _ P1.out.1, below_cells hb _ _ P1.out.2.1, below_cells hb _ _ P1.out.2.2⟩, below_cells hb _ _ P2.out.1, below_cells hb _ _ P2.out.2.1, below_cells hb _ _ P2.out.2.2⟩, HMk.out.below hb⟩))
      have DT1 := hid (fun wx (h : LtB w18 wx) => dates_same (.slice (some ⟨g1, f1, none⟩) D.length c1) (.slice x1 D.length e1) D wx (HQ6.out.later h).2.1 (HQ6.out.later h).2.2.2.1 (by omega))
      have DT2 := hid (fun wx (h : LtB w18 wx) => dates_same (.slice (some ⟨g2, f2, none⟩) E.length c2) (.slice x2 E.length e2) E wx (HQ6.out.later h).2.2.1 (HQ6.out.later h).2.2.2.2.1 (by omega))
      have b1 : IntKind.i64.wrap (D.length : Int) = (D.length : Int) := by rw [IntKind.wrap_i64]; omega
      have b2 : IntKind.i64.wrap (E.length : Int) = (E.length : Int) := by rw [IntKind.wrap_i64]; omega
      have i1 : (D.length : Int) < (D.length : Int) + 1 := by omega
      have i2 : (E.length : Int) < (E.length : Int) + 1 := by omega
      first | go_region_held (fun wx => ((wx.cell? ⟨w.heap.size, 7, none⟩ = some (.slice (some ⟨g1, f1, none⟩) D.length c1) ∧ wx.cell? ⟨w.heap.size, 8, none⟩ = some (.slice (some ⟨g2, f2, none⟩) E.length c2)) ∧ (wx.cell? ⟨w.heap.size + 1 + 1 + 1, 7, none⟩ = some (.slice x1 D.length e1) ∧ wx.cell? ⟨w.heap.size + 1 + 1 + 1, 8, none⟩ = some (.slice x2 E.length e2))) ∧ ((wx.cell? ⟨g1, f1 + D.length * 3, none⟩ = some (.int .i64 a) ∧ wx.cell? ⟨g1, f1 + D.length * 3 + 1, none⟩ = some (.int .i64 b) ∧ wx.cell? ⟨g1, f1 + D.length * 3 + 2, none⟩ = some (.int .i64 c)) ∧ (wx.cell? ⟨g2, f2 + E.length * 3, none⟩ = some (.int .i64 a) ∧ wx.cell? ⟨g2, f2 + E.length * 3 + 1, none⟩ = some (.int .i64 b) ∧ wx.cell? ⟨g2, f2 + E.length * 3 + 2, none⟩ = some (.int .i64 c))) ∧ (wx.cell? ⟨0, 0, none⟩ = some (.int .i64 a) ∧ wx.cell? ⟨0, 1, none⟩ = some (.int .i64 b) ∧ wx.cell? ⟨0, 2, none⟩ = some (.int .i64 c))) (first | exact KX.out _ (by assumption) | go_keep) (first
        | (go_at_call 23; first
            | (refine (DT2.out _ s3).mono ?_; rintro e w20 ⟨rfl, hb4⟩; have s4 : LtB w18 w20 := LtB.call s3 hb4; clear hb4)
            | (refine (DT1.out _ sd).mono ?_; rintro e w19 ⟨rfl, hb3⟩; have s3 : LtB w18 w19 := LtB.call sd hb3; clear hb3))) | fail
      have HE := hid ((HQ6.out.later s4).1.2.2.2.2)
      clear s3 s4 sd
      go_wp2
      go_ret
      exact ⟨rfl, HE.out⟩
end Go.Proofs.YtipgmiblphfboaaDoor
