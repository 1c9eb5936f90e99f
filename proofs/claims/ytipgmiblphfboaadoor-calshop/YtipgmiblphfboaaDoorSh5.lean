/-
  along: the func that says day by day whether the shop is open, as it is made.
-/
import Derived.Test.YtipgmiblphfboaaDoorSh4
namespace Go.Proofs.YtipgmiblphfboaaDoor
open Go.RowKit
set_option maxRecDepth 100000

/-- a shop's cells, its value, its block -/
def shC (wk : Nat → Bool) (v : Value) : Array Value := #[.bool (wk 0), .bool (wk 1), .bool (wk 2), .bool (wk 3), .bool (wk 4), .bool (wk 5), .bool (wk 6), v]
def shV (wk : Nat → Bool) (v : Value) : Value := .agg (shC wk v)
def SB (w : World) (b : Nat) (wk : Nat → Bool) : Prop := ∃ v, w.heap[b]? = some (.cells (shC wk v) 46 (0, 0))
theorem SB.later {w w' : World} {b : Nat} {wk : Nat → Bool} (h : SB w b wk) (hb : Below w.heap.size w w') : SB w' b wk := by
  obtain ⟨v, hv⟩ := h
  exact ⟨v, (hb.block b (Array.getElem?_eq_some_iff.1 hv).1).trans hv⟩
/-- the func's four blocks: the special days to come, the day, the step, the shop -/
def AL (w : World) (gl gd gs gh : Nat) (wk : Nat → Bool) (s : Int) (L : List (Int × Bool)) (n : Int) : Prop :=
  (∃ v, Boxed w gl 44 v ∧ RL eS 2 w v L) ∧ IBox w gd n ∧ IBox w gs s ∧ SB w gh wk ∧ gl ≠ gd ∧ gl ≠ gs ∧ gd ≠ gs ∧ gh ≠ gl ∧ gh ≠ gd
theorem AL.later {w w' : World} {gl gd gs gh : Nat} {wk : Nat → Bool} {s : Int} {L : List (Int × Bool)} {n : Int} (h : AL w gl gd gs gh wk s L n) (hb : Below w.heap.size w w') : AL w' gl gd gs gh wk s L n := by
  obtain ⟨⟨v, h1, h2⟩, h3, h4, h5, hr⟩ := h
  exact ⟨⟨v, (hb.block _ h1.lt).trans h1, h2.below hb⟩, h3.later hb, h4.later hb, h5.later hb, hr⟩
theorem AL.lt {w : World} {gl gd gs gh : Nat} {wk : Nat → Bool} {s : Int} {L : List (Int × Bool)} {n : Int} (h : AL w gl gd gs gh wk s L n) : gl < w.heap.size ∧ gd < w.heap.size ∧ gs < w.heap.size ∧ gh < w.heap.size := by
  obtain ⟨⟨v, h1, h2⟩, h3, h4, ⟨v', h5⟩, hr⟩ := h
  exact ⟨h1.lt, h3.facts.2.2, h4.facts.2.2, (Array.getElem?_eq_some_iff.1 h5).1⟩

set_option maxHeartbeats 1000000 in
theorem along_any (wk : Nat → Bool) (L : List (Int × Bool)) (ad : Addr) (cap : Nat) (n s : Int) (w : World) (hr : RL eS 2 w (.slice (some ad) L.length cap) L) (hl : L.length ≤ 2000) (hs : s = 1 ∨ s = -1) :
    Calls Tryd.prog 16 #[shV wk (.slice (some ad) L.length cap), .int .i64 n, .int .i64 s] w fun e w' => (∃ gl gd gs gh, e = .returned (.func (.func 30) #[] #[.pointer (some ⟨gl, 0, none⟩), .pointer (some ⟨gd, 0, none⟩), .pointer (some ⟨gs, 0, none⟩), .pointer (some ⟨gh, 0, none⟩)]) ∧
      w.heap.size ≤ gl ∧ w.heap.size ≤ gd ∧ w.heap.size ≤ gs ∧ w.heap.size ≤ gh ∧ AL w' gl gd gs gh wk s (if s < 0 then L.reverse else L) n) ∧ Below w.heap.size w w' := by
  have hmf : ∀ (fn : Fn) (first cap : Array Value) (w : World), (Instr.makeFunc fn first cap).run Tryd.prog w = .ok (.func fn first cap) w := fun _ _ _ _ => rfl
  obtain ⟨L2, hL2⟩ : ∃ L2, (if s < 0 then L.reverse else L) = L2 := ⟨_, rfl⟩
  rw [hL2]
  have HL2 := hid hL2
  clear hL2
  unfold shV shC
  obtain ⟨W3, hW3⟩ : ∃ W3, ((w.alloc (.cells #[.bool (wk 0), .bool (wk 1), .bool (wk 2), .bool (wk 3), .bool (wk 4), .bool (wk 5), .bool (wk 6), .slice (some ad) L.length cap] 46)).alloc (.cells #[.int .i64 n] 3)).alloc (.cells #[.int .i64 s] 3) = W3 := ⟨_, rfl⟩
  have hB3 : Below w.heap.size w W3 := by
    rw [← hW3]
    exact (((Below.refl _ _).alloc (Nat.le_refl _) _).alloc (by simp) _).alloc (by simp; omega) _
  have hz3 : W3.heap.size = w.heap.size + 3 := by rw [← hW3]; simp
  have hSb : W3.heap[w.heap.size]? = some (.cells (shC wk (.slice (some ad) L.length cap)) 46 (0, 0)) := by
    rw [← hW3]
    exact ((alloc_below _ _).block _ (by simp; omega)).trans (((alloc_below _ _).block _ (by simp)).trans (heap_alloc_new _ _))
  have hD : IBox W3 (w.heap.size + 1) n := by
    rw [← hW3]
    have h : IBox ((w.alloc (.cells #[.bool (wk 0), .bool (wk 1), .bool (wk 2), .bool (wk 3), .bool (wk 4), .bool (wk 5), .bool (wk 6), .slice (some ad) L.length cap] 46)).alloc (.cells #[.int .i64 n] 3)) _ n := heap_alloc_new _ _
    rw [World.size_alloc] at h
    exact h.later (alloc_below _ _)
  have hS : IBox W3 (w.heap.size + 1 + 1) s := by
    rw [← hW3]
    have h : IBox (((w.alloc (.cells #[.bool (wk 0), .bool (wk 1), .bool (wk 2), .bool (wk 3), .bool (wk 4), .bool (wk 5), .bool (wk 6), .slice (some ad) L.length cap] 46)).alloc (.cells #[.int .i64 n] 3)).alloc (.cells #[.int .i64 s] 3)) _ s := heap_alloc_new _ _
    simp only [World.size_alloc] at h
    exact h
  have c7 : W3.cell? ⟨w.heap.size, 7, none⟩ = some (.slice (some ad) L.length cap) := by rw [Lib.cell_of_heap hSb]; rfl
  have HC := hid (cloneS_any ad cap L W3 (hr.below hB3) hl)
  have HSb := hid hSb
  have HD := hid hD
  have HS := hid hS
  have HB3 := hid hB3
  clear hr hSb hD hS hB3
  go_enter Tryd.func16, Tryd.ntmps16
  go_wp2_with fail
  refine HC.out.mono ?_
  rintro e w4 ⟨⟨v', rfl, ho, g, c, rfl⟩, hb4⟩
  have hz4 : w.heap.size + 3 ≤ w4.heap.size := by have := hb4.size; omega
  obtain ⟨w5, hw5⟩ : ∃ w5, w4.alloc (.cells #[.slice (some ⟨g, 0, none⟩) L.length c] 44) = w5 := ⟨_, rfl⟩
  have hb5 : Below W3.heap.size W3 w5 := by rw [← hw5]; exact hb4.alloc hb4.size _
  have hgl := ho.block_ge g rfl
  have hL5 : Boxed w5 w4.heap.size 44 (.slice (some ⟨g, 0, none⟩) L.length c) := by rw [← hw5]; exact Boxed.new _ _ _
  have hz5 : w5.heap.size = w4.heap.size + 1 := by rw [← hw5]; simp
  have HO5 := hid (show OL eS 2 66 w5 W3.heap.size (.slice (some ⟨g, 0, none⟩) L.length c) L by rw [← hw5]; exact ho.alloc _)
  have HD5 := hid (HD.out.later hb5)
  have HS5 := hid (HS.out.later hb5)
  have HSb5 := hid ((hb5.block w.heap.size (by omega)).trans HSb.out)
  have HB5 := hid (HB3.out.trans (hb5.mono HB3.out.size))
  have cs := HS5.out.facts.1
  have cl := hL5.cell
  have HL5 := hid hL5
  clear hb4 hb5 ho HD HS HSb HB3 HC c7 hL5
  have hn1 : ¬ w4.heap.size = w.heap.size + 1 + 1 := by omega
  rcases hs with rfl | rfl
  · have hL2 : L = L2 := by have := HL2.out; rwa [if_neg (by omega)] at this
    subst hL2
    go_wp2
    go_ret
    exact ⟨⟨_, _, _, _, rfl, by omega, by omega, by omega, by omega, ⟨⟨_, HL5.out, OL.reads eS_len HO5.out⟩, HD5.out, HS5.out, ⟨_, HSb5.out⟩, by omega, by omega, by omega, by omega, by omega⟩⟩, HB5.out⟩
  · have hL2 : L.reverse = L2 := by have := HL2.out; rwa [if_pos (by omega)] at this
    subst hL2
    have HV := hid (reverseS_any L g c W3.heap.size w5 HO5.out hl)
    go_wp2_with fail
    refine HV.out.mono ?_
    rintro e w6 ⟨rfl, hr6, hg6⟩
    have hk : ∀ k, k < w5.heap.size → k ≠ g → w6.heap[k]? = w5.heap[k]? := fun k hk hne => hg6.block k hk (fun e => hne (by cases e; rfl))
    have H6 := hid (show (∃ v, Boxed w6 w4.heap.size 44 v ∧ RL eS 2 w6 v L.reverse) from ⟨_, (hk _ (by omega) (by omega)).trans HL5.out, hr6⟩)
    have HB6 := hid (HB5.out.grown hg6 (by omega) (fun k e => by cases e; omega))
    have HD6 := hid (show IBox w6 (w.heap.size + 1) n from (hk _ (by omega) (by omega)).trans HD5.out)
    have HS6 := hid (show IBox w6 (w.heap.size + 1 + 1) (-1) from (hk _ (by omega) (by omega)).trans HS5.out)
    have HSb6 := hid (show SB w6 w.heap.size wk from ⟨_, (hk _ (by omega) (by omega)).trans HSb5.out⟩)
    clear hr6 hg6 hk
    go_wp2
    go_ret
    exact ⟨⟨_, _, _, _, rfl, by omega, by omega, by omega, by omega, ⟨H6.out, HD6.out, HS6.out, HSb6.out, by omega, by omega, by omega, by omega, by omega⟩⟩, HB6.out⟩
end Go.Proofs.YtipgmiblphfboaaDoor
