/-
  Few: its memory between two steps; putsAside of any steps.
-/
import Derived.Test.YtaiccmbhdgecgaaGw1
import Derived.Test.YtaiccmbhdgecgaaRgC
import Derived.Test.YtaiccmbhdgecgaaAp0
import Derived.RangeFuncBox
import Derived.OwnWalkIn
namespace Go.Proofs.Ytaiccmbhdgecgaa
open Go.RowKit Go.Shelf
set_option maxRecDepth 100000

theorem OI.pop {w : World} {base g n cap : Nat} {L : List Int} {x : Int} (h : OI w base (.slice (some ⟨g, 0, none⟩) (n + 1) cap) (L ++ [x])) (hn : L.length = n) : OI w base (.slice (some ⟨g, 0, none⟩) n cap) L := by
  refine ⟨by rw [ic_len]; exact (Nat.mul_one _).symm, ?_⟩
  rcases h.2 with ⟨h2, _⟩ | ⟨g', cap', cur, hv, hg, hh, hc, hm, hsz, htk⟩
  · cases h2
  · injection hv with e1 e2 e3
    injection e1 with e1
    injection e1 with e1
    subst e1 e3
    refine .inr ⟨g, cap, cur, by rw [hn], hg, hh, by rw [List.length_append] at hc; omega, hm, hsz, ?_⟩
    have e9 : cur.toList.take (L.length * 1) = (cur.toList.take ((L ++ [x]).length * 1)).take (L.length * 1) := by rw [List.take_take, List.length_append]; congr 1; omega
    rw [e9, htk, ic_app]
    exact List.take_left' (by rw [ic_len]; omega)
theorem OI.stay {w w' : World} {base : Nat} {v : Value} {L : List Int} (h : OI w base v L) (hk : ∀ g, v.ownBlock = some g → w'.heap[g]? = w.heap[g]?) : OI w' base v L := by
  refine ⟨h.1, ?_⟩
  rcases h.2 with hn | ⟨g, cap, cur, rfl, h0, hg, h1⟩
  · exact .inl hn
  · exact .inr ⟨g, cap, cur, rfl, h0, (hk g rfl).trans hg, h1⟩
/-- eight blocks of its own: yield, left, its row (and what Clone made ahead of it), places, picks, their row, search -/
structure ID (wB bY bL aL bP bX aX bS : Nat) : Prop where
  y : bY = wB
  l : wB < bL ∧ bL < wB + 5
  a : wB < aL ∧ aL < wB + 5
  p : wB < bP ∧ bP < wB + 5
  la : bL ≠ aL
  lp : bL ≠ bP
  ap : aL ≠ bP
  ax : aX = wB + 5
  x : bX = wB + 6
  s : bS = wB + 7
def capsF (bY bL bP bX bS : Nat) : Array Value := #[.pointer (some ⟨bX, 0, none⟩), .pointer (some ⟨bP, 0, none⟩), .pointer (some ⟨bY, 0, none⟩), .pointer (some ⟨bL, 0, none⟩), .pointer (some ⟨bS, 0, none⟩)]
/-- between two steps of the search: N is left, P is picked -/
structure FS (wB bY bL aL bP bX aX bS n cL pl l : Nat) (W : World) (N P : List Nat) : Prop where
  sz : wB + 8 ≤ W.heap.size
  y : Boxed W bY 59 (.func (.yield l) #[] #[])
  l : Boxed W bL 22 (.slice (some ⟨aL, 0, none⟩) n cL)
  a : OI W wB (.slice (some ⟨aL, 0, none⟩) n cL) (iN N)
  p : Boxed W bP 3 (.int .i64 (pl : Int))
  x : Boxed W bX 22 (.slice (some ⟨aX, 0, none⟩) P.length pl)
  r : OI W wB (.slice (some ⟨aX, 0, none⟩) P.length pl) (iN P)
  s : Boxed W bS 66 (.func (.func 40) #[] (capsF bY bL bP bX bS))
  len : N.length = n
section
variable {wB bY bL aL bP bX aX bS n cL pl l : Nat} {W W' : World} {N P : List Nat}
theorem FS.keep (hi : ID wB bY bL aL bP bX aX bS) (h : FS wB bY bL aL bP bX aX bS n cL pl l W N P) (hz : W.heap.size ≤ W'.heap.size) (hk : ∀ g, wB ≤ g → g < wB + 8 → W'.heap[g]? = W.heap[g]?) : FS wB bY bL aL bP bX aX bS n cL pl l W' N P := by
  have h1 := hi.l; have h2 := hi.a; have h3 := hi.p; have h4 := hi.ax; have h5 := hi.x; have h6 := hi.s; have h7 := hi.y
  exact ⟨Nat.le_trans h.sz hz, (hk _ (by omega) (by omega)).trans h.y, (hk _ (by omega) (by omega)).trans h.l, h.a.stay (fun g e => (Option.some.inj (show some aL = some g from e)) ▸ hk _ (by omega) (by omega)), (hk _ (by omega) (by omega)).trans h.p, (hk _ (by omega) (by omega)).trans h.x, h.r.stay (fun g e => (Option.some.inj (show some aX = some g from e)) ▸ hk _ (by omega) (by omega)), (hk _ (by omega) (by omega)).trans h.s, h.len⟩
theorem FS.later (hi : ID wB bY bL aL bP bX aX bS) (h : FS wB bY bL aL bP bX aX bS n cL pl l W N P) (hb : Below W.heap.size W W') : FS wB bY bL aL bP bX aX bS n cL pl l W' N P := h.keep hi hb.size fun g h1 h2 => hb.block g (by have := h.sz; omega)
theorem FS.kpw {B0 : Nat} (hi : ID wB bY bL aL bP bX aX bS) (h : FS wB bY bL aL bP bX aX bS n cL pl l W N P) (hb : KpW B0 wB 8 W W') : FS wB bY bL aL bP bX aX bS n cL pl l W' N P := h.keep hi hb.size fun g h1 h2 => hb.block g (.inr ⟨h1, h2⟩)
/-- a step less of handler h -/
theorem FS.down (hi : ID wB bY bL aL bP bX aX bS) (h : FS wB bY bL aL bP bX aX bS n cL pl l W N P) (j : Nat) (x : Int) (N2 : List Nat) (hN : (iN N).set j x = iN N2) : FS wB bY bL aL bP bX aX bS n cL pl l (W.setCell ⟨aL, j, none⟩ (.int .i64 x)) N2 P ∧ Chg wB 8 W (W.setCell ⟨aL, j, none⟩ (.int .i64 x)) := by
  have h1 := hi.l; have h2 := hi.a; have h3 := hi.p; have h4 := hi.ax; have h5 := hi.x; have h6 := hi.s; have h7 := hi.y; have h8 := hi.la; have h9 := hi.ap
  have gb := gb_set W aL j (.int .i64 x)
  have hk : ∀ g, g < wB + 8 → g ≠ aL → (W.setCell ⟨aL, j, none⟩ (.int .i64 x)).heap[g]? = W.heap[g]? := fun g hg hne => gb.block g (by have := h.sz; omega) (fun e => by injection e with e; exact hne e)
  refine ⟨⟨by simpa using h.sz, (hk _ (by omega) (by omega)).trans h.y, (hk _ (by omega) (by omega)).trans h.l, ?_, (hk _ (by omega) (by omega)).trans h.p, (hk _ (by omega) (by omega)).trans h.x, h.r.stay (fun g e => (Option.some.inj (show some aX = some g from e)) ▸ hk _ (by omega) (by omega)), (hk _ (by omega) (by omega)).trans h.s, ?_⟩, ?_⟩
  · have := h.a.set (i := j) x
    rw [hN] at this
    exact this
  · have := congrArg List.length hN
    rw [List.length_set, iN_len, iN_len] at this
    rw [← this]
    exact h.len
  · exact ⟨gb.os, gb.tape, gb.output, gb.size, fun k hk hn => gb.block k hk (fun e => by injection e with e; exact hn ⟨by omega, by omega⟩)⟩
/-- a pick more -/
theorem FS.push (hi : ID wB bY bL aL bP bX aX bS) (h : FS wB bY bL aL bP bX aX bS n cL pl l W N P) (o : Obj) {w7 : World} (j : Nat) (hg : (W.alloc o).grownBy w7 (some aX)) (ho : OI w7 wB (.slice (some ⟨aX, 0, none⟩) (P.length + 1) pl) (iN P ++ [(j : Int)])) :
    FS wB bY bL aL bP bX aX bS n cL pl l (w7.setCell ⟨bX, 0, none⟩ (.slice (some ⟨aX, 0, none⟩) (P.length + 1) pl)) N (P ++ [j]) ∧ Chg wB 8 W (w7.setCell ⟨bX, 0, none⟩ (.slice (some ⟨aX, 0, none⟩) (P.length + 1) pl)) ∧ w7.cell? ⟨bX, 0, none⟩ = some (.slice (some ⟨aX, 0, none⟩) P.length pl) ∧ w7.frozen? ⟨bX, 0, none⟩ = false := by
  have h1 := hi.l; have h2 := hi.a; have h3 := hi.p; have h4 := hi.ax; have h5 := hi.x; have h6 := hi.s; have h7 := hi.y
  have hsz := h.sz
  have hzg : W.heap.size + 1 ≤ w7.heap.size := by have := hg.size; simpa using this
  have old : ∀ g, g < W.heap.size → g ≠ aX → w7.heap[g]? = W.heap[g]? := fun g hlt hne => (hg.block g (by simp; omega) (fun e => by injection e with e; exact hne e)).trans (Lib.alloc_old W o g hlt)
  have hx7 : Boxed w7 bX 22 (.slice (some ⟨aX, 0, none⟩) P.length pl) := (old _ (by omega) (by omega)).trans h.x
  have gb := gb_set w7 bX 0 (.slice (some ⟨aX, 0, none⟩) (P.length + 1) pl)
  have hk : ∀ g, g < W.heap.size → g ≠ aX → g ≠ bX → (w7.setCell ⟨bX, 0, none⟩ (.slice (some ⟨aX, 0, none⟩) (P.length + 1) pl)).heap[g]? = W.heap[g]? := fun g hg hne hne2 => (gb.block g (by omega) (fun e => by injection e with e; exact hne2 e)).trans (old g hg hne)
  refine ⟨⟨by simp; omega, (hk _ (by omega) (by omega) (by omega)).trans h.y, (hk _ (by omega) (by omega) (by omega)).trans h.l, h.a.stay (fun g e => (Option.some.inj (show some aL = some g from e)) ▸ hk _ (by omega) (by omega) (by omega)), (hk _ (by omega) (by omega) (by omega)).trans h.p, ?_, ?_, (hk _ (by omega) (by omega) (by omega)).trans h.s, h.len⟩, ?_, hx7.cell, hx7.frozen⟩
  · rw [List.length_append, List.length_singleton]
    exact hx7.set _
  · rw [List.length_append, List.length_singleton, show iN (P ++ [j]) = iN P ++ [(j : Int)] by simp [iN]]
    exact ho.stay (fun g e => (Option.some.inj (show some aX = some g from e)) ▸ gb.block _ (by omega) (fun e => by injection e with e; omega))
  · exact ⟨by show w7.os = _; rw [hg.os]; rfl, by show w7.tape = _; rw [hg.tape]; rfl, by show w7.output = _; rw [hg.output]; rfl, by simp; omega, fun k hk' hn => hk k hk' (fun e => hn (by omega)) (fun e => hn (by omega))⟩
/-- a pick less -/
theorem FS.pop {j : Nat} (hi : ID wB bY bL aL bP bX aX bS) (h : FS wB bY bL aL bP bX aX bS n cL pl l W N (P ++ [j])) :
    FS wB bY bL aL bP bX aX bS n cL pl l (W.setCell ⟨bX, 0, none⟩ (.slice (some ⟨aX, 0, none⟩) P.length pl)) N P ∧ Chg wB 8 W (W.setCell ⟨bX, 0, none⟩ (.slice (some ⟨aX, 0, none⟩) P.length pl)) := by
  have h1 := hi.l; have h2 := hi.a; have h3 := hi.p; have h4 := hi.ax; have h5 := hi.x; have h6 := hi.s; have h7 := hi.y
  have hsz := h.sz
  have gb := gb_set W bX 0 (.slice (some ⟨aX, 0, none⟩) P.length pl)
  have hk : ∀ g, g < W.heap.size → g ≠ bX → (W.setCell ⟨bX, 0, none⟩ (.slice (some ⟨aX, 0, none⟩) P.length pl)).heap[g]? = W.heap[g]? := fun g hg hne => gb.block g hg (fun e => by injection e with e; exact hne e)
  refine ⟨⟨by simpa using h.sz, (hk _ (by omega) (by omega)).trans h.y, (hk _ (by omega) (by omega)).trans h.l, h.a.stay (fun g e => (Option.some.inj (show some aL = some g from e)) ▸ hk _ (by omega) (by omega)), (hk _ (by omega) (by omega)).trans h.p, ?_, ?_, (hk _ (by omega) (by omega)).trans h.s, h.len⟩, ?_⟩
  · exact Boxed.set _ h.x
  · have hr := h.r
    rw [List.length_append, List.length_singleton, show iN (P ++ [j]) = iN P ++ [(j : Int)] by simp [iN]] at hr
    exact (hr.pop (by rw [iN_len])).stay (fun g e => (Option.some.inj (show some aX = some g from e)) ▸ hk _ (by omega) (by omega))
  · exact ⟨gb.os, gb.tape, gb.output, gb.size, fun k hk' hn => gb.block k hk' (fun e => by injection e with e; exact hn (by omega))⟩
end
set_option maxHeartbeats 400000 in
theorem aside2_any (v : Value) (N : List Nat) (h : Nat) (l : Int) (w : World) (hv : RI w v (iN N)) (hl : l = -1 ∨ ∃ k : Nat, k < N.length ∧ l = (k : Int)) :
    Calls Try.prog 41 #[v, .int .i64 l, .int .i64 (h : Int)] w fun e w' => e = .returned (.bool (asd (iN N) l h)) ∧ w' = w := by
  obtain ⟨ao, cap, rfl, hc, hn0, hcell⟩ := hv
  rw [iN_len] at hc
  have HC := hid hcell
  clear hcell hn0
  rw [iN_len]
  go_enter Try.func41, Try.ntmps41
  rcases hl with rfl | ⟨k, hk, rfl⟩
  · go_wp2
    go_ret
    exact ⟨rfl, rfl⟩
  · obtain ⟨g, off, hao, c0⟩ := HC.out k (by rw [iN_len]; exact hk)
    subst hao
    rw [iN_at N k _ hk] at c0
    have h1 : ¬ (k : Int) < 0 := by omega
    have hkI : (k : Int) < (N.length : Int) := by omega
    by_cases he : k = h
    · subst he
      have HF := hid (show asd (iN N) (k : Int) k = false by simp [asd])
      have hb : ((k : Int) == (k : Int)) = true := by simp
      go_wp2
      go_ret
      rw [HF.out]
      exact ⟨rfl, rfl⟩
    · have hb : ((k : Int) == (h : Int)) = false := beq_eq_false_iff_ne.2 (by omega)
      have hbn : ((k : Int) != (h : Int)) = true := by simp; omega
      have HF := hid (show asd (iN N) (k : Int) h = decide (0 < N[k]) by
        unfold asd
        rw [Int.toNat_natCast, iN_getD, gN N k hk, decide_eq_true (show (0 : Int) ≤ (k : Int) by omega), decide_eq_false (show ¬ (k : Int) = (h : Int) by omega)]
        by_cases c : 0 < N[k]
        · rw [decide_eq_true c, decide_eq_true (by omega)]
          rfl
        · rw [decide_eq_false c, decide_eq_false (by omega)]
          rfl)
      generalize N[k] = x at *
      by_cases hx : 0 < x
      · have hxI : (0 : Int) < (x : Int) := by omega
        have hdx : decide (0 < x) = true := decide_eq_true hx
        clear he
        go_wp2
        go_ret
        rw [HF.out, hdx]
        first
          | exact ⟨rfl, rfl⟩
          | exact ⟨by show Ending.returned (Value.bool ((k : Int) != (h : Int))) = _; rw [hbn], rfl⟩
      · have hxI : ¬ (0 : Int) < (x : Int) := by omega
        have hdx : decide (0 < x) = false := decide_eq_false hx
        clear he
        go_wp2
        go_ret
        rw [HF.out, hdx]
        exact ⟨rfl, rfl⟩
end Go.Proofs.Ytaiccmbhdgecgaa
