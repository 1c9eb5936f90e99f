/-
  Gw2: Few: its memory between two steps; putsAside of any steps.
  Gw4: Clone, with how many blocks it makes.
  Mn9: Two mixes of the same steps: the one with more ahead of it is greater (pure); its counts as the law asks.
  Sw2: Switches: the program's, every answer; the document's; they are the same.
  Gw6: Few: what it goes over are the mixes with few switches, in order (pure).
  Gw8: Lists that are alike come from each other by swaps (pure); alike, every answer.
-/
import Derived.Test.YtaiccmbhdgecgaaSmA
import Derived.Test.YtaiccmbhdgecgaaRgC
import Derived.Test.YtaiccmbhdgecgaaAp0
import Derived.RangeFuncBox
import Derived.OwnWalkIn
import Derived.Test.YtaiccmbhdgecgaaLq3
import Derived.Test.YtaiccmbhdgecgaaSw1
import Derived.Deep.QuietTactic
import Derived.BigQuiet
import Derived.Test.YtaiccmbhdgecgaaLq5
namespace Go.Proofs.Ytaiccmbhdgecgaa
open Go.RowKit Go.Shelf
set_option maxRecDepth 100000

theorem OI.pop {w : World} {base g n cap : Nat} {L : List Int} {x : Int} (h : OI w base (.slice (some ⟨g, 0, none⟩) (n + 1) cap) (L ++ [x])) (hn : L.length = n) : OI w base (.slice (some ⟨g, 0, none⟩) n cap) L := by
  refine ⟨by rw [ic_len]; exact (Nat.mul_one _).symm, ?_⟩
  rcases h.2 with ⟨h2, _⟩ | ⟨g', cap', cur, hv, hg, hh, hc, hm, hsz, htk⟩
  · cases h2
  · injection hv with e1 e2 e3
    injection e1 with e1
    injection e1 with e1
    subst e1 e3
    refine .inr ⟨g, cap, cur, by rw [hn], hg, hh, by rw [List.length_append] at hc; omega, hm, hsz, ?_⟩
    have e9 : cur.toList.take (L.length * 1) = (cur.toList.take ((L ++ [x]).length * 1)).take (L.length * 1) := by rw [List.take_take, List.length_append]; congr 1; omega
    rw [e9, htk, ic_app]
    exact List.take_left' (by rw [ic_len]; omega)
theorem OI.stay {w w' : World} {base : Nat} {v : Value} {L : List Int} (h : OI w base v L) (hk : ∀ g, v.ownBlock = some g → w'.heap[g]? = w.heap[g]?) : OI w' base v L := by
  refine ⟨h.1, ?_⟩
  rcases h.2 with hn | ⟨g, cap, cur, rfl, h0, hg, h1⟩
  · exact .inl hn
  · exact .inr ⟨g, cap, cur, rfl, h0, (hk g rfl).trans hg, h1⟩
/-- eight blocks of its own: yield, left, its row (and what Clone made ahead of it), places, picks, their row, search -/
structure ID (wB bY bL aL bP bX aX bS : Nat) : Prop where
  y : bY = wB
  l : wB < bL ∧ bL < wB + 5
  a : wB < aL ∧ aL < wB + 5
  p : wB < bP ∧ bP < wB + 5
  la : bL ≠ aL
  lp : bL ≠ bP
  ap : aL ≠ bP
  ax : aX = wB + 5
  x : bX = wB + 6
  s : bS = wB + 7
def capsF (bY bL bP bX bS : Nat) : Array Value := #[.pointer (some ⟨bX, 0, none⟩), .pointer (some ⟨bP, 0, none⟩), .pointer (some ⟨bY, 0, none⟩), .pointer (some ⟨bL, 0, none⟩), .pointer (some ⟨bS, 0, none⟩)]
/-- between two steps of the search: N is left, P is picked -/
structure FwM (wB bY bL aL bP bX aX bS n cL pl l : Nat) (W : World) (N P : List Nat) : Prop where
  sz : wB + 8 ≤ W.heap.size
  y : Boxed W bY 59 (.func (.yield l) #[] #[])
  l : Boxed W bL 22 (.slice (some ⟨aL, 0, none⟩) n cL)
  a : OI W wB (.slice (some ⟨aL, 0, none⟩) n cL) (iN N)
  p : Boxed W bP 3 (.int .i64 (pl : Int))
  x : Boxed W bX 22 (.slice (some ⟨aX, 0, none⟩) P.length pl)
  r : OI W wB (.slice (some ⟨aX, 0, none⟩) P.length pl) (iN P)
  s : Boxed W bS 66 (.func (.func 40) #[] (capsF bY bL bP bX bS))
  len : N.length = n
section
variable {wB bY bL aL bP bX aX bS n cL pl l : Nat} {W W' : World} {N P : List Nat}
theorem FwM.keep (hi : ID wB bY bL aL bP bX aX bS) (h : FwM wB bY bL aL bP bX aX bS n cL pl l W N P) (hz : W.heap.size ≤ W'.heap.size) (hk : ∀ g, wB ≤ g → g < wB + 8 → W'.heap[g]? = W.heap[g]?) : FwM wB bY bL aL bP bX aX bS n cL pl l W' N P := by
  have h1 := hi.l; have h2 := hi.a; have h3 := hi.p; have h4 := hi.ax; have h5 := hi.x; have h6 := hi.s; have h7 := hi.y
  exact ⟨Nat.le_trans h.sz hz, (hk _ (by omega) (by omega)).trans h.y, (hk _ (by omega) (by omega)).trans h.l, h.a.stay (fun g e => (Option.some.inj (show some aL = some g from e)) ▸ hk _ (by omega) (by omega)), (hk _ (by omega) (by omega)).trans h.p, (hk _ (by omega) (by omega)).trans h.x, h.r.stay (fun g e => (Option.some.inj (show some aX = some g from e)) ▸ hk _ (by omega) (by omega)), (hk _ (by omega) (by omega)).trans h.s, h.len⟩
theorem FwM.later (hi : ID wB bY bL aL bP bX aX bS) (h : FwM wB bY bL aL bP bX aX bS n cL pl l W N P) (hb : Below W.heap.size W W') : FwM wB bY bL aL bP bX aX bS n cL pl l W' N P := h.keep hi hb.size fun g h1 h2 => hb.block g (by have := h.sz; omega)
theorem FwM.kpw {Lo B0 : Nat} (hi : ID wB bY bL aL bP bX aX bS) (h : FwM wB bY bL aL bP bX aX bS n cL pl l W N P) (hb : KpM Lo B0 wB 8 W W') : FwM wB bY bL aL bP bX aX bS n cL pl l W' N P := h.keep hi hb.size fun g h1 h2 => hb.block g (.inr ⟨h1, h2⟩)
/-- a step less of handler h -/
theorem FwM.down (hi : ID wB bY bL aL bP bX aX bS) (h : FwM wB bY bL aL bP bX aX bS n cL pl l W N P) (j : Nat) (x : Int) (N2 : List Nat) (hN : (iN N).set j x = iN N2) : FwM wB bY bL aL bP bX aX bS n cL pl l (W.setCell ⟨aL, j, none⟩ (.int .i64 x)) N2 P ∧ Chg wB 8 W (W.setCell ⟨aL, j, none⟩ (.int .i64 x)) := by
  have h1 := hi.l; have h2 := hi.a; have h3 := hi.p; have h4 := hi.ax; have h5 := hi.x; have h6 := hi.s; have h7 := hi.y; have h8 := hi.la; have h9 := hi.ap
  have gb := gb_set W aL j (.int .i64 x)
  have hk : ∀ g, g < wB + 8 → g ≠ aL → (W.setCell ⟨aL, j, none⟩ (.int .i64 x)).heap[g]? = W.heap[g]? := fun g hg hne => gb.block g (by have := h.sz; omega) (fun e => by injection e with e; exact hne e)
  refine ⟨⟨by simpa using h.sz, (hk _ (by omega) (by omega)).trans h.y, (hk _ (by omega) (by omega)).trans h.l, ?_, (hk _ (by omega) (by omega)).trans h.p, (hk _ (by omega) (by omega)).trans h.x, h.r.stay (fun g e => (Option.some.inj (show some aX = some g from e)) ▸ hk _ (by omega) (by omega)), (hk _ (by omega) (by omega)).trans h.s, ?_⟩, ?_⟩
  · have := h.a.set (i := j) x
    rw [hN] at this
    exact this
  · have := congrArg List.length hN
    rw [List.length_set, iN_len, iN_len] at this
    rw [← this]
    exact h.len
  · exact ⟨gb.os, gb.tape, gb.output, gb.size, fun k hk hn => gb.block k hk (fun e => by injection e with e; exact hn ⟨by omega, by omega⟩)⟩
/-- a pick more -/
theorem FwM.push (hi : ID wB bY bL aL bP bX aX bS) (h : FwM wB bY bL aL bP bX aX bS n cL pl l W N P) (o : Obj) {w7 : World} (j : Nat) (hg : (W.alloc o).grownBy w7 (some aX)) (ho : OI w7 wB (.slice (some ⟨aX, 0, none⟩) (P.length + 1) pl) (iN P ++ [(j : Int)])) :
    FwM wB bY bL aL bP bX aX bS n cL pl l (w7.setCell ⟨bX, 0, none⟩ (.slice (some ⟨aX, 0, none⟩) (P.length + 1) pl)) N (P ++ [j]) ∧ Chg wB 8 W (w7.setCell ⟨bX, 0, none⟩ (.slice (some ⟨aX, 0, none⟩) (P.length + 1) pl)) ∧ w7.cell? ⟨bX, 0, none⟩ = some (.slice (some ⟨aX, 0, none⟩) P.length pl) ∧ w7.frozen? ⟨bX, 0, none⟩ = false := by
  have h1 := hi.l; have h2 := hi.a; have h3 := hi.p; have h4 := hi.ax; have h5 := hi.x; have h6 := hi.s; have h7 := hi.y
  have hsz := h.sz
  have hzg : W.heap.size + 1 ≤ w7.heap.size := by have := hg.size; simpa using this
  have old : ∀ g, g < W.heap.size → g ≠ aX → w7.heap[g]? = W.heap[g]? := fun g hlt hne => (hg.block g (by simp; omega) (fun e => by injection e with e; exact hne e)).trans (Lib.alloc_old W o g hlt)
  have hx7 : Boxed w7 bX 22 (.slice (some ⟨aX, 0, none⟩) P.length pl) := (old _ (by omega) (by omega)).trans h.x
  have gb := gb_set w7 bX 0 (.slice (some ⟨aX, 0, none⟩) (P.length + 1) pl)
  have hk : ∀ g, g < W.heap.size → g ≠ aX → g ≠ bX → (w7.setCell ⟨bX, 0, none⟩ (.slice (some ⟨aX, 0, none⟩) (P.length + 1) pl)).heap[g]? = W.heap[g]? := fun g hg hne hne2 => (gb.block g (by omega) (fun e => by injection e with e; exact hne2 e)).trans (old g hg hne)
  refine ⟨⟨by simp; omega, (hk _ (by omega) (by omega) (by omega)).trans h.y, (hk _ (by omega) (by omega) (by omega)).trans h.l, h.a.stay (fun g e => (Option.some.inj (show some aL = some g from e)) ▸ hk _ (by omega) (by omega) (by omega)), (hk _ (by omega) (by omega) (by omega)).trans h.p, ?_, ?_, (hk _ (by omega) (by omega) (by omega)).trans h.s, h.len⟩, ?_, hx7.cell, hx7.frozen⟩
  · rw [List.length_append, List.length_singleton]
    exact hx7.set _
  · rw [List.length_append, List.length_singleton, show iN (P ++ [j]) = iN P ++ [(j : Int)] by simp [iN]]
    exact ho.stay (fun g e => (Option.some.inj (show some aX = some g from e)) ▸ gb.block _ (by omega) (fun e => by injection e with e; omega))
  · exact ⟨by show w7.os = _; rw [hg.os]; rfl, by show w7.tape = _; rw [hg.tape]; rfl, by show w7.output = _; rw [hg.output]; rfl, by simp; omega, fun k hk' hn => hk k hk' (fun e => hn (by omega)) (fun e => hn (by omega))⟩
/-- a pick less -/
theorem FwM.pop {j : Nat} (hi : ID wB bY bL aL bP bX aX bS) (h : FwM wB bY bL aL bP bX aX bS n cL pl l W N (P ++ [j])) :
    FwM wB bY bL aL bP bX aX bS n cL pl l (W.setCell ⟨bX, 0, none⟩ (.slice (some ⟨aX, 0, none⟩) P.length pl)) N P ∧ Chg wB 8 W (W.setCell ⟨bX, 0, none⟩ (.slice (some ⟨aX, 0, none⟩) P.length pl)) := by
  have h1 := hi.l; have h2 := hi.a; have h3 := hi.p; have h4 := hi.ax; have h5 := hi.x; have h6 := hi.s; have h7 := hi.y
  have hsz := h.sz
  have gb := gb_set W bX 0 (.slice (some ⟨aX, 0, none⟩) P.length pl)
  have hk : ∀ g, g < W.heap.size → g ≠ bX → (W.setCell ⟨bX, 0, none⟩ (.slice (some ⟨aX, 0, none⟩) P.length pl)).heap[g]? = W.heap[g]? := fun g hg hne => gb.block g hg (fun e => by injection e with e; exact hne e)
  refine ⟨⟨by simpa using h.sz, (hk _ (by omega) (by omega)).trans h.y, (hk _ (by omega) (by omega)).trans h.l, h.a.stay (fun g e => (Option.some.inj (show some aL = some g from e)) ▸ hk _ (by omega) (by omega)), (hk _ (by omega) (by omega)).trans h.p, ?_, ?_, (hk _ (by omega) (by omega)).trans h.s, h.len⟩, ?_⟩
  · exact Boxed.set _ h.x
  · have hr := h.r
    rw [List.length_append, List.length_singleton, show iN (P ++ [j]) = iN P ++ [(j : Int)] by simp [iN]] at hr
    exact (hr.pop (by rw [iN_len])).stay (fun g e => (Option.some.inj (show some aX = some g from e)) ▸ hk _ (by omega) (by omega))
  · exact ⟨gb.os, gb.tape, gb.output, gb.size, fun k hk' hn => gb.block k hk' (fun e => by injection e with e; exact hn (by omega))⟩
end
set_option maxHeartbeats 400000 in
theorem aside2_any (v : Value) (N : List Nat) (h : Nat) (l : Int) (w : World) (hv : RI w v (iN N)) (hl : l = -1 ∨ ∃ k : Nat, k < N.length ∧ l = (k : Int)) :
    Calls Try.prog 41 #[v, .int .i64 l, .int .i64 (h : Int)] w fun e w' => e = .returned (.bool (asd (iN N) l h)) ∧ w' = w := by
  obtain ⟨ao, cap, rfl, hc, hn0, hcell⟩ := hv
  rw [iN_len] at hc
  have HC := hid hcell
  clear hcell hn0
  rw [iN_len]
  go_enter Try.func41, Try.ntmps41
  rcases hl with rfl | ⟨k, hk, rfl⟩
  · go_wp2
    go_ret
    exact ⟨rfl, rfl⟩
  · obtain ⟨g, off, hao, c0⟩ := HC.out k (by rw [iN_len]; exact hk)
    subst hao
    rw [iN_at N k _ hk] at c0
    have h1 : ¬ (k : Int) < 0 := by omega
    have hkI : (k : Int) < (N.length : Int) := by omega
    by_cases he : k = h
    · subst he
      have HF := hid (show asd (iN N) (k : Int) k = false by simp [asd])
      have hb : ((k : Int) == (k : Int)) = true := by simp
      go_wp2
      go_ret
      rw [HF.out]
      exact ⟨rfl, rfl⟩
    · have hb : ((k : Int) == (h : Int)) = false := beq_eq_false_iff_ne.2 (by omega)
      have hbn : ((k : Int) != (h : Int)) = true := by simp; omega
      have HF := hid (show asd (iN N) (k : Int) h = decide (0 < N[k]) by
        unfold asd
        rw [Int.toNat_natCast, iN_getD, gN N k hk, decide_eq_true (show (0 : Int) ≤ (k : Int) by omega), decide_eq_false (show ¬ (k : Int) = (h : Int) by omega)]
        by_cases c : 0 < N[k]
        · rw [decide_eq_true c, decide_eq_true (by omega)]
          rfl
        · rw [decide_eq_false c, decide_eq_false (by omega)]
          rfl)
      generalize N[k] = x at *
      by_cases hx : 0 < x
      · have hxI : (0 : Int) < (x : Int) := by omega
        have hdx : decide (0 < x) = true := decide_eq_true hx
        clear he
        go_wp2
        go_ret
        rw [HF.out, hdx]
        first
          | exact ⟨rfl, rfl⟩
          | exact ⟨by show Ending.returned (Value.bool ((k : Int) != (h : Int))) = _; rw [hbn], rfl⟩
      · have hxI : ¬ (0 : Int) < (x : Int) := by omega
        have hdx : decide (0 < x) = false := decide_eq_false hx
        clear he
        go_wp2
        go_ret
        rw [HF.out, hdx]
        exact ⟨rfl, rfl⟩
end Go.Proofs.Ytaiccmbhdgecgaa

namespace Go.Proofs.Ytaiccmbhdgecgaa
open Go.RowKit Go.Shelf
set_option maxRecDepth 100000

theorem wpList_emptyI {w : World} {ops : Array Oper} {rest : List Oper} {o : Oper} {a : Act} {Q : Exit → Act → World → Prop} (hgd : o.guard = none) (s x : Operand)
    (ho : o.op = .call { callee := .builtin .append, args := #[s, x], argTypes := #[22, 22] })
    (base b : Nat) (hs : a.eval s = .slice (some ⟨b, 0, none⟩) 0 0) (hown : OI w base (.slice (some ⟨b, 0, none⟩) 0 0) []) (xv : Value) (m : List Int) (hx : a.eval x = xv) (hr : RI w xv m)
    (h1 : 1 ≤ m.length) (h2 : m.length ≤ 1000) (hbase : base ≤ w.heap.size)
    (h : ∀ g c w', OI w' base (.slice (some ⟨g, 0, none⟩) m.length c) m → w.grownBy w' (some b) → g = w.heap.size → w'.heap.size = w.heap.size + 1 → wpList Try.prog ops Q rest (a.put o.dst (.slice (some ⟨g, 0, none⟩) m.length c)) w') : wpList Try.prog ops Q (o :: rest) a w := by
  obtain ⟨i, hi, hz, hsz, hby⟩ := info_parts intinfo
  obtain ⟨ao, cap, rfl, hl, hn, hcell⟩ := hr
  obtain ⟨g, off, hao, _⟩ := hcell 0 (by omega)
  subst hao
  have hnews : ∀ j u, (ic m)[j]? = some u → w.cell? ((⟨g, off, none⟩ : Addr).add j) = some u := by
    intro j u hu
    have hj : j < m.length := by have := (List.getElem?_eq_some_iff.1 hu).1; rwa [ic_len] at this
    obtain ⟨g2, off2, hao2, c2⟩ := hcell j hj
    injection hao2 with hao2
    injection hao2 with e1 e2
    subst e1 e2
    rw [ic_at m j hj] at hu
    injection hu with hu
    rw [← hu, Addr.add_lit]
    exact c2
  obtain ⟨v', w', hr1, ho1, hg1, _⟩ := run_append_own (P := Try.prog) w base 22 o.type 3 i (.int .i64 0) 1 8 Try.underlying22 hi hz hsz hby rfl (by decide) (.slice (some ⟨b, 0, none⟩) 0 0) 0 [] hown ⟨g, off, none⟩ m.length cap (ic m) (by rw [ic_len, Nat.mul_one]) hnews (ic_one m) (by unfold maxLen; omega) (by omega) hbase
  have hr2 := run_append_grow (P := Try.prog) w 22 o.type 3 i (.int .i64 0) Try.underlying22 hi hz ⟨b, 0, none⟩ 0 0 [] (by simp) (by intro j v hv; cases hv) ⟨g, off, none⟩ m.length cap (ic m) (by rw [ic_len, hsz, Nat.mul_one]) hnews (by omega) (by omega) (by rw [hby]; unfold Builtin.nextslicecap; rw [if_pos (by omega)]; omega)
  rw [hr1] at hr2
  injection hr2 with e1 e2
  subst e1 e2
  refine wpList_plain hgd fun K hK => ?_
  unfold Oper.wp execOp
  simp only [ho, resolve, invoke, builtin, Sem.run_bind, Sem.run_pure, Result.andThen_ok, List.map_toArray, List.map_cons, List.map_nil, hs, hx, hr1]
  have e3 : 0 + m.length = m.length := Nat.zero_add _
  rw [e3] at ho1 hg1 ⊢
  exact hK _ _ (h _ _ _ ho1 hg1 rfl (by simp))
set_option maxHeartbeats 1000000 in
theorem clone_sz (v : Value) (R : List Int) (w : World) (hr : RI w v R) (h1 : 1 ≤ R.length) (h2 : R.length ≤ 1000) :
    Calls Try.prog 33 #[v] w fun e w' => (∃ g c, e = .returned (.slice (some ⟨g, 0, none⟩) R.length c) ∧ OI w' w.heap.size (.slice (some ⟨g, 0, none⟩) R.length c) R) ∧ Below w.heap.size w w' ∧ w'.heap.size = w.heap.size + 2 := by
  have hr0 := hr
  obtain ⟨ao, cap, rfl, hc, hn, hcell⟩ := hr
  obtain ⟨g0, off0, hao, _⟩ := hcell 0 (by omega)
  subst hao
  have hs : ∀ w : World, (binOp .eql 22 (.slice (some ⟨g0, off0, none⟩) R.length cap) (.slice none 0 0)).run Try.prog w = .ok (.bool false) w := fun w => le_eql_slice_nil w ⟨g0, off0, none⟩ _ _
  have HR := hid hr0
  have HO := hid (show OI (w.alloc (.cells #[] 3)) w.heap.size (.slice (some ⟨w.heap.size, 0, none⟩) 0 0) [] from World.ownsRow_lit w #[] 0 (Nat.le_refl _) (by unfold maxLen; omega) rfl)
  have B1 := hid ((Below.refl w.heap.size w).alloc (Nat.le_refl _) (.cells #[] 3))
  clear hcell hr0
  go_enter Try.func33, Try.ntmps33
  go_wp2_with (at_builtin; refine wpList_emptyI rfl _ _ rfl w.heap.size w.heap.size rfl HO.out _ R rfl (HR.out.alloc _) (by omega) (by omega) (by simp) ?hnext)
  case hnext =>
    intro g c w1 ho1 hg1 hge hz1
    have H1 := hid ho1
    have B2 := hid (B1.out.grown hg1 (by simp) (fun k hk => by cases hk; exact Nat.le_refl _))
    have HZ := hid (show w1.heap.size = w.heap.size + 2 by rw [hz1])
    clear ho1 hg1 hge hz1
    go_wp2
    go_ret
    exact ⟨⟨_, _, rfl, H1.out⟩, B2.out, HZ.out⟩
end Go.Proofs.Ytaiccmbhdgecgaa

namespace Go.Proofs.Ytaiccmbhdgecgaa
open Go.RowKit
set_option maxRecDepth 100000

theorem mx_below : ∀ (L : List Nat) (N : List Nat) (n m : Nat) (M : List Nat), Mx N n L → Mx N m M → n < m → bl (iN L) (iN M) = true
  | [], N, n, m, [], a, b, h => by have := a.2; have := b.2; omega
  | [], N, n, m, k :: M, a, b, h => by
    have h1 := a.1
    have h2 := getD_le N k b.1
    have h3 := b.2.1
    omega
  | p :: L, N, n, m, [], a, b, h => by
    have h1 := b.1
    have h2 := getD_le N p a.1
    have h3 := a.2.1
    omega
  | p :: L, N, n, m, k :: M, a, b, h => by
    obtain ⟨a1, a2, a3, a4, a5⟩ := a
    obtain ⟨b1, b2, b3, b4, b5⟩ := b
    show (if (p : Int) = (k : Int) then bl (iN L) (iN M) else decide ((p : Int) < (k : Int))) = true
    have hpk : p ≤ k := by
      rcases Nat.lt_or_ge k p with hc | hc
      · have := bS_mono N (show k + 1 ≤ p from hc)
        omega
      · exact hc
    by_cases e : p = k
    · subst e
      rw [if_pos rfl]
      exact mx_below L (less N p) (n - bS N p) (m - bS N p) M a4 b4 (by omega)
    · rw [if_neg (by omega)]
      exact decide_eq_true (by omega)
/-- how often a number stands in the first so many -/
def cnt (L : List Nat) (h i : Nat) : Nat := (L.take i).count h
theorem cnt_step (L : List Nat) (h i : Nat) (hi : i < L.length) : cnt L h (i + 1) = cnt L h i + (if L[i] = h then 1 else 0) := by
  unfold cnt
  rw [List.take_add_one, List.getElem?_eq_getElem hi, Option.toList_some, List.count_append, List.count_singleton]
  by_cases e : L[i] = h
  · rw [if_pos e]
    simp [e]
  · rw [if_neg e]
    simp [e]
theorem cnt_le (L : List Nat) (h i : Nat) : cnt L h i ≤ L.length := Nat.le_trans List.count_le_length (by rw [List.length_take]; omega)
theorem cnt_all (L : List Nat) (h : Nat) : cnt L h L.length = L.count h := by unfold cnt; rw [List.take_length]
end Go.Proofs.Ytaiccmbhdgecgaa

namespace Go.Proofs.Ytaiccmbhdgecgaa
open Go.RowKit
set_option maxRecDepth 100000

/-- is a handler put aside ahead of place j -/
def cnd (L : List Nat) (j : Nat) : Prop := 1 ≤ j ∧ L.getD (j - 1) 0 ≠ L.getD j 0 ∧ 0 < (L.drop j).count (L.getD (j - 1) 0)
theorem cnd_b (L : List Nat) (j : Nat) : ∃ b : Bool, (b = true ↔ cnd L j) := by
  by_cases c : cnd L j
  · exact ⟨true, by simp [c]⟩
  · exact ⟨false, by simp [c]⟩
def cb (L : List Nat) (j : Nat) : Bool := decide (1 ≤ j) && (decide (L.getD (j - 1) 0 ≠ L.getD j 0) && decide (0 < (L.drop j).count (L.getD (j - 1) 0)))
/-- how often ahead of the first j places -/
def cS (L : List Nat) : Nat → Nat
  | 0 => 0
  | j + 1 => if cb L j then cS L j + 1 else cS L j
theorem cS_le (L : List Nat) : ∀ j, cS L j ≤ j
  | 0 => Nat.le_refl _
  | j + 1 => by
    have := cS_le L j
    unfold cS
    split <;> omega
theorem drop_count (L : List Nat) (j h : Nat) (hj : j < L.length) : (L.drop j).count h = (if L.getD j 0 = h then 1 else 0) + (L.drop (j + 1)).count h := by
  rw [List.drop_eq_getElem_cons hj, List.count_cons, gN L j hj]
  by_cases e : L[j] = h
  · rw [if_pos e, if_pos (by simp [e])]
    omega
  · rw [if_neg e, if_neg (by simpa using e)]
    omega
theorem sSt_is (L : List Nat) (hL : ∀ x ∈ L, x < 16) : ∀ j, j ≤ L.length → (sSt L j).1 = cS L j ∧ (sSt L j).2.1 = (if j = 0 then -1 else ((L.getD (j - 1) 0 : Nat) : Int)) ∧ ∀ h, h < 16 → (sSt L j).2.2.getD h 0 = (((L.drop j).count h : Nat) : Int)
  | 0, _ => by
    refine ⟨rfl, rfl, fun h hh => ?_⟩
    show (cR L L.length).getD h 0 = _
    rw [cR_is L hL L.length (Nat.le_refl _), List.take_length, iN_getD, C16_at, if_pos hh]
    rfl
  | j + 1, hj => by
    obtain ⟨i1, i2, i3⟩ := sSt_is L hL j (by omega)
    have hx : L.getD j 0 < 16 := by rw [gN L j (by omega)]; exact hL _ (List.getElem_mem _)
    have hlen := sSt_len L j
    refine ⟨?_, ?_, fun h hh => ?_⟩
    · show (if asd (sSt L j).2.2 (sSt L j).2.1 (L.getD j 0) then (sSt L j).1 + 1 else (sSt L j).1) = if cb L j then cS L j + 1 else cS L j
      have e : asd (sSt L j).2.2 (sSt L j).2.1 (L.getD j 0) = cb L j := by
        rw [i2]
        unfold asd cb
        by_cases h0 : j = 0
        · subst h0
          simp
        · rw [if_neg h0]
          have hp : L.getD (j - 1) 0 < 16 := by rw [gN L (j - 1) (by omega)]; exact hL _ (List.getElem_mem _)
          rw [Int.toNat_natCast, i3 _ hp]
          have e1 : decide (0 ≤ ((L.getD (j - 1) 0 : Nat) : Int)) = true := decide_eq_true (by omega)
          have e2 : decide (1 ≤ j) = true := decide_eq_true (by omega)
          rw [e1, e2, Bool.true_and, Bool.true_and]
          congr 1
          · by_cases e3 : L.getD (j - 1) 0 = L.getD j 0
            · rw [e3]; simp
            · rw [decide_eq_false (show ¬ ((L.getD (j - 1) 0 : Nat) : Int) = ((L.getD j 0 : Nat) : Int) by omega), decide_eq_true e3]
              rfl
          · by_cases e4 : 0 < (L.drop j).count (L.getD (j - 1) 0)
            · rw [decide_eq_true e4, decide_eq_true (by omega)]
            · rw [decide_eq_false e4, decide_eq_false (by omega)]
      rw [e, i1]
    · rfl
    · show ((sSt L j).2.2.set (L.getD j 0) ((sSt L j).2.2.getD (L.getD j 0) 0 - 1)).getD h 0 = _
      rw [getD_set0, hlen, i3 _ hx, i3 _ hh, drop_count L j h (by omega), drop_count L j (L.getD j 0) (by omega), if_pos rfl]
      by_cases e : L.getD j 0 = h
      · subst e
        rw [if_pos ⟨rfl, hx⟩]
        omega
      · rw [if_neg (fun c => e c.1), if_neg e]
        omega
/-- what Switches answers -/
def SwA (R : List Int) (e : Ending) : Prop :=
  (inB R 16 = false ∧ e = .returned (.tuple #[.int .i64 0, .int .i64 2])) ∨
  (inB R 16 = true ∧ 65536 < R.length ∧ e = .returned (.tuple #[.int .i64 0, .int .i64 1])) ∨
  (inB R 16 = true ∧ R.length ≤ 65536 ∧ ∃ L, R = iN L ∧ (∀ x ∈ L, x < 16) ∧ e = .returned (.tuple #[.int .i64 (cS L L.length : Int), .int .i64 0]))
theorem iN_inj {L M : List Nat} (h : iN L = iN M) : L = M := by
  have := congrArg nats h
  rwa [iN_nats, iN_nats] at this
theorem SwA.same {R : List Int} {e f : Ending} (h : SwA R e) (k : SwA R f) : e = f := by
  rcases h with ⟨h1, rfl⟩ | ⟨h1, h2, rfl⟩ | ⟨h1, h2, L, h3, _, rfl⟩ <;> rcases k with ⟨k1, rfl⟩ | ⟨k1, k2, rfl⟩ | ⟨k1, k2, M, k3, _, rfl⟩
  · rfl
  · rw [h1] at k1; cases k1
  · rw [h1] at k1; cases k1
  · rw [h1] at k1; cases k1
  · rfl
  · omega
  · rw [h1] at k1; cases k1
  · omega
  · obtain rfl := iN_inj (h3.symm.trans k3)
    rfl
set_option maxHeartbeats 1000000 in
theorem switchesA_any (v : Value) (R : List Int) (w : World) (hr : RI w v R) (hl : R.length ≤ 9223372036854775807) :
    Calls Try.prog 18 #[v] w fun e w' => SwA R e ∧ Below w.heap.size w w' := by
  have HAb := hid (areBelow_any v R 16 w hr hl)
  by_cases hin : inB R 16 = true
  · by_cases h65 : R.length ≤ 65536
    · obtain ⟨L, rfl, hx⟩ := nat_list hin
      rw [iN_len] at h65
      refine (switches_any v L w hr (fun i => ?_) h65).mono ?_
      · by_cases hi : i < L.length
        · rw [gN L i hi]
          exact hx _ (List.getElem_mem _)
        · rw [getD_out L i (by omega)]
          decide
      · rintro e w' ⟨rfl, hb⟩
        rw [(sSt_is L hx L.length (Nat.le_refl _)).1]
        exact ⟨.inr (.inr ⟨hin, by rw [iN_len]; exact h65, L, rfl, hx, rfl⟩), hb⟩
    · have HA := hid (show SwA R (.returned (.tuple #[.int .i64 0, .int .i64 1])) from .inr (.inl ⟨hin, by omega, rfl⟩))
      have hI : (65536 : Int) < (R.length : Int) := by omega
      obtain ⟨ao, cap, rfl⟩ := hr.len0
      rw [hin] at HAb
      clear hr hin h65
      go_enter Try.func18, Try.ntmps18
      go_wp2_with fail
      refine Calls.mono HAb.out ?_
      rintro e w1 ⟨rfl, rfl⟩
      clear HAb
      go_wp2
      go_ret2
      exact ⟨HA.out, Below.refl _ _⟩
  · have hin : inB R 16 = false := by simpa using hin
    have HA := hid (show SwA R (.returned (.tuple #[.int .i64 0, .int .i64 2])) from .inl ⟨hin, rfl⟩)
    obtain ⟨ao, cap, rfl⟩ := hr.len0
    rw [hin] at HAb
    clear hr hin
    go_enter Try.func18, Try.ntmps18
    go_wp2_with fail
    refine Calls.mono HAb.out ?_
    rintro e w1 ⟨rfl, rfl⟩
    clear HAb
    go_wp2
    go_ret2
    exact ⟨HA.out, Below.refl _ _⟩
/-- an array of ints in block g -/
def RowA (w : World) (g : Nat) (L : List Int) : Prop := w.heap[g]? = some (.cells (ic L).toArray 80 (0, 0))
theorem RowA.cell {w : World} {g : Nat} {L : List Int} (h : RowA w g L) (j : Nat) (hj : j < L.length) : w.cell? ⟨g, j, none⟩ = some (.int .i64 (L.getD j 0)) := by
  rw [cell_of_row w g j _ _ _ h, List.getD_eq_getElem?_getD, List.getElem?_eq_getElem hj]
  simp [ic, hj]
theorem RowA.frozen {w : World} {g : Nat} {L : List Int} (h : RowA w g L) (j : Nat) : w.frozen? ⟨g, j, none⟩ = false := by
  unfold RowA at h
  simp [World.frozen?, h]
theorem RowA.put {w : World} {g : Nat} {L : List Int} (h : RowA w g L) (j : Nat) (x : Int) : RowA (w.setCell ⟨g, j, none⟩ (.int .i64 x)) g (L.set j x) := by
  have := heap_setCell_same w g j _ _ (.int .i64 x) h
  unfold RowA
  rw [this, ← ic_set]
  simp
set_option maxHeartbeats 2000000 in
theorem switches7_any (v : Value) (R : List Int) (w : World) (hr : RI w v R) (hl : R.length ≤ 9223372036854775807) :
    Calls Try.prog 25 #[v] w fun e w' => SwA R e ∧ Below w.heap.size w w' := by
  have HAb := hid (numbers7_any v R w hr hl)
  by_cases hin : inB R 16 = true
  · rw [hin] at HAb
    by_cases h65 : R.length ≤ 65536
    · obtain ⟨L, rfl, hx⟩ := nat_list hin
      have HA := hid (show SwA (iN L) (.returned (.tuple #[.int .i64 (cS L L.length : Int), .int .i64 0])) from .inr (.inr ⟨hin, h65, L, rfl, hx, rfl⟩))
      rw [iN_len] at h65
      obtain ⟨ao, cap, rfl, hcc, hn0, hcell⟩ := hr
      rw [iN_len] at hcc
      have HC := hid (show ∀ j (hj : j < L.length), ∃ g off, ao = some ⟨g, off, none⟩ ∧ w.cell? ⟨g, off + j, none⟩ = some (.int .i64 ((L.getD j 0 : Nat) : Int)) from fun j hj => by
        obtain ⟨g, off, e, c⟩ := hcell j (by rw [iN_len]; exact hj)
        rw [iN_at L j _ hj, ← gN L j hj] at c
        exact ⟨g, off, e, c⟩)
      have HX := hid (show ∀ j, j < L.length → L.getD j 0 < 16 from fun j hj => by rw [gN L j hj]; exact hx _ (List.getElem_mem _))
      rw [iN_len] at HAb ⊢
      have h65I : ¬ (65536 : Int) < (L.length : Int) := by omega
      clear hcell hn0 hx hin hl
      go_enter Try.func25, Try.ntmps25
      go_wp2_with fail
      refine Calls.mono HAb.out ?_
      rintro e w1 ⟨rfl, rfl⟩
      clear HAb
      go_wp2_with fail
      obtain ⟨W, hW⟩ : ∃ W, w1.alloc (.cells #[.int .i64 0, .int .i64 0, .int .i64 0, .int .i64 0, .int .i64 0, .int .i64 0, .int .i64 0, .int .i64 0, .int .i64 0, .int .i64 0, .int .i64 0, .int .i64 0, .int .i64 0, .int .i64 0, .int .i64 0, .int .i64 0] 80) = W := ⟨_, rfl⟩
      rw [hW]
      have HB := hid (show Below w1.heap.size w1 W by rw [← hW]; exact (Below.refl _ _).alloc (Nat.le_refl _) _)
      have HRo := hid (show RowA W w1.heap.size (List.replicate 16 0) by rw [← hW]; exact heap_alloc_new w1 _)
      clear hW
      generalize hgg : w1.heap.size = g at *
      go_loopw [4, 6] (fun vn vi wx => ∃ (k n : Nat) (T : List Int), k ≤ L.length ∧ vi = .int .i64 ((k : Int) - 1) ∧ vn = .int .i64 (n : Int) ∧ n + cS L k = cS L L.length ∧ T.length = 16 ∧ (∀ h, h < 16 → T.getD h 0 = (((L.drop k).count h : Nat) : Int)) ∧ RowA wx g T ∧ Below g w1 wx) (fun _ vi _ => (intOf vi + 1).toNat)
      case atStart => exact ⟨L.length, 0, _, Nat.le_refl _, rfl, rfl, Nat.zero_add _, by simp, fun h hh => by rw [List.drop_length, List.getD_eq_getElem?_getD, List.getElem?_replicate, if_pos hh]; rfl, HRo.out, HB.out⟩
      case round =>
        obtain ⟨k, n, T, hk, rfl, rfl, hn, hT, hTc, hro, hB⟩ := hrel
        have HRo := hid hro
        have HB := hid hB
        have HN := hid hn
        have HTc := hid hTc
        have hnk : n ≤ 65536 := by have := cS_le L L.length; omega
        clear hn hTc hro hB
        by_cases h : 2 ≤ k
        · obtain ⟨m, rfl⟩ : ∃ m, k = m + 1 := ⟨k - 1, by omega⟩
          obtain ⟨j, hjm⟩ : ∃ j, m - 1 = j := ⟨_, rfl⟩
          have hkI : ((m + 1 : Nat) : Int) - 1 = (m : Int) := by omega
          rw [hkI]
          have hgt : (0 : Int) < (m : Int) := by omega
          have hj2 : (m : Int) < (L.length : Int) := by omega
          have hj1 : (j : Int) < (L.length : Int) := by omega
          have hjj : (m : Int) - 1 = (j : Int) := by omega
          have hjw : IntKind.i64.wrap ((m : Int) - 1) = (j : Int) := by rw [IntKind.wrap_i64]; omega
          have hjw2 : IntKind.i64.wrap (j : Int) = (j : Int) := by rw [IntKind.wrap_i64]; omega
          obtain ⟨g1, o1, hao, c1⟩ := HC.out m (by omega)
          obtain ⟨g2, o2, hao2, c2⟩ := HC.out j (by omega)
          rw [hao] at hao2
          injection hao2 with hao2
          injection hao2 with e1 e2
          subst e1 e2 hao
          have hx := HX.out m (by omega)
          have hy := HX.out j (by omega)
          have hlt1 : g1 < g := by have := cell_ltB c1; rw [hgg] at this; exact this
          have d1 := below_cells (hgg ▸ HB.out) _ _ c1
          have HD := hid (fun h => drop_count L m h (by omega))
          have HCb := hid (show cS L (m + 1) = if cb L m then cS L m + 1 else cS L m from rfl)
          have HCd := hid (show cb L m = (decide (L.getD j 0 ≠ L.getD m 0) && decide (0 < (L.drop m).count (L.getD j 0))) by unfold cb; rw [decide_eq_true (show 1 ≤ m by omega), Bool.true_and, hjm])
          have t0 := HRo.out.cell (L.getD m 0) (by rw [hT]; exact hx)
          have f0 := HRo.out.frozen (L.getD m 0)
          have htb : 0 ≤ T.getD (L.getD m 0) 0 ∧ T.getD (L.getD m 0) 0 ≤ 65536 := by
            rw [HTc.out _ hx]
            have : (L.drop (m + 1)).count (L.getD m 0) ≤ L.length := Nat.le_trans List.count_le_length (by rw [List.length_drop]; omega)
            omega
          have HT2 := hid (show ∀ h, h < 16 → (T.set (L.getD m 0) (T.getD (L.getD m 0) 0 + 1)).getD h 0 = (((L.drop m).count h : Nat) : Int) from fun h hh => by
            rw [getD_set0, hT, HTc.out _ hx, HTc.out _ hh, HD.out h]
            by_cases e : L.getD m 0 = h
            · subst e
              rw [if_pos ⟨rfl, hx⟩, if_pos rfl]
              omega
            · rw [if_neg (fun c => e c.1), if_neg e]
              omega)
          have HT3 := hid (show (T.set (L.getD m 0) (T.getD (L.getD m 0) 0 + 1)).length = 16 by rw [List.length_set]; exact hT)
          obtain ⟨W', hW'⟩ : ∃ W', wr.setCell ⟨g, L.getD m 0, none⟩ (.int .i64 (T.getD (L.getD m 0) 0 + 1)) = W' := ⟨_, rfl⟩
          have HPu := hid (show RowA W' g (T.set (L.getD m 0) (T.getD (L.getD m 0) 0 + 1)) by rw [← hW']; exact HRo.out.put _ _)
          have HB2 := hid (show Below g w1 W' by rw [← hW']; exact HB.out.setCell (Nat.le_refl _) _)
          have k1 := below_cells (hgg ▸ HB2.out) _ _ c1
          have k2 := below_cells (hgg ▸ HB2.out) _ _ c2
          have k3 := HPu.out.cell (L.getD j 0) (by rw [HT3.out]; exact hy)
          rw [HT2.out _ hy] at k3
          generalize hz : (L.drop m).count (L.getD j 0) = z at *
          generalize T.set (L.getD m 0) (T.getD (L.getD m 0) 0 + 1) = T2 at *
          generalize T.getD (L.getD m 0) 0 = t at *
          generalize L.getD m 0 = x at *
          generalize L.getD j 0 = y at *
          have hxI : (x : Int) < 16 := by omega
          have hyI : (y : Int) < 16 := by omega
          obtain ⟨htb0, htb1⟩ := htb
          have HJm := hid hjm
          clear c1 c2 hz hx hy HRo HB HTc HD hjm
          by_cases e1 : y = x
          · have hb : ((x : Int) == (y : Int)) = true := by simp [e1]
            have hne : ¬ ¬ (x : Int) = (y : Int) := by omega
            have HE := hid (show cb L m = false by rw [HCd.out, decide_eq_false (by simpa using e1)]; rfl)
            clear HCd e1
            go_wp2
            go_quiet (fail)
            go_wp2
            go_roundw
            case rel => exact ⟨m, n, T2, by omega, by first | rfl | go_num, rfl, by have := HCb.out; rw [HE.out] at this; have := HN.out; simp at *; omega, HT3.out, HT2.out, HPu.out, below_drewN HB2.out nq⟩
            case measure => simp [intOf]; omega
          · have hb : ((x : Int) == (y : Int)) = false := beq_eq_false_iff_ne.2 (by omega)
            have hne : ¬ (x : Int) = (y : Int) := by omega
            by_cases e2 : 0 < z
            · have hzI : (0 : Int) < (z : Int) := by omega
              have hdz : decide (0 < z) = true := decide_eq_true e2
              have HE := hid (show cb L m = true by rw [HCd.out, decide_eq_true (show y ≠ x from e1), decide_eq_true e2]; rfl)
              clear HCd e1 e2
              go_wp2
              go_quiet (fail)
              go_wp2
              go_roundw
              case rel => exact ⟨m, n + 1, T2, by omega, by first | rfl | go_num, by go_num, by have := HCb.out; rw [HE.out] at this; have := HN.out; simp at *; omega, HT3.out, HT2.out, HPu.out, below_drewN HB2.out nq⟩
              case measure => simp [intOf]; omega
            · have hzI : ¬ (0 : Int) < (z : Int) := by omega
              have hdz : decide (0 < z) = false := decide_eq_false e2
              have HE := hid (show cb L m = false by rw [HCd.out, decide_eq_false e2, Bool.and_false])
              clear HCd e1 e2
              go_wp2
              go_quiet (fail)
              go_wp2
              go_roundw
              case rel => exact ⟨m, n, T2, by omega, by first | rfl | go_num, rfl, by have := HCb.out; rw [HE.out] at this; have := HN.out; simp at *; omega, HT3.out, HT2.out, HPu.out, below_drewN HB2.out nq⟩
              case measure => simp [intOf]; omega
        · have hgt : ¬ (0 : Int) < (k : Int) - 1 := by omega
          have h0 : cS L k = 0 := by
            have : k = 0 ∨ k = 1 := by omega
            rcases this with rfl | rfl
            · rfl
            · rfl
          have hE : n = cS L L.length := by have := HN.out; omega
          subst hE
          generalize cS L L.length = c at *
          go_wp2
          go_ret2
          exact ⟨HA.out, hgg ▸ HB.out⟩
    · have HA := hid (show SwA R (.returned (.tuple #[.int .i64 0, .int .i64 1])) from .inr (.inl ⟨hin, by omega, rfl⟩))
      have hI : (65536 : Int) < (R.length : Int) := by omega
      obtain ⟨ao, cap, rfl⟩ := hr.len0
      clear hr hin h65
      go_enter Try.func25, Try.ntmps25
      go_wp2_with fail
      refine Calls.mono HAb.out ?_
      rintro e w1 ⟨rfl, rfl⟩
      clear HAb
      go_wp2
      go_ret2
      exact ⟨HA.out, Below.refl _ _⟩
  · have hin : inB R 16 = false := by simpa using hin
    have HA := hid (show SwA R (.returned (.tuple #[.int .i64 0, .int .i64 2])) from .inl ⟨hin, rfl⟩)
    obtain ⟨ao, cap, rfl⟩ := hr.len0
    rw [hin] at HAb
    clear hr hin
    go_enter Try.func25, Try.ntmps25
    go_wp2_with fail
    refine Calls.mono HAb.out ?_
    rintro e w1 ⟨rfl, rfl⟩
    clear HAb
    go_wp2
    go_ret2
    exact ⟨HA.out, Below.refl _ _⟩
end Go.Proofs.Ytaiccmbhdgecgaa

namespace Go.Proofs.Ytaiccmbhdgecgaa
set_option maxRecDepth 100000

/-- all mixes, in order -/
def AL : Nat → List Nat → List (List Nat)
  | 0, _ => [[]]
  | s + 1, N => (List.range N.length).flatMap fun h => if N.getD h 0 = 0 then [] else (AL s (less N h)).map (h :: ·)
/-- the switches of a list behind a pick of last, where N is left -/
def swc : List Nat → Int → List Nat → Nat
  | _, _, [] => 0
  | N, last, h :: x => (if asd (iN N) last h then 1 else 0) + swc (less N h) (h : Int) x
theorem filter_flat {α β : Type} (p : β → Bool) (f : α → List β) : ∀ l : List α, (l.flatMap f).filter p = l.flatMap fun a => (f a).filter p
  | [] => rfl
  | a :: l => by rw [List.flatMap_cons, List.flatMap_cons, List.filter_append, filter_flat p f l]
theorem flat_congr {α β : Type} {f g : α → List β} : ∀ {l : List α}, (∀ a ∈ l, f a = g a) → l.flatMap f = l.flatMap g
  | [], _ => rfl
  | a :: l, h => by rw [List.flatMap_cons, List.flatMap_cons, h a (by simp), flat_congr (fun b hb => h b (by simp [hb]))]
theorem FL_is : ∀ (s : Nat) (N : List Nat) (last sp : Int), 0 ≤ sp → FL s N last sp = (AL s N).filter fun x => decide (((swc N last x : Nat) : Int) ≤ sp)
  | 0, N, last, sp, h0 => by
    show [[]] = List.filter _ [[]]
    rw [List.filter_cons_of_pos (by exact decide_eq_true (show ((0 : Nat) : Int) ≤ sp from h0))]
    rfl
  | s + 1, N, last, sp, h0 => by
    show (List.range N.length).flatMap _ = List.filter _ ((List.range N.length).flatMap _)
    rw [filter_flat]
    refine flat_congr fun h _ => ?_
    unfold may
    by_cases hz : N.getD h 0 = 0
    · rw [if_pos hz, decide_eq_true hz]
      simp
    · rw [if_neg hz, decide_eq_false hz, List.filter_map]
      have e1 : ∀ x : List Nat, ((fun x => decide (((swc N last x : Nat) : Int) ≤ sp)) ∘ (h :: ·)) x = decide (((swc (less N h) (h : Int) x : Nat) : Int) ≤ spr N last sp h) := by
        intro x
        show decide ((((if asd (iN N) last h then 1 else 0) + swc (less N h) (h : Int) x : Nat) : Int) ≤ sp) = _
        unfold spr
        by_cases ha : asd (iN N) last h = true
        · rw [if_pos ha, if_pos ha]
          congr 1
          apply propext
          constructor <;> intro <;> omega
        · rw [if_neg ha, if_neg ha]
          congr 1
          apply propext
          constructor <;> intro <;> omega
      by_cases hn : spr N last sp h < 0
      · rw [decide_eq_true hn]
        have : (AL s (less N h)).filter ((fun x => decide (((swc N last x : Nat) : Int) ≤ sp)) ∘ (h :: ·)) = [] := by
          rw [List.filter_eq_nil_iff]
          intro x _
          rw [e1 x, decide_eq_false (by omega)]
          decide
        rw [this]
        simp
      · rw [decide_eq_false hn, FL_is s (less N h) (h : Int) (spr N last sp h) (by omega)]
        have : ((fun x => decide (((swc N last x : Nat) : Int) ≤ sp)) ∘ (h :: ·)) = fun x => decide (((swc (less N h) (h : Int) x : Nat) : Int) ≤ spr N last sp h) := funext e1
        rw [this]
        rfl
/-- those that begin with one of the first handlers -/
def AP (s : Nat) (N : List Nat) (h : Nat) : List (List Nat) := (List.range h).flatMap fun h => if N.getD h 0 = 0 then [] else (AL s (less N h)).map (h :: ·)
theorem AP_up (s : Nat) (N : List Nat) (h : Nat) : AP s N (h + 1) = AP s N h ++ (if N.getD h 0 = 0 then [] else (AL s (less N h)).map (h :: ·)) := by
  unfold AP
  rw [List.range_succ, List.flatMap_append]
  simp
theorem AP_pre (s : Nat) (N : List Nat) : ∀ {i j : Nat}, i ≤ j → ∃ T, AP s N j = AP s N i ++ T := by
  intro i j h
  induction h with
  | refl => exact ⟨[], by simp⟩
  | step _ ih =>
    obtain ⟨T, hT⟩ := ih
    exact ⟨_, by rw [AP_up, hT, List.append_assoc]⟩
theorem AL_len : ∀ (s : Nat) (N : List Nat), tN2 N = s → s ≤ 24 → (AL s N).length = mN N ∧ ∀ h, h ≤ N.length → ∀ s', s = s' + 1 → (AP s' N h).length = bS N h
  | 0, N, hs, _ => by
    refine ⟨?_, fun h _ s' e => by cases e⟩
    have h := cN_pf N N.length (by unfold tN2 at hs; omega)
    have e : mN N * pf N N.length = 1 := by
      have : sN N N.length = 0 := hs
      rw [this] at h
      exact h
    exact (Nat.eq_one_of_mul_eq_one_right e).symm
  | s + 1, N, hs, h24 => by
    have key : ∀ h, h ≤ N.length → (AP s N h).length = bS N h := by
      intro h
      induction h with
      | zero => intro _; rfl
      | succ h ih =>
        intro hh
        rw [AP_up, List.length_append, ih (by omega)]
        show bS N h + _ = bS N h + bg N h
        congr 1
        have hb := bg_mul N h (by omega) (by omega) (by omega)
        by_cases hz : N.getD h 0 = 0
        · rw [if_pos hz, hb.2.1 hz]
          rfl
        · rw [if_neg hz, List.length_map, (AL_len s (less N h) (by have := (mN_less N h (by omega) (by omega) (by omega)).2; omega) (by omega)).1, hb.2.2 (by omega)]
    refine ⟨?_, fun h hh s' e => by cases e; exact key h hh⟩
    show (AP s N N.length).length = _
    rw [key _ (Nat.le_refl _), bS_all N (by omega) (by omega)]
theorem AL_at : ∀ (s : Nat) (N : List Nat) (n : Nat) (L : List Nat), tN2 N = s → s ≤ 24 → Mx N n L → (AL s N)[n]? = some L
  | 0, N, n, [], hs, h24, m => by rw [m.2]; rfl
  | 0, N, n, h :: L, hs, h24, m => by
    have h1 := getD_le N h m.1
    have h2 := m.2.1
    omega
  | s + 1, N, n, [], hs, h24, m => by
    have := m.1
    omega
  | s + 1, N, n, h :: L, hs, h24, m => by
    obtain ⟨m1, m2, m3, m4, m5⟩ := m
    have ht := (mN_less N h m1 m2 (by omega)).2
    have ih := AL_at s (less N h) (n - bS N h) L (by omega) (by omega) m4
    have hl := (AL_len (s + 1) N hs h24).2 h (by omega) s rfl
    show (AP s N N.length)[n]? = _
    obtain ⟨T, hT⟩ := AP_pre s N (show h + 1 ≤ N.length from m1)
    rw [hT, AP_up, if_neg (by omega), List.append_assoc, List.getElem?_append_right (by omega), hl, List.getElem?_append_left (by
      rw [List.length_map]
      exact (List.getElem?_eq_some_iff.1 ih).1), List.getElem?_map, ih]
    rfl
/-- each of them is the mix of its number -/
theorem AL_mx (s : Nat) (N : List Nat) (hs : tN2 N = s) (h24 : s ≤ 24) (n : Nat) (L : List Nat) (h : (AL s N)[n]? = some L) : Mx N n L := by
  have hn : n < mN N := by
    rw [← (AL_len s N hs h24).1]
    exact (List.getElem?_eq_some_iff.1 h).1
  obtain ⟨M, hM, _⟩ := mx_ex s N n hs h24 hn
  have := AL_at s N n M hs h24 hM
  rw [h] at this
  injection this with e
  rw [e]
  exact hM
/-- the switches of a mix, as Switches counts them -/
theorem swc_is : ∀ (m : Nat) (L : List Nat), (∀ x ∈ L, x < 16) → ∀ (j : Nat) (N : List Nat) (last : Int), j + m = L.length → (∀ i, N.getD i 0 = (L.drop j).count i) → (∀ x ∈ L.drop j, x < N.length) → (last = if j = 0 then -1 else ((L.getD (j - 1) 0 : Nat) : Int)) → swc N last (L.drop j) + cS L j = cS L L.length
  | 0, L, hL, j, N, last, hj, hc, hin, hl => by
    obtain rfl : j = L.length := by omega
    rw [List.drop_length]
    show 0 + _ = _
    omega
  | m + 1, L, hL, j, N, last, hj, hc, hin, hl => by
    have hjl : j < L.length := by omega
    have hd : L.drop j = L[j] :: L.drop (j + 1) := List.drop_eq_getElem_cons hjl
    have hx : L[j] < N.length := hin L[j] (by rw [hd]; exact List.mem_cons_self)
    have h1 : 1 ≤ N.getD L[j] 0 := by rw [hc, hd, List.count_cons, if_pos (by simp)]; omega
    have ih := swc_is m L hL (j + 1) (less N L[j]) ((L[j] : Nat) : Int) (by omega) (fun i => by
      rw [less_at N L[j] i hx]
      have := hc i
      rw [hd, List.count_cons] at this
      by_cases e : i = L[j]
      · subst e
        rw [if_pos rfl]
        rw [if_pos (by simp)] at this
        omega
      · rw [if_neg e]
        rw [if_neg (by simpa using fun e2 => e e2.symm)] at this
        omega) (fun x hx2 => by rw [less_len]; exact hin x (by rw [hd]; exact List.mem_cons_of_mem _ hx2)) (by rw [if_neg (by omega), Nat.add_sub_cancel, gN L j hjl])
    rw [hd]
    show (if asd (iN N) last L[j] then 1 else 0) + swc (less N L[j]) ((L[j] : Nat) : Int) (L.drop (j + 1)) + cS L j = _
    have hcs : cS L (j + 1) = if cb L j then cS L j + 1 else cS L j := rfl
    have e : asd (iN N) last L[j] = cb L j := by
      rw [hl]
      unfold asd cb
      by_cases h0 : j = 0
      · subst h0
        simp
      · rw [if_neg h0, Int.toNat_natCast, iN_getD, hc, decide_eq_true (show (0 : Int) ≤ ((L.getD (j - 1) 0 : Nat) : Int) by omega), decide_eq_true (show 1 ≤ j by omega), gN L j hjl, Bool.true_and, Bool.true_and]
        congr 1
        · by_cases e3 : L.getD (j - 1) 0 = L[j]
          · rw [e3]; simp
          · rw [decide_eq_false (show ¬ ((L.getD (j - 1) 0 : Nat) : Int) = ((L[j] : Nat) : Int) by omega), decide_eq_true e3]
            rfl
        · by_cases e4 : 0 < (L.drop j).count (L.getD (j - 1) 0)
          · rw [decide_eq_true e4, decide_eq_true (by omega)]
          · rw [decide_eq_false e4, decide_eq_false (by omega)]
    rw [e]
    by_cases hb : cb L j = true
    · rw [if_pos hb] at hcs ⊢
      omega
    · rw [if_neg hb] at hcs ⊢
      omega
theorem swc_mx {N : List Nat} {n : Nat} {L : List Nat} (h : Mx N n L) (hl : N.length ≤ 16) : swc N (-1) L = cS L L.length := by
  have hin := mx_in h
  have := swc_is L.length L (fun x hx => Nat.lt_of_lt_of_le (hin x hx) hl) 0 N (-1) (by omega) (fun i => by rw [List.drop_zero]; exact (mx_count h i).symm) (fun x hx => hin x (by rwa [List.drop_zero] at hx)) rfl
  rw [List.drop_zero] at this
  exact this
end Go.Proofs.Ytaiccmbhdgecgaa

namespace Go.Proofs.Ytaiccmbhdgecgaa
open Go.RowKit
set_option maxRecDepth 100000

theorem onl_cons (y : Int) (L : List Int) (a b : Int) : onl (y :: L) a b = if y = a ∨ y = b then y :: onl L a b else onl L a b := by
  unfold onl
  by_cases c : y = a ∨ y = b
  · rw [if_pos c, List.filter_cons_of_pos (by rcases c with c | c <;> simp [c])]
  · rw [if_neg c, List.filter_cons_of_neg (by
      simp only [not_or] at c
      simp [c.1, c.2])]
theorem alike_swps {ap : Int → Int → Bool} (hsym : ∀ a b, ap a b = ap b a) (hirr : ∀ a, ap a a = false) : ∀ (Y X : List Int), (∀ a b, ap a b = false → onl X a b = onl Y a b) → Swps ap X Y
  | [], X, h => by
    cases X with
    | nil => exact .refl _
    | cons x X =>
      have := h x x (hirr x)
      rw [onl_cons, if_pos (.inl rfl)] at this
      cases this
  | y :: Y, X, h => by
    have hy := h y y (hirr y)
    rw [onl_cons, if_pos (.inl rfl)] at hy
    have hin : y ∈ X := by
      have : y ∈ onl X y y := by rw [hy]; simp
      exact (List.mem_filter.1 this).1
    obtain ⟨A, C, rfl, hn⟩ := split_in hin
    have hap : ∀ z ∈ A, ap z y = true := by
      intro z hz
      cases hc : ap z y with
      | true => rfl
      | false =>
        exfalso
        have h2 := h z y hc
        rw [onl_cons, if_pos (.inr rfl)] at h2
        have e : onl (A ++ y :: C) z y = onl A z y ++ onl (y :: C) z y := by unfold onl; rw [List.filter_append]
        rw [e] at h2
        have hzA : z ∈ onl A z y := List.mem_filter.2 ⟨hz, by simp⟩
        cases ho : onl A z y with
        | nil => rw [ho] at hzA; cases hzA
        | cons q Q =>
          rw [ho] at h2
          injection h2 with h3 h4
          have : y ∈ A := by
            have hq : q ∈ onl A z y := by rw [ho]; simp
            rw [← h3]
            exact (List.mem_filter.1 hq).1
          exact hn this
    have hs := front hsym (C := C) hn hap
    refine hs.trans (.cons (alike_swps hsym hirr Y (A ++ C) fun a b hab => ?_) y)
    have h1 := h a b hab
    rw [hs.only hab (by rw [hsym]; exact hab), onl_cons, onl_cons] at h1
    by_cases c : y = a ∨ y = b
    · rw [if_pos c, if_pos c] at h1
      injection h1
    · rw [if_neg c, if_neg c] at h1
      exact h1
/-- of numbers below 16 it is enough to ask for those -/
theorem alike_all {P : List Pr} {X Y : List Int} (hX : ∀ x ∈ X, 0 ≤ x ∧ x < 16) (hY : ∀ x ∈ Y, 0 ≤ x ∧ x < 16) (h : ∀ a b : Nat, a < 16 → b < 16 → a ≤ b → arP P (a : Int) (b : Int) = false → onl X (a : Int) (b : Int) = onl Y (a : Int) (b : Int)) : ∀ a b : Int, arP P a b = false → onl X a b = onl Y a b := by
  have hcomm : ∀ (L : List Int) (a b : Int), onl L a b = onl L b a := fun L a b => by unfold onl; congr 1; funext x; rw [Bool.or_comm]
  have hout : ∀ (L : List Int), (∀ x ∈ L, 0 ≤ x ∧ x < 16) → ∀ a b : Int, ¬ (0 ≤ a ∧ a < 16) → onl L a b = onl L b b := by
    intro L hL a b ha
    unfold onl
    refine List.filter_congr fun x hx => ?_
    rw [decide_eq_false (show ¬ x = a from fun e => ha (e ▸ hL x hx)), Bool.false_or, Bool.or_self]
  have hnil : ∀ (L : List Int), (∀ x ∈ L, 0 ≤ x ∧ x < 16) → ∀ a : Int, ¬ (0 ≤ a ∧ a < 16) → onl L a a = [] := by
    intro L hL a ha
    unfold onl
    rw [List.filter_eq_nil_iff]
    intro x hx
    rw [decide_eq_false (show ¬ x = a from fun e => ha (e ▸ hL x hx))]
    decide
  have hself : ∀ b : Int, onl X b b = onl Y b b := by
    intro b
    by_cases hb : 0 ≤ b ∧ b < 16
    · obtain ⟨m, rfl⟩ : ∃ m : Nat, b = (m : Int) := ⟨b.toNat, by omega⟩
      exact h m m (by omega) (by omega) (Nat.le_refl _) (arP_irr _ _)
    · rw [hnil X hX b hb, hnil Y hY b hb]
  intro a b hab
  by_cases ha : 0 ≤ a ∧ a < 16
  · by_cases hb : 0 ≤ b ∧ b < 16
    · obtain ⟨m, rfl⟩ : ∃ m : Nat, a = (m : Int) := ⟨a.toNat, by omega⟩
      obtain ⟨k, rfl⟩ : ∃ k : Nat, b = (k : Int) := ⟨b.toNat, by omega⟩
      rcases Nat.le_total m k with hmk | hmk
      · exact h m k (by omega) (by omega) hmk hab
      · rw [hcomm X, hcomm Y]
        exact h k m (by omega) (by omega) hmk (by rw [arP_sym]; exact hab)
    · rw [hcomm X, hcomm Y, hout X hX b a hb, hout Y hY b a hb]
      exact hself a
  · rw [hout X hX a b ha, hout Y hY a b ha]
    exact hself b
/-- are two lists alike -/
def Alk (P : List Pr) (X Y : List Int) : Prop := ∀ a b : Nat, a < 16 → b < 16 → a ≤ b → arP P (a : Int) (b : Int) = false → onl X (a : Int) (b : Int) = onl Y (a : Int) (b : Int)
def AkA (P : List Pr) (X Y : List Int) (e : Ending) : Prop := ∃ b, e = .returned (.bool b) ∧ (b = true ↔ Alk P X Y)
set_option maxHeartbeats 2000000 in
theorem alikeB_any (v p vp : Value) (X Y : List Int) (P : List Pr) (w : World) (hv : RI w v X) (hy : RI w p Y) (hp : PL w vp P) (hPl : P.length ≤ 9223372036854775807) (hl : X.length * 8 ≤ 140737488355328) (hlen : X.length = Y.length) :
    Calls Try.prog 20 #[v, p, vp] w fun e w' => AkA P X Y e ∧ Below w.heap.size w w' := by
  have HX := hid hv
  have HY := hid hy
  have HP := hid hp
  have HLn := hid hlen
  obtain ⟨ao, cap, rfl⟩ := hv.len0
  obtain ⟨bo, cap', rfl⟩ := hy.len0
  obtain ⟨aop, capp, rfl, _⟩ := hp
  have hlb : ((X.length : Int) == (Y.length : Int)) = true := by simp [hlen]
  have hl2 : Y.length * 8 ≤ 140737488355328 := by omega
  clear hv hy hlen
  go_enter Try.func20, Try.ntmps20
  go_wp2_with fail
  go_loopw [7] (fun va wx => ∃ a : Nat, a ≤ 16 ∧ va = .int .i64 (a : Int) ∧ (∀ a' b : Nat, a' < a → b < 16 → a' ≤ b → arP P (a' : Int) (b : Int) = false → onl X (a' : Int) (b : Int) = onl Y (a' : Int) (b : Int)) ∧ Below w.heap.size w wx) (fun va _ => 16 - (intOf va).toNat)
  case atStart => exact ⟨0, by omega, rfl, fun _ _ h => by omega, Below.refl _ _⟩
  case round =>
    obtain ⟨a, ha, rfl, hin, hB⟩ := hrel
    have HB := hid hB
    have HI := hid hin
    clear hB hin
    by_cases h : a < 16
    · have hI : (a : Int) < 16 := by omega
      go_wp2_with fail
      go_loopw [8] (fun vb wx => ∃ b : Nat, a ≤ b ∧ b ≤ 16 ∧ vb = .int .i64 (b : Int) ∧ (∀ b' : Nat, b' < b → a ≤ b' → arP P (a : Int) (b' : Int) = false → onl X (a : Int) (b' : Int) = onl Y (a : Int) (b' : Int)) ∧ Below w.heap.size w wx) (fun vb _ => 16 - (intOf vb).toNat)
      case atStart => exact ⟨a, Nat.le_refl _, ha, rfl, fun b' h1 h2 => by omega, HB.out⟩
      case round =>
        obtain ⟨b, hab0, hb, rfl, hin2, hB⟩ := hrel
        have HB2 := hid hB
        have HI2 := hid hin2
        have hz := hB.size
        clear hB hin2
        by_cases h2 : b < 16
        · have hI2 : (b : Int) < 16 := by omega
          have HA := hid (are_any (a : Int) (b : Int) _ P wr (HP.out.below HB2.out) hPl)
          cases har : arP P (a : Int) (b : Int) with
          | true =>
            rw [har] at HA
            have HN := hid (show ∀ b' : Nat, b' < b + 1 → a ≤ b' → arP P (a : Int) (b' : Int) = false → onl X (a : Int) (b' : Int) = onl Y (a : Int) (b' : Int) from fun b' hb1 hb2 hb3 => by
              by_cases e : b' = b
              · subst e
                rw [har] at hb3
                cases hb3
              · exact HI2.out b' (by omega) hb2 hb3)
            go_wp2_with fail
            refine Calls.mono HA.out ?_
            rintro e w2 ⟨rfl, rfl⟩
            go_wp2_with fail
            go_roundw
            case rel => exact ⟨b + 1, by omega, by omega, by go_num, HN.out, HB2.out⟩
            case measure => simp [intOf]; omega
          | false =>
            rw [har] at HA
            have HAr := hid har
            have hlz := onl_len X (a : Int) (b : Int)
            have hlz2 := onl_len Y (a : Int) (b : Int)
            clear har
            go_wp2_with fail
            refine Calls.mono HA.out ?_
            rintro e w2 ⟨rfl, rfl⟩
            have HO1 := hid (only_any (a : Int) (b : Int) _ X w2 (HX.out.below HB2.out) hl)
            clear HA
            go_wp2_with fail
            refine Calls.mono HO1.out ?_
            rintro e w3 ⟨⟨v1, rfl, ho1⟩, hb3⟩
            have HB3 := hid (HB2.out.trans (hb3.mono hz))
            have HO2 := hid (only_any (a : Int) (b : Int) _ Y w3 (HY.out.below HB3.out) hl2)
            have HR1 := hid ho1
            clear HO1 ho1 hb3
            go_wp2_with fail
            refine Calls.mono HO2.out ?_
            rintro e w4 ⟨⟨v2, rfl, ho2⟩, hb4⟩
            have HB4 := hid (HB3.out.trans (hb4.mono HB3.out.size))
            have HS := hid (same_any v1 v2 _ _ w4 ((HR1.out.below hb4).reads) ho2.reads (by omega) (by omega))
            clear HO2 ho2 hb4 HR1
            go_wp2_with fail
            refine Calls.mono HS.out ?_
            rintro e w5 ⟨⟨bb, rfl, hbb⟩, hb5⟩
            have HB5 := hid (HB4.out.trans (hb5.mono HB4.out.size))
            have HBb := hid hbb
            clear hbb hb5 HS
            cases bb with
            | true =>
              have HEq := hid (HBb.out.1 rfl)
              have HN := hid (show ∀ b' : Nat, b' < b + 1 → a ≤ b' → arP P (a : Int) (b' : Int) = false → onl X (a : Int) (b' : Int) = onl Y (a : Int) (b' : Int) from fun b' hb1 hb2 hb3 => by
                by_cases e : b' = b
                · subst e
                  exact HEq.out
                · exact HI2.out b' (by omega) hb2 hb3)
              go_wp2_with fail
              go_roundw
              case rel => exact ⟨b + 1, by omega, by omega, by go_num, HN.out, HB5.out⟩
              case measure => simp [intOf]; omega
            | false =>
              have HNo := hid (show a ≤ b → AkA P X Y (.returned (.bool false)) from fun hab => ⟨false, rfl, by simp, fun hall => by
                have := HBb.out.2 (hall a b h h2 hab HAr.out)
                cases this⟩)
              have HNo2 := hid (HNo.out hab0)
              clear HNo
              go_wp2
              go_ret
              exact ⟨HNo2.out, HB5.out⟩
        · have hI2 : ¬ (b : Int) < 16 := by omega
          have HN := hid (show ∀ a' b : Nat, a' < a + 1 → b < 16 → a' ≤ b → arP P (a' : Int) (b : Int) = false → onl X (a' : Int) (b : Int) = onl Y (a' : Int) (b : Int) from fun a' b' h1 h3 h4 h5 => by
            by_cases e : a' = a
            · subst e
              exact HI2.out b' (by omega) h4 h5
            · exact HI.out a' b' (by omega) h3 h4 h5)
          go_wp2_with fail
          go_roundw
          case rel => exact ⟨a + 1, by omega, by go_num, HN.out, HB2.out⟩
          case measure => simp [intOf]; omega
    · have hI : ¬ (a : Int) < 16 := by omega
      have HT := hid (show AkA P X Y (.returned (.bool true)) from ⟨true, rfl, fun _ a' b' h1 h2 h3 h4 => HI.out a' b' (by omega) h2 h3 h4, fun _ => rfl⟩)
      go_wp2
      go_ret
      exact ⟨HT.out, HB.out⟩
end Go.Proofs.Ytaiccmbhdgecgaa
