/-
  SchedAlls: every list in order, each its own; left early, and gone over again. Laid by mklawsal.py.
-/
import Derived.Test.YtjgfmikkbkoimaaAl4
import Derived.Test.YtjgfmikkbkoimaaSr2
namespace Go.Proofs.Ytjgfmikkbkoimaa
open Go.RowKit Go.Shelf
set_option maxRecDepth 100000
set_option linter.unusedVariables false
set_option linter.unusedSimpArgs false
attribute [local go_sem] Oper.semAt_some
attribute [local go_sem ↓] apN_op

theorem range_v3 {g : Operand} {p q : Tmp} {assign body : Code} {Q0 : Exit → Act → World → Prop} {a : Act} {w w0 : World} {gf : Nat} {lb : Array Value} {n : Nat} {D : Nat → World → Value → World → Prop} {id : Nat}
    (hg : a.eval g = .func (.func gf) #[] lb) (eg : ∀ args w, (callFunc gf args).run Try.prog w = .ok (.enter gf args) w) (hseq : SeqV gf lb w0.heap.size n D w0) (hb0 : Below w0.heap.size w0 w)
    (I Ix : Nat → World → Prop) (hI : ∀ k A A', I k A → Chg w.heap.size 2 A A' → I k A') (hIx : ∀ k A A', Ix k A → Chg w.heap.size 2 A A' → Ix k A') (h0 : I 0 w)
    (hassign : ∀ (l : Nat) (x : Value) (W : World) (K : Act → World → Prop), K { tmps := (a.tmps.setIfInBounds p x).setIfInBounds q x, defers := [] } W → assign.wpIn (Fence.wide.inRound l) 3 Try.prog (Exit.then K (fun _ _ _ => False)) { tmps := a.tmps.setIfInBounds p x, defers := [] } W)
    (hbody : ∀ (l k : Nat) (x : Value) (A W1 W : World), I k A → k < n → Below A.heap.size A W1 → D k A x W1 → Chg w.heap.size 2 W1 W → W.heap.size = W1.heap.size → w.heap.size + 2 ≤ A.heap.size → body.wpIn (Fence.wide.inRound l) 3 Try.prog (endV id w0.heap.size w.heap.size I Ix (k + 1) W) { tmps := (a.tmps.setIfInBounds p x).setIfInBounds q x, defers := [] } W)
    (G : World → Prop) (hd : ∀ W, I n W → G W) (hs : ∀ k W, Ix k W → G W)
    (hgo : ∀ W, G W → W.heap[w.heap.size]? = some (.deferred (some [])) → Q0 .normal { a with defers := { target := .collected w.heap.size, args := #[] } :: a.defers } W) :
    (Code.rangeFunc g #[p] assign body).wpIn Fence.wide 5 Try.prog (Exit.inBlock id Q0) a w :=
  range_v2 hg eg hseq hb0 I Ix hI hIx h0 (fun x => { tmps := (a.tmps.setIfInBounds p x).setIfInBounds q x, defers := [] }) hassign hbody G hd hs hgo
theorem seq_not (fn : Fn) (fi ca : Array Value) (w : World) : (binOp .eql 23 (.func fn fi ca) .nilFunc).run Try.prog w = .ok (.bool false) w := eql_func_nil w Try.underlying23 fn fi ca
/-- the iterator, whichever it is -/
structure AQ (h d : Int) (w1 : World) (gf : Nat) (lb : Array Value) (N H D : Nat) : Prop where
  eg : ∀ args w, (callFunc gf args).run Try.prog w = .ok (.enter gf args) w
  sq : SeqV gf lb w1.heap.size N (DgV H D) w1
  ok : (okA h d = true ∧ 0 < N ∧ N = H ^ D ∧ N ≤ 1048576 ∧ h = (H : Int) ∧ d = (D : Int) ∧ (1 ≤ H ∧ H ≤ 16) ∧ D ≤ 24) ∨ (okA h d = false ∧ N = 0)
theorem aq_of {h d : Int} {w1 : World} {e : Ending} (hE : AlE h d w1 e) : ∃ gf lb N H D, e = .returned (.func (.func gf) #[] lb) ∧ AQ h d w1 gf lb N H D := by
  rcases hE with ⟨hok, g1, g2, g3, rfl, x1, x2, x3⟩ | ⟨hok, rfl⟩
  · have hk : 1 ≤ h ∧ h ≤ 16 ∧ 0 ≤ d ∧ d ≤ 24 ∧ h.toNat ^ d.toNat ≤ 1048576 := of_decide_eq_true hok
    obtain ⟨H, hH⟩ : ∃ H : Nat, h = (H : Int) := ⟨h.toNat, by omega⟩
    obtain ⟨D, hD⟩ : ∃ D : Nat, d = (D : Int) := ⟨d.toNat, by omega⟩
    subst hH hD
    simp only [Int.toNat_natCast] at hk x1
    refine ⟨_, _, H ^ D, H, D, rfl, enters_of Try.func28 (by kernel_rfl) rfl, all_seq g1 g2 g3 _ H D w1 (by omega) (by omega) hk.2.2.2.2 x1.facts.2.2 x2.facts.2.2 x3.facts.2.2 x1 x2 x3, .inl ⟨hok, Nat.pow_pos (by omega), rfl, hk.2.2.2.2, rfl, rfl, by omega, by omega⟩⟩
  · exact ⟨_, _, 0, 0, 0, rfl, enters_of Try.func27 (by kernel_rfl) rfl, none_seq _ _ _, .inr ⟨hok, rfl⟩⟩
/-- the invariant of the range -/
def RI1 (w1 : World) (bt bb Bq : Nat) (t : Int) (N H D k : Nat) (W : World) : Prop := ∃ col iv iv0 V V0 wv, SB w1 bt bb Bq t (fun j => dig H j D) col iv iv0 V V0 wv (if k < N then dig H k D else []) k (decide (k < N)) W ∧ V.length = min k 40
/-- behind it -/
def RX1 (w1 : World) (bt bb Bq : Nat) (t : Int) (H D : Nat) (W : World) : Prop := ∃ col iv iv0 V V0 wv wl n, SB w1 bt bb Bq t (fun j => dig H j D) col iv iv0 V V0 wv wl n false W
theorem RI1.end {w1 : World} {bt bb Bq : Nat} {t : Int} {N H D : Nat} {W : World} (h : RI1 w1 bt bb Bq t N H D N W) : RX1 w1 bt bb Bq t H D W := by
  obtain ⟨col, iv, iv0, V, V0, wv, hs, _⟩ := h
  rw [decide_eq_false (Nat.lt_irrefl N)] at hs
  exact ⟨col, iv, iv0, V, V0, wv, _, _, hs⟩
def zB : Array Value := #[.slice none 0 0, .slice none 0 0, .slice none 0 0, .slice none 0 0, .slice none 0 0, .slice none 0 0, .slice none 0 0, .slice none 0 0, .slice none 0 0, .slice none 0 0, .slice none 0 0, .slice none 0 0, .slice none 0 0, .slice none 0 0]
/-- the variables of a round -/
structure Nv (ws wr : World) (cn : Bool) (wv : Value) (i : Nat) : Prop where
  b : BkB wr ws.heap.size (.slice none 0 0) (.slice none 0 0)
  m : Boxed wr (ws.heap.size + 1) 4 (.bool cn)
  n : IBox wr (ws.heap.size + 2) 0
  w : Boxed wr (ws.heap.size + 3) 36 wv
  o : OwI wr (ws.heap.size + 4) wv (List.replicate i 0)
  be : Below ws.heap.size ws wr
  sz : ws.heap.size + 4 ≤ wr.heap.size
theorem nv_new (ws : World) (cn : Bool) : Nv ws ((((ws.alloc (.cells zB 35)).alloc (.cells #[.bool cn] 4)).alloc (.cells #[.int .i64 0] 3)).alloc (.cells #[.slice none 0 0] 36)) cn (.slice none 0 0) 0 := by
  have h0 := heap_alloc_new ws (.cells zB 35)
  have h1 := heap_alloc_new (ws.alloc (.cells zB 35)) (.cells #[.bool cn] 4)
  have h2 := heap_alloc_new ((ws.alloc (.cells zB 35)).alloc (.cells #[.bool cn] 4)) (.cells #[.int .i64 0] 3)
  have h3 := heap_alloc_new (((ws.alloc (.cells zB 35)).alloc (.cells #[.bool cn] 4)).alloc (.cells #[.int .i64 0] 3)) (.cells #[.slice none 0 0] 36)
  simp only [World.size_alloc] at h1 h2 h3
  refine ⟨?_, ?_, ?_, ?_, Ow.nil _ _ _ _, ?_, by simp⟩
  · show _ = _
    rw [Lib.alloc_old _ _ _ (by simp <;> omega), Lib.alloc_old _ _ _ (by simp <;> omega), Lib.alloc_old _ _ _ (by simp <;> omega)]
    exact h0
  · show _ = _
    rw [Lib.alloc_old _ _ _ (by simp <;> omega), Lib.alloc_old _ _ _ (by simp <;> omega)]
    exact h1
  · show _ = _
    rw [Lib.alloc_old _ _ _ (by simp <;> omega)]
    exact h2
  · exact h3
  · exact ((((Below.refl _ _).alloc (Nat.le_refl _) _).alloc (by simp) _).alloc (by simp <;> omega) _).alloc (by simp <;> omega) _
/-- the state ahead of the range -/
theorem nv_start {ws wb : World} {bt N H D : Nat} {t : Int} {cn : Bool} {wv : Value} {i : Nat} (h : Nv ws wb cn wv i) (ht : IBox ws bt t) (hcn : cn = decide (0 < N)) (hl : List.replicate i (0 : Int) = if 0 < N then dig H 0 D else []) (hD : D ≤ 24) : RI1 ws bt ws.heap.size wb.heap.size t N H D 0 wb ∧ Pr ws bt ws.heap.size wb.heap.size := by
  have hbt : bt < ws.heap.size := ht.facts.2.2
  have hz := h.sz
  subst hcn
  refine ⟨⟨fun g => if wv.ownBlock = some g then 18 else 14, _, _, [], [], wv, ⟨⟨h.b, ⟨Ow.nil _ _ _ _, RwG.nil _ _ _ _ _ _ _ _ _⟩, Ow.nil _ _ _ _, RwG.nil _ _ _ _ _ _ _ _ _, rfl, ?_, by simp, fun j => ?_⟩, h.m, h.n, h.w, ?_, (h.be.block bt hbt).trans ht, fun g hg => ?_, h.be⟩, by simp⟩, ⟨Nat.le_refl _, hbt, by omega⟩⟩
  · show (if wv.ownBlock = some ws.heap.size then 18 else 14) = 14
    rw [if_neg (fun e => by have := (h.o.lt _ e).1; omega)]
  · show (dig H j D).length ≤ _
    rw [dig_len]
    omega
  · have h2 : Ow eN 1 3 (fun g => if wv.ownBlock = some g then 18 else 14) 18 wb (ws.heap.size + 4) wv (List.replicate i 0) := ⟨h.o.1, fun g hg => by show (if wv.ownBlock = some g then 18 else 14) = 18; rw [if_pos hg]⟩
    have h3 := h2.lower (base' := ws.heap.size) (by omega)
    rw [hl] at h3
    exact h3
  · show (if wv.ownBlock = some g then 18 else 14) = 14
    rw [if_neg (fun e => by have := h.o.lt _ e; unfold P14 at hg; omega)]
theorem results_cellB {fn : Func} {p : Tmp} (h : fn.results = #[.cell p 4]) (tmps : Array Value) (w : World) (g : Nat) (b : Bool) (hp : tmps.getD p undef = .pointer (some ⟨g, 0, none⟩)) (hc : w.cell? ⟨g, 0, none⟩ = some (.bool b)) : (results fn tmps).run Try.prog w = .ok (.bool b) w := by
  have hp' : tmps[p]?.getD undef = .pointer (some ⟨g, 0, none⟩) := by simpa using hp
  simp [results, h, hp', asAddr, go_sem, hc]
theorem SeqV.later {gf : Nat} {lb : Array Value} {B0 B1 n : Nat} {D : Nat → World → Value → World → Prop} {w1 w2 : World} (h : SeqV gf lb B0 n D w1) (hb : Below B0 w1 w2) (hB : B0 ≤ B1) (h2 : B1 ≤ w2.heap.size) : SeqV gf lb B1 n D w2 := fun l J Jx W hW hz hJ hJx hY h0 =>
  h l J Jx W (hb.trans (hW.mono hB)) (by omega) hJ hJx (fun k v A W1 hj hk hA hD hs => by
    obtain ⟨fn, tmps, assign, body, hy, hR⟩ := hY k v A W1 hj hk hA hD hs
    refine ⟨fn, tmps, assign, body, hy, hR.mono ?_⟩
    rintro e W' (⟨h1, h2, h3⟩ | ⟨h1, h2, h3⟩)
    · exact .inl ⟨h1, h2, h3.size, fun k hk => h3.block k (by omega)⟩
    · exact .inr ⟨h1, h2, h3.size, fun k hk => h3.block k (by omega)⟩) h0
/-- want = append(want, 0) -/
theorem nv_app {ws wr w2 : World} {cn : Bool} {wv v' : Value} {i : Nat} {o : Obj} (h : Nv ws wr cn wv i) (hg : (wr.alloc o).grownBy w2 wv.ownBlock) (ho : OwI w2 (ws.heap.size + 4) v' (List.replicate i 0 ++ [0])) : Nv ws (w2.setCell ⟨ws.heap.size + 3, 0, none⟩ v') cn v' (i + 1) ∧ w2.cell? ⟨ws.heap.size + 3, 0, none⟩ = some wv ∧ w2.frozen? ⟨ws.heap.size + 3, 0, none⟩ = false := by
  have hz := h.sz
  have hzg : wr.heap.size + 1 ≤ w2.heap.size := by have := hg.size; simpa using this
  have old : ∀ g, g < ws.heap.size + 4 → w2.heap[g]? = wr.heap[g]? := fun g hlt => (hg.block g (by simp; omega) (fun e => by have := (h.o.lt g e.symm).1; omega)).trans (Lib.alloc_old wr o g (by omega))
  have gb := gb_set w2 (ws.heap.size + 3) 0 v'
  have old2 : ∀ g, g < ws.heap.size + 3 → (w2.setCell ⟨ws.heap.size + 3, 0, none⟩ v').heap[g]? = wr.heap[g]? := fun g hlt => (gb.block g (by omega) (fun e => by injection e with e; omega)).trans (old g (by omega))
  have hw2 : Boxed w2 (ws.heap.size + 3) 36 wv := (old _ (by omega)).trans h.w
  refine ⟨⟨(old2 _ (by omega)).trans h.b, (old2 _ (by omega)).trans h.m, (old2 _ (by omega)).trans h.n, hw2.set v', ?_, ?_, by simp; omega⟩, hw2.cell, hw2.frozen⟩
  · rw [List.replicate_succ']
    exact ho.keep fun g hg' => gb.block g (ho.lt g hg').2 (fun e => by injection e with e; have := (ho.lt g hg').1; omega)
  · have hal := alloc_below wr o
    exact h.be.trans ⟨by show w2.os = _; rw [hg.os, hal.os], by show w2.tape = _; rw [hg.tape, hal.tape], by show w2.output = _; rw [hg.output, hal.output], by simp; omega, fun k hk => old2 k (by omega)⟩
set_option maxHeartbeats 20000000 in
theorem alls_law (h d mo : Int) (w : World) (hmo : -9223372036854775808 ≤ mo ∧ mo ≤ 9223372036854775807) :
    Calls Try.prog 3 #[.int .i64 h, .int .i64 d, .int .i64 mo] w fun e w' => e = .returned (.bool true) ∧ Below w.heap.size w w' := by
  have HAl := hid (all_any h d)
  have HCa := hid (canAll_any h d)
  have HSm := hid same_any
  have HNx := hid next_any
  have HIn := hid ints_any
  have HAp := hid apartI_any
  obtain ⟨W0, hW0⟩ : ∃ W0, ((w.alloc (.cells #[.int .i64 h] 3)).alloc (.cells #[.int .i64 mo] 3)).alloc (.cells #[.bool false] 4) = W0 := ⟨_, rfl⟩
  have bW0 : Below w.heap.size w W0 := by rw [← hW0]; exact (((Below.refl _ _).alloc (Nat.le_refl _) _).alloc (by simp) _).alloc (by simp <;> omega) _
  have x0 : IBox W0 w.heap.size h ∧ IBox W0 (w.heap.size + 1) mo ∧ Boxed W0 (w.heap.size + 2) 4 (.bool false) := by
    have h0 := heap_alloc_new w (.cells #[.int .i64 h] 3)
    have h1 := heap_alloc_new (w.alloc (.cells #[.int .i64 h] 3)) (.cells #[.int .i64 mo] 3)
    have h2 := heap_alloc_new ((w.alloc (.cells #[.int .i64 h] 3)).alloc (.cells #[.int .i64 mo] 3)) (.cells #[.bool false] 4)
    simp only [World.size_alloc] at h1 h2
    rw [← hW0]
    refine ⟨?_, ?_, h2⟩
    · show _ = _
      rw [Lib.alloc_old _ _ _ (by simp <;> omega), Lib.alloc_old _ _ _ (by simp <;> omega)]
      exact h0
    · show _ = _
      rw [Lib.alloc_old _ _ _ (by simp <;> omega)]
      exact h1
  have q0 := x0.1.facts.1
  have HX0 := hid x0
  have HB0 := hid bW0
  clear x0 bW0
  refine (callsIn_wide (n := 5)).1 ?_
  refine callsIn_of_wp_marks Try.func3 rfl trivial ?_ rfl
  simp only [Try.ntmps3, List.size_toArray, List.length_cons, List.length_nil, Nat.reduceAdd, Nat.reduceSub, Array.replicate_succ, Array.replicate_zero, List.push_toArray, List.append_toArray, List.nil_append, List.cons_append]
  gi_wp2_with fail
  refine ⟨trivial, (callsIn_wide.2 (HAl.out _)).mono ?_⟩
  rintro e w1 ⟨hE, hb1⟩
  obtain ⟨gf, lb, N, H, D, rfl, hAQ⟩ := aq_of hE
  have HAQ := hid hAQ
  have hnn := seq_not (.func gf) #[] lb
  have HX1 := hid (show IBox w1 w.heap.size h ∧ IBox w1 (w.heap.size + 1) mo ∧ Boxed w1 (w.heap.size + 2) 4 (.bool false) from ⟨HX0.out.1.later hb1, HX0.out.2.1.later hb1, (hb1.block _ HX0.out.2.2.lt).trans HX0.out.2.2⟩)
  have HB1 := hid (HB0.out.trans (hb1.mono HB0.out.size))
  have q1 := HX1.out.1.facts.1
  clear hE hb1 q0 hAQ HX0 HB0
  gi_wp2_with fail
  refine ⟨trivial, (callsIn_wide.2 (HCa.out _)).mono ?_⟩
  rintro e wz ⟨rfl, hwz⟩
  replace hwz := hwz.symm
  subst hwz
  have HCn := hid (show okA h d = decide (0 < N) by
    rcases HAQ.out.ok with ⟨h1, h2, _⟩ | ⟨h1, h2⟩
    · rw [h1, decide_eq_true h2]
    · rw [h1, h2]; rfl)
  have HDl := hid (show 0 < N → d = (D : Int) ∧ D ≤ 24 ∧ N = H ^ D ∧ N ≤ 1048576 ∧ h = (H : Int) ∧ (1 ≤ H ∧ H ≤ 16) from by
    rcases HAQ.out.ok with ⟨_, _, h1, h2, h3, h4, h5, h6⟩ | ⟨_, h2⟩
    · exact fun _ => ⟨h4, h6, h1, h2, h3, h5⟩
    · intro hc; omega)
  have hx : IBox (w1.alloc (.cells #[.int .i64 0] 3)) w1.heap.size 0 := heap_alloc_new w1 _
  obtain ⟨ws, hws⟩ : ∃ ws, w1.alloc (.cells #[.int .i64 0] 3) = ws := ⟨_, rfl⟩
  rw [hws] at hx
  have HS0 := hid (show IBox ws w1.heap.size 0 ∧ Below w1.heap.size w1 ws from ⟨hx, by rw [← hws]; exact alloc_below _ _⟩)
  have qt := hx.facts.1
  have HWs := hid hws
  clear hx q1 hws
  obtain ⟨bt, hbt⟩ : ∃ bt, bt = w1.heap.size := ⟨_, rfl⟩
  by_cases hN : 0 < N
  · have hcn : okA h d = true := by rw [HCn.out]; exact decide_eq_true hN
    obtain ⟨h1, h2, h3, h4, h5, h6⟩ := HDl.out hN
    subst h1 h5
    have HD24 := hid h2
    have HNe := hid h3
    have HNl := hid h4
    have HH := hid h6
    rw [hcn]
    clear h2 h3 h4 h6 HDl HCn HAl HCa hcn
    have HSt := hid (show IBox ws bt 0 by rw [hbt]; exact HS0.out.1)
    have HW1s := hid HS0.out.2
    have HQ := hid (show IBox ws w.heap.size (H : Int) ∧ IBox ws (w.heap.size + 1) mo from ⟨HX1.out.1.later HS0.out.2, HX1.out.2.1.later HS0.out.2⟩)
    have HQl := hid (show w.heap.size < ws.heap.size ∧ w.heap.size + 1 < ws.heap.size from ⟨HQ.out.1.facts.2.2, HQ.out.2.facts.2.2⟩)
    gi_wp2_with fail
    rw [HWs.out, ← hbt]
    rw [← hbt] at qt
    simp only [Nat.add_assoc, Nat.reduceAdd]
    clear HS0 HWs hbt
    refine wpIn_loop_rounds 3 ?_
    rw [roundsIn_succ]

    have hnv := nv_new ws true
    unfold zB at hnv
    generalize hwn : (((((ws).alloc (.cells #[.slice none 0 0, .slice none 0 0, .slice none 0 0, .slice none 0 0, .slice none 0 0, .slice none 0 0, .slice none 0 0, .slice none 0 0, .slice none 0 0, .slice none 0 0, .slice none 0 0, .slice none 0 0, .slice none 0 0, .slice none 0 0] 35)).alloc (.cells #[.bool true] 4)).alloc (.cells #[.int .i64 0] 3)).alloc (.cells #[.slice none 0 0] 36)) = wn at hnv
    have HNv := hid hnv
    have HWn := hid hwn
    clear hnv hwn
    gi_wp2_with fail
    rw [HWn.out]
    simp only [Nat.add_assoc, Nat.reduceAdd]
    gi_loopw [14] (fun s14 wr => ∃ (i : Nat) (wv : Value), s14 = .int .i64 (i : Int) ∧ Hid (Nv ws wr true wv i) ∧ i ≤ D) (fun s14 _ => D - (intOf s14).toNat)
    case atStart => exact ⟨0, _, rfl, HNv, Nat.zero_le _⟩
    case round =>
      obtain ⟨i, wv, h14, HNr, hi⟩ := hrel
      subst h14
      clear HNv
      have h24 := HD24.out
      by_cases hgo : i < D
      · have hI : (i : Int) < (D : Int) := by omega
        have hdI : decide (i < D) = true := by simp; exact hgo
        obtain ⟨wo, wc, hwv⟩ := HNr.out.o.sl
        rw [List.length_replicate] at hwv
        subst hwv
        have b1 := alloc_below wr (.cells #[.int .i64 0] 3)
        have hcw := HNr.out.w.cell
        have hcw2 := (HNr.out.w.alloc (.cells #[.int .i64 0] 3)).cell
        obtain ⟨v', w2, col', hap, ho, _, hg, _, _⟩ := run_appD (enc := eN) (col := fun _ => 0) (c := 0) iinf Try.underlying36 rfl (by decide) eN_len (HNr.out.o.later b1) (.slice (some ⟨wr.heap.size, 0, none⟩) 1 1) [0] (.inr ⟨_, 1, rfl, cell_new wr (.int .i64 0) 3 eN 0 rfl⟩) (fun x hx => eN_one x) (by simp; omega) (by simp [maxLen]; omega) (by have := HNr.out.sz; simp; omega) 36
        rw [apN_op] at hap
        have ho' : OwI w2 (ws.heap.size + 4) v' (List.replicate i 0 ++ [0]) := ⟨ho.1, fun _ _ => rfl⟩
        obtain ⟨hn2, hc2, hf2⟩ := nv_app HNr.out hg ho'
        have HN2 := hid hn2
        obtain ⟨vo, vc, hvv⟩ := ho'.sl
        generalize (List.replicate i (0 : Int) ++ [0]).length = vn at hvv
        subst hvv
        clear b1 ho ho' hg hn2 hgo
        gi_wp2
        go_roundw
        case rel => exact ⟨i + 1, _, by go_num, HN2, by omega⟩
        case measure => simp [intOf]; omega
      · have hI : ¬ (i : Int) < (D : Int) := by omega
        have hdI : decide (i < D) = false := by simp; omega
        have hiD : D = i := by omega
        subst hiD
        obtain ⟨hr0, hpr⟩ := nv_start (N := N) (H := H) (D := D) HNr.out HSt.out (decide_eq_true hN).symm (by rw [if_pos hN, dig_zero H HH.out.1]) h24
        obtain ⟨wb, hwb⟩ : ∃ wb, wb = wr := ⟨_, rfl⟩
        subst hwb
        have HR0 := hid hr0
        have HBb := hid HNr.out.be
        have HPr := hid hpr
        have HSq := hid (HAQ.out.sq.later HW1s.out (by have := HW1s.out.size; omega) (Nat.le_refl _) : SeqV gf lb ws.heap.size N (DgV H D) ws)
        clear hr0 hpr HNr
        gi_wp2_with fail
        refine range_v3 (w0 := ws) (gf := gf) (lb := lb) (n := N) (D := DgV H D) (q := 15) rfl HAQ.out.eg HSq.out HBb.out (fun k W => RI1 ws bt ws.heap.size wb.heap.size 0 N H D k W) (fun _ W => RX1 ws bt ws.heap.size wb.heap.size 0 H D W) ?hI ?hIx HR0.out ?assign ?body (fun W => RX1 ws bt ws.heap.size wb.heap.size 0 H D W) (fun W hh => hh.end) (fun _ W hh => hh) ?go
        case hI =>
          rintro k A A' ⟨c1, c2, c3, c4, c5, c6, hs, hv⟩ hc
          exact ⟨c1, c2, c3, c4, c5, c6, hs.chg HPr.out hc, hv⟩
        case hIx =>
          rintro k A A' ⟨c1, c2, c3, c4, c5, c6, c7, c8, hs⟩ hc
          exact ⟨c1, c2, c3, c4, c5, c6, c7, c8, hs.chg HPr.out hc⟩
        case assign =>
          intro l x W K hK
          have HKK := hid hK
          clear hK
          gi_wp2
          exact HKK.out
        case body =>
          intro l k x A W1 W hI hk hAW hD hc hz hsz
          obtain ⟨col, iv, iv0, V, V0, wv, hs, hv⟩ := hI
          rw [if_pos hk, decide_eq_true hk] at hs
          obtain ⟨col1, hs1, ho1⟩ := hs.fresh hsz HPr.out hAW x (dig H k D) hD (4 * V.length)
          have hs2 := hs1.chg HPr.out hc
          have ho2 : Ow eN 1 3 col1 (4 * V.length) W ws.heap.size x (dig H k D) := ho1.keep (fun g hg => hc.block g (ho1.lt g hg).2 (by have := (hD.lt g hg).1; omega))
          obtain ⟨xo, xc, hxv⟩ := ho2.sl
          rw [dig_len] at hxv
          subst hxv
          obtain ⟨wo, wc, hwv⟩ := hs2.wl.sl
          rw [dig_len] at hwv
          subst hwv
          have hzW : wb.heap.size + 2 ≤ W.heap.size := by have := hAW.size; omega
          have cm := hs2.m.cell
          have cw := hs2.wn.cell
          have HSa := hid (HSm.out _ _ (dig H k D) (dig H k D) W ho2.ri hs2.wl.ri (by rw [dig_len]; have := HD24.out; omega) (by rw [dig_len]; have := HD24.out; omega))
          have HS2 := hid hs2
          have HO2 := hid ho2
          have HZW := hid hzW
          have HKk := hid hk
          have HVv := hid hv
          clear hs hs1 ho1 hs2 ho2 hAW hD hc hz hsz hzW hv
          simp only [List.setIfInBounds_toArray, List.set_cons_succ, List.set_cons_zero]
          gi_wp2_with fail
          refine ⟨trivial, ((callsIn_wide.2 HSa.out).inRound l).mono ?_⟩
          rintro e w3 ⟨⟨b, rfl, hbb⟩, hb3⟩
          have hbt' : b = true := by simpa using hbb
          subst hbt'
          have hs3 := HS2.out.later HPr.out hb3
          have ho3 := HO2.out.later hb3
          have cn3 := hs3.n.facts.1
          have hz3 : wb.heap.size + 2 ≤ w3.heap.size := by have := hb3.size; have := HZW.out; omega
          have HK3 := hid (show KpW ws.heap.size wb.heap.size 2 W w3 from kpw_below hb3 (by have := HS2.out.be.size; omega) HZW.out)
          have HO3 := hid ho3
          have HS3 := hid hs3
          have HZ3 := hid hz3
          clear hs3 ho3 hb3 hbb cm cw hz3
          by_cases h40 : k < 40
          · have h40I : (k : Int) < 40 := by omega
            have hVk : V.length = k := by have := HVv.out; omega
            subst hVk
            have HI3 := hid (HIn.out w3 ws.heap.size ws.heap.size col1 iv iv0 _ V V0 (fun j => dig H j D) (dig H V.length D) HS3.out.bk HO3.out (by have := HS3.out.be.size; omega) (by rw [dig_len]; have := HD24.out; omega) (by omega))
            gi_wp2_with fail
            refine ⟨trivial, ((callsIn_wide.2 HI3.out).inRound l).mono ?_⟩
            intro e w4 hA
            obtain ⟨rfl, ⟨col4, iv4, iv04, V04, hs4⟩, hkp⟩ := HS3.out.ints HZ3.out HPr.out hA
            have HK4 := hid (HK3.out.trans hkp)
            have HVl := hid (show (V ++ [Value.slice xo D xc]).length = min (V.length + 1) 40 by simp; omega)
            clear hA hkp HI3 HS3 HO3 HVv HS2 HO2
            have hkb : V.length ≤ 1048576 := by have := HKk.out; have := HNl.out; omega
            have hz4 : wb.heap.size + 2 ≤ w4.heap.size := by have := HK4.out.size; have := HZW.out; omega
            have cw4 := hs4.wn.cell
            have qh4 : w4.cell? ⟨w.heap.size, 0, none⟩ = some (.int .i64 (H : Int)) := ((show IBox w4 _ _ from (hs4.be.block _ HQl.out.1).trans HQ.out.1)).facts.1
            have HN4 := hid (HNx.out H D V.length _ HH.out HD24.out (by rw [← HNe.out]; exact HKk.out) w4 hs4.wl.ri)
            have HS4 := hid hs4
            have HZ4 := hid hz4
            clear hs4 hz4
            gi_wp2_with fail
            refine ⟨trivial, ((callsIn_wide.2 HN4.out).inRound l).mono ?_⟩
            rintro e w5 ⟨v, ok, rfl, hcase, hb5⟩
            rw [← HNe.out] at hcase
            have hv5 : OwI w5 w4.heap.size v (if V.length + 1 < N then dig H (V.length + 1) D else []) ∧ ok = decide (V.length + 1 < N) := by
              rcases hcase with ⟨a1, a2, a3⟩ | ⟨a1, a2, a3⟩
              · rw [if_pos a1, decide_eq_true a1]; exact ⟨a3, a2⟩
              · rw [if_neg (by omega), decide_eq_false (by omega), a3]; exact ⟨Ow.nil _ _ _ _, a2⟩
            obtain ⟨hv5, hok⟩ := hv5
            subst hok
            obtain ⟨col5, hs5, ho5⟩ := HS4.out.fresh HZ4.out HPr.out hb5 v _ hv5 18
            obtain ⟨vo, vc, hvv⟩ := hv5.sl
            generalize (if V.length + 1 < N then dig H (V.length + 1) D else []).length = vn at hvv
            subst hvv
            have hs6 := hs5.setw HPr.out _ _ ho5
            have hs7 := hs6.setm HPr.out (decide (V.length + 1 < N))
            have hs8 := hs7.setn HPr.out (V.length + 1)
            rw [show ((V.length + 1 : Nat) : Int) = (V.length : Int) + 1 by omega] at hs8
            have kp8 : KpW ws.heap.size wb.heap.size 2 W _ := ((((HK4.out.trans (kpw_below hb5 (by have := HS4.out.be.size; omega) HZ4.out)).trans (SB.kpw HPr.out (ws.heap.size + 3) (by omega) (.slice vo vn vc))).trans (SB.kpw HPr.out (ws.heap.size + 1) (by omega) (.bool (decide (V.length + 1 < N))))).trans (SB.kpw HPr.out (ws.heap.size + 2) (by omega) (.int .i64 ((V.length : Int) + 1))))
            have y1 := hs5.wn.cell
            have y2 := hs5.wn.frozen
            have y3 := hs6.m.cell
            have y4 := hs6.m.frozen
            have y5 := hs7.n.facts.1
            have y6 := hs7.n.facts.2.1
            have y7 := hs8.tt.facts.1
            have y8 := hs8.n.facts.1
            have y9 : (((w5.setCell ⟨ws.heap.size + 3, 0, none⟩ (.slice vo vn vc)).setCell ⟨ws.heap.size + 1, 0, none⟩ (.bool (decide (V.length + 1 < N)))).setCell ⟨ws.heap.size + 2, 0, none⟩ (.int .i64 ((V.length : Int) + 1))).cell? ⟨w.heap.size + 1, 0, none⟩ = some (.int .i64 mo) := ((show IBox _ _ _ from (hs8.be.block _ HQl.out.2).trans HQ.out.2)).facts.1
            generalize hw6 : w5.setCell ⟨ws.heap.size + 3, 0, none⟩ (.slice vo vn vc) = w6 at *
            generalize hw7 : w6.setCell ⟨ws.heap.size + 1, 0, none⟩ (.bool (decide (V.length + 1 < N))) = w7 at *
            generalize hw8 : w7.setCell ⟨ws.heap.size + 2, 0, none⟩ (.int .i64 ((V.length : Int) + 1)) = w8 at *
            have z1 := hs8.m.cell
            have z2 := hs8.m.frozen
            have HKP := hid kp8
            have HS8 := hid hs8
            have HX8 := hid (show RX1 ws bt ws.heap.size wb.heap.size 0 H D (w8.setCell ⟨ws.heap.size + 1, 0, none⟩ (.bool false)) from ⟨_, _, _, _, _, _, _, _, hs8.setm HPr.out false⟩)
            clear hs5 hs6 hs7 hs8 ho5 hv5 hcase hb5 kp8
            by_cases hmost : mo ≤ (V.length : Int) + 1
            · have HM := hid hmost
              gi_wp2
              exact .inr ⟨rfl, HKP.out.trans (SB.kpw HPr.out (ws.heap.size + 1) (by omega) (.bool false)), HX8.out⟩
            · have hm2 : ¬ mo ≤ (V.length : Int) + 1 := hmost
              gi_wp2
              exact .inl ⟨rfl, HKP.out, ⟨_, _, _, _, _, _, HS8.out, HVl.out⟩⟩
          · have h40I : ¬ (k : Int) < 40 := by omega
            obtain ⟨w4, hw4⟩ : ∃ w4, w4 = w3 := ⟨_, rfl⟩
            subst hw4
            have hs4 := HS3.out
            have HK4 := HK3
            have HVl := hid (show V.length = min (k + 1) 40 by have := HVv.out; omega)
            clear HS3 HO3 HVv HS2 HO2
            have hkb : k ≤ 1048576 := by have := HKk.out; have := HNl.out; omega
            have hz4 : wb.heap.size + 2 ≤ w4.heap.size := by have := HK4.out.size; have := HZW.out; omega
            have cw4 := hs4.wn.cell
            have qh4 : w4.cell? ⟨w.heap.size, 0, none⟩ = some (.int .i64 (H : Int)) := ((show IBox w4 _ _ from (hs4.be.block _ HQl.out.1).trans HQ.out.1)).facts.1
            have HN4 := hid (HNx.out H D k _ HH.out HD24.out (by rw [← HNe.out]; exact HKk.out) w4 hs4.wl.ri)
            have HS4 := hid hs4
            have HZ4 := hid hz4
            clear hs4 hz4
            gi_wp2_with fail
            refine ⟨trivial, ((callsIn_wide.2 HN4.out).inRound l).mono ?_⟩
            rintro e w5 ⟨v, ok, rfl, hcase, hb5⟩
            rw [← HNe.out] at hcase
            have hv5 : OwI w5 w4.heap.size v (if k + 1 < N then dig H (k + 1) D else []) ∧ ok = decide (k + 1 < N) := by
              rcases hcase with ⟨a1, a2, a3⟩ | ⟨a1, a2, a3⟩
              · rw [if_pos a1, decide_eq_true a1]; exact ⟨a3, a2⟩
              · rw [if_neg (by omega), decide_eq_false (by omega), a3]; exact ⟨Ow.nil _ _ _ _, a2⟩
            obtain ⟨hv5, hok⟩ := hv5
            subst hok
            obtain ⟨col5, hs5, ho5⟩ := HS4.out.fresh HZ4.out HPr.out hb5 v _ hv5 18
            obtain ⟨vo, vc, hvv⟩ := hv5.sl
            generalize (if k + 1 < N then dig H (k + 1) D else []).length = vn at hvv
            subst hvv
            have hs6 := hs5.setw HPr.out _ _ ho5
            have hs7 := hs6.setm HPr.out (decide (k + 1 < N))
            have hs8 := hs7.setn HPr.out (k + 1)
            rw [show ((k + 1 : Nat) : Int) = (k : Int) + 1 by omega] at hs8
            have kp8 : KpW ws.heap.size wb.heap.size 2 W _ := ((((HK4.out.trans (kpw_below hb5 (by have := HS4.out.be.size; omega) HZ4.out)).trans (SB.kpw HPr.out (ws.heap.size + 3) (by omega) (.slice vo vn vc))).trans (SB.kpw HPr.out (ws.heap.size + 1) (by omega) (.bool (decide (k + 1 < N))))).trans (SB.kpw HPr.out (ws.heap.size + 2) (by omega) (.int .i64 ((k : Int) + 1))))
            have y1 := hs5.wn.cell
            have y2 := hs5.wn.frozen
            have y3 := hs6.m.cell
            have y4 := hs6.m.frozen
            have y5 := hs7.n.facts.1
            have y6 := hs7.n.facts.2.1
            have y7 := hs8.tt.facts.1
            have y8 := hs8.n.facts.1
            have y9 : (((w5.setCell ⟨ws.heap.size + 3, 0, none⟩ (.slice vo vn vc)).setCell ⟨ws.heap.size + 1, 0, none⟩ (.bool (decide (k + 1 < N)))).setCell ⟨ws.heap.size + 2, 0, none⟩ (.int .i64 ((k : Int) + 1))).cell? ⟨w.heap.size + 1, 0, none⟩ = some (.int .i64 mo) := ((show IBox _ _ _ from (hs8.be.block _ HQl.out.2).trans HQ.out.2)).facts.1
            generalize hw6 : w5.setCell ⟨ws.heap.size + 3, 0, none⟩ (.slice vo vn vc) = w6 at *
            generalize hw7 : w6.setCell ⟨ws.heap.size + 1, 0, none⟩ (.bool (decide (k + 1 < N))) = w7 at *
            generalize hw8 : w7.setCell ⟨ws.heap.size + 2, 0, none⟩ (.int .i64 ((k : Int) + 1)) = w8 at *
            have z1 := hs8.m.cell
            have z2 := hs8.m.frozen
            have HKP := hid kp8
            have HS8 := hid hs8
            have HX8 := hid (show RX1 ws bt ws.heap.size wb.heap.size 0 H D (w8.setCell ⟨ws.heap.size + 1, 0, none⟩ (.bool false)) from ⟨_, _, _, _, _, _, _, _, hs8.setm HPr.out false⟩)
            clear hs5 hs6 hs7 hs8 ho5 hv5 hcase hb5 kp8
            by_cases hmost : mo ≤ (k : Int) + 1
            · have HM := hid hmost
              gi_wp2
              exact .inr ⟨rfl, HKP.out.trans (SB.kpw HPr.out (ws.heap.size + 1) (by omega) (.bool false)), HX8.out⟩
            · have hm2 : ¬ mo ≤ (k : Int) + 1 := hmost
              gi_wp2
              exact .inl ⟨rfl, HKP.out, ⟨_, _, _, _, _, _, HS8.out, HVl.out⟩⟩
        case go =>
          rintro W ⟨col, iv, iv0, V, V0, wv, wl, n, hs⟩ hK
          have c1 := hs.m.cell
          have HA9 := hid (HAp.out W ws.heap.size ws.heap.size col iv iv0 V V0 _ hs.bk hs.be.size)
          have HS9 := hid hs
          have HK9 := hid hK
          clear hs hK
          gi_wp2_with fail
          refine ⟨trivial, (callsIn_wide.2 HA9.out).mono ?_⟩
          rintro e w9 ⟨rfl, hBx⟩
          have hq := HPr.out.q
          have ht9 : IBox w9 bt 0 := (hBx.oth bt HS9.out.tt.facts.2.2 (by rw [HS9.out.c14 bt (by unfold P14; omega)]; decide)).trans HS9.out.tt
          have hk9 : w9.heap[wb.heap.size]? = some (.deferred (some [])) := (hBx.oth wb.heap.size (Array.getElem?_eq_some_iff.1 HK9.out).1 (by rw [HS9.out.c14 wb.heap.size (by unfold P14; omega)]; decide)).trans HK9.out
          have be9 : Below ws.heap.size ws w9 := HS9.out.be.trans hBx.bel
          have c9 := ht9.facts.1
          have hx9 : IBox (w9.alloc (.cells #[.int .i64 1] 3)) w9.heap.size 1 := heap_alloc_new w9 _
          obtain ⟨wt, hwt⟩ : ∃ wt, w9.alloc (.cells #[.int .i64 1] 3) = wt := ⟨_, rfl⟩
          rw [hwt] at hx9
          have ba : Below w9.heap.size w9 wt := by rw [← hwt]; exact alloc_below _ _
          have HSt2 := hid hx9
          have HW2 := hid (HW1s.out.trans ((be9.trans (ba.mono be9.size)).mono HW1s.out.size))
          have HBe2 := hid (be9.trans (ba.mono be9.size))
          have HKd0 := hid ((ba.block wb.heap.size (Array.getElem?_eq_some_iff.1 hk9).1).trans hk9)
          have HWt := hid hwt
          have hBql0 : wb.heap.size < wt.heap.size := (Array.getElem?_eq_some_iff.1 HKd0.out).1
          have hBqg0 : ws.heap.size ≤ wb.heap.size := by have := HPr.out.q; have := HPr.out.t; omega
          have qt2 := hx9.facts.1
          clear ht9 hk9 be9 hx9 hwt ba hBx HS9 HK9 HA9 c1
          gi_wp2_with fail
          rw [HWt.out]
          have HQ2 := hid (show IBox wt w.heap.size (H : Int) ∧ IBox wt (w.heap.size + 1) mo from ⟨(HBe2.out.block _ HQl.out.1).trans HQ.out.1, (HBe2.out.block _ HQl.out.2).trans HQ.out.2⟩)
          have HQl2 := hid (show w.heap.size < wt.heap.size ∧ w.heap.size + 1 < wt.heap.size from ⟨HQ2.out.1.facts.2.2, HQ2.out.2.facts.2.2⟩)
          clear HSq HPr HBb HR0 c9 hq
          rw [roundsIn_succ]
          have hnv := nv_new wt true
          unfold zB at hnv
          generalize hwn : (((((wt).alloc (.cells #[.slice none 0 0, .slice none 0 0, .slice none 0 0, .slice none 0 0, .slice none 0 0, .slice none 0 0, .slice none 0 0, .slice none 0 0, .slice none 0 0, .slice none 0 0, .slice none 0 0, .slice none 0 0, .slice none 0 0, .slice none 0 0] 35)).alloc (.cells #[.bool true] 4)).alloc (.cells #[.int .i64 0] 3)).alloc (.cells #[.slice none 0 0] 36)) = wn at hnv
          have HNv := hid hnv
          have HWn := hid hwn
          clear hnv hwn
          gi_wp2_with fail
          rw [HWn.out]
          simp only [Nat.add_assoc, Nat.reduceAdd]
          gi_loopw [14] (fun s14 wr => ∃ (i : Nat) (wv : Value), s14 = .int .i64 (i : Int) ∧ Hid (Nv wt wr true wv i) ∧ i ≤ D) (fun s14 _ => D - (intOf s14).toNat)
          case atStart => exact ⟨0, _, rfl, HNv, Nat.zero_le _⟩
          case round =>
            obtain ⟨i, wv, h14, HNr, hi⟩ := hrel
            subst h14
            clear HNv
            have h24 := HD24.out
            by_cases hgo : i < D
            · have hI : (i : Int) < (D : Int) := by omega
              have hdI : decide (i < D) = true := by simp; exact hgo
              obtain ⟨wo, wc, hwv⟩ := HNr.out.o.sl
              rw [List.length_replicate] at hwv
              subst hwv
              have b1 := alloc_below wr (.cells #[.int .i64 0] 3)
              have hcw := HNr.out.w.cell
              have hcw2 := (HNr.out.w.alloc (.cells #[.int .i64 0] 3)).cell
              obtain ⟨v', w2, col', hap, ho, _, hg, _, _⟩ := run_appD (enc := eN) (col := fun _ => 0) (c := 0) iinf Try.underlying36 rfl (by decide) eN_len (HNr.out.o.later b1) (.slice (some ⟨wr.heap.size, 0, none⟩) 1 1) [0] (.inr ⟨_, 1, rfl, cell_new wr (.int .i64 0) 3 eN 0 rfl⟩) (fun x hx => eN_one x) (by simp; omega) (by simp [maxLen]; omega) (by have := HNr.out.sz; simp; omega) 36
              rw [apN_op] at hap
              have ho' : OwI w2 (wt.heap.size + 4) v' (List.replicate i 0 ++ [0]) := ⟨ho.1, fun _ _ => rfl⟩
              obtain ⟨hn2, hc2, hf2⟩ := nv_app HNr.out hg ho'
              have HN2 := hid hn2
              obtain ⟨vo, vc, hvv⟩ := ho'.sl
              generalize (List.replicate i (0 : Int) ++ [0]).length = vn at hvv
              subst hvv
              clear b1 ho ho' hg hn2 hgo
              gi_wp2
              go_roundw
              case rel => exact ⟨i + 1, _, by go_num, HN2, by omega⟩
              case measure => simp [intOf]; omega
            · have hI : ¬ (i : Int) < (D : Int) := by omega
              have hdI : decide (i < D) = false := by simp; omega
              have hiD : D = i := by omega
              subst hiD
              obtain ⟨hr0, hpr⟩ := nv_start (N := N) (H := H) (D := D) HNr.out HSt2.out (decide_eq_true hN).symm (by rw [if_pos hN, dig_zero H HH.out.1]) h24
              obtain ⟨wb2, hwb⟩ : ∃ wb2, wb2 = wr := ⟨_, rfl⟩
              subst hwb
              have HR0 := hid hr0
              have HBb := hid HNr.out.be
              have HPr := hid hpr
              have HSq := hid (HAQ.out.sq.later HW2.out (by have := HW2.out.size; omega) (Nat.le_refl _) : SeqV gf lb wt.heap.size N (DgV H D) wt)
              clear hr0 hpr HNr
              gi_wp2_with fail
              refine range_v3 (w0 := wt) (gf := gf) (lb := lb) (n := N) (D := DgV H D) (q := 15) rfl HAQ.out.eg HSq.out HBb.out (fun k W => RI1 wt (w9.heap.size) wt.heap.size wb2.heap.size 1 N H D k W) (fun _ W => RX1 wt (w9.heap.size) wt.heap.size wb2.heap.size 1 H D W) ?hI ?hIx HR0.out ?assign ?body (fun W => RX1 wt (w9.heap.size) wt.heap.size wb2.heap.size 1 H D W) (fun W hh => hh.end) (fun _ W hh => hh) ?go
              case hI =>
                rintro k A A' ⟨c1, c2, c3, c4, c5, c6, hs, hv⟩ hc
                exact ⟨c1, c2, c3, c4, c5, c6, hs.chg HPr.out hc, hv⟩
              case hIx =>
                rintro k A A' ⟨c1, c2, c3, c4, c5, c6, c7, c8, hs⟩ hc
                exact ⟨c1, c2, c3, c4, c5, c6, c7, c8, hs.chg HPr.out hc⟩
              case assign =>
                intro l x W K hK
                have HKK := hid hK
                clear hK
                gi_wp2
                exact HKK.out
              case body =>
                intro l k x A W1 W hI hk hAW hD hc hz hsz
                obtain ⟨col, iv, iv0, V, V0, wv, hs, hv⟩ := hI
                rw [if_pos hk, decide_eq_true hk] at hs
                obtain ⟨col1, hs1, ho1⟩ := hs.fresh hsz HPr.out hAW x (dig H k D) hD (4 * V.length)
                have hs2 := hs1.chg HPr.out hc
                have ho2 : Ow eN 1 3 col1 (4 * V.length) W wt.heap.size x (dig H k D) := ho1.keep (fun g hg => hc.block g (ho1.lt g hg).2 (by have := (hD.lt g hg).1; omega))
                obtain ⟨xo, xc, hxv⟩ := ho2.sl
                rw [dig_len] at hxv
                subst hxv
                obtain ⟨wo, wc, hwv⟩ := hs2.wl.sl
                rw [dig_len] at hwv
                subst hwv
                have hzW : wb2.heap.size + 2 ≤ W.heap.size := by have := hAW.size; omega
                have cm := hs2.m.cell
                have cw := hs2.wn.cell
                have HSa := hid (HSm.out _ _ (dig H k D) (dig H k D) W ho2.ri hs2.wl.ri (by rw [dig_len]; have := HD24.out; omega) (by rw [dig_len]; have := HD24.out; omega))
                have HS2 := hid hs2
                have HO2 := hid ho2
                have HZW := hid hzW
                have HKk := hid hk
                have HVv := hid hv
                clear hs hs1 ho1 hs2 ho2 hAW hD hc hz hsz hzW hv
                simp only [List.setIfInBounds_toArray, List.set_cons_succ, List.set_cons_zero]
                gi_wp2_with fail
                refine ⟨trivial, ((callsIn_wide.2 HSa.out).inRound l).mono ?_⟩
                rintro e w3 ⟨⟨b, rfl, hbb⟩, hb3⟩
                have hbt' : b = true := by simpa using hbb
                subst hbt'
                have hs3 := HS2.out.later HPr.out hb3
                have ho3 := HO2.out.later hb3
                have cn3 := hs3.n.facts.1
                have hz3 : wb2.heap.size + 2 ≤ w3.heap.size := by have := hb3.size; have := HZW.out; omega
                have HK3 := hid (show KpW wt.heap.size wb2.heap.size 2 W w3 from kpw_below hb3 (by have := HS2.out.be.size; omega) HZW.out)
                have HO3 := hid ho3
                have HS3 := hid hs3
                have HZ3 := hid hz3
                clear hs3 ho3 hb3 hbb cm cw hz3
                by_cases h40 : k < 40
                · have h40I : (k : Int) < 40 := by omega
                  have hVk : V.length = k := by have := HVv.out; omega
                  subst hVk
                  have HI3 := hid (HIn.out w3 wt.heap.size wt.heap.size col1 iv iv0 _ V V0 (fun j => dig H j D) (dig H V.length D) HS3.out.bk HO3.out (by have := HS3.out.be.size; omega) (by rw [dig_len]; have := HD24.out; omega) (by omega))
                  gi_wp2_with fail
                  refine ⟨trivial, ((callsIn_wide.2 HI3.out).inRound l).mono ?_⟩
                  intro e w4 hA
                  obtain ⟨rfl, ⟨col4, iv4, iv04, V04, hs4⟩, hkp⟩ := HS3.out.ints HZ3.out HPr.out hA
                  have HK4 := hid (HK3.out.trans hkp)
                  have HVl := hid (show (V ++ [Value.slice xo D xc]).length = min (V.length + 1) 40 by simp; omega)
                  clear hA hkp HI3 HS3 HO3 HVv HS2 HO2
                  have hkb : V.length ≤ 1048576 := by have := HKk.out; have := HNl.out; omega
                  have hz4 : wb2.heap.size + 2 ≤ w4.heap.size := by have := HK4.out.size; have := HZW.out; omega
                  have cw4 := hs4.wn.cell
                  have qh4 : w4.cell? ⟨w.heap.size, 0, none⟩ = some (.int .i64 (H : Int)) := ((show IBox w4 _ _ from (hs4.be.block _ HQl2.out.1).trans HQ2.out.1)).facts.1
                  have HN4 := hid (HNx.out H D V.length _ HH.out HD24.out (by rw [← HNe.out]; exact HKk.out) w4 hs4.wl.ri)
                  have HS4 := hid hs4
                  have HZ4 := hid hz4
                  clear hs4 hz4
                  gi_wp2_with fail
                  refine ⟨trivial, ((callsIn_wide.2 HN4.out).inRound l).mono ?_⟩
                  rintro e w5 ⟨v, ok, rfl, hcase, hb5⟩
                  rw [← HNe.out] at hcase
                  have hv5 : OwI w5 w4.heap.size v (if V.length + 1 < N then dig H (V.length + 1) D else []) ∧ ok = decide (V.length + 1 < N) := by
                    rcases hcase with ⟨a1, a2, a3⟩ | ⟨a1, a2, a3⟩
                    · rw [if_pos a1, decide_eq_true a1]; exact ⟨a3, a2⟩
                    · rw [if_neg (by omega), decide_eq_false (by omega), a3]; exact ⟨Ow.nil _ _ _ _, a2⟩
                  obtain ⟨hv5, hok⟩ := hv5
                  subst hok
                  obtain ⟨col5, hs5, ho5⟩ := HS4.out.fresh HZ4.out HPr.out hb5 v _ hv5 18
                  obtain ⟨vo, vc, hvv⟩ := hv5.sl
                  generalize (if V.length + 1 < N then dig H (V.length + 1) D else []).length = vn at hvv
                  subst hvv
                  have hs6 := hs5.setw HPr.out _ _ ho5
                  have hs7 := hs6.setm HPr.out (decide (V.length + 1 < N))
                  have hs8 := hs7.setn HPr.out (V.length + 1)
                  rw [show ((V.length + 1 : Nat) : Int) = (V.length : Int) + 1 by omega] at hs8
                  have kp8 : KpW wt.heap.size wb2.heap.size 2 W _ := ((((HK4.out.trans (kpw_below hb5 (by have := HS4.out.be.size; omega) HZ4.out)).trans (SB.kpw HPr.out (wt.heap.size + 3) (by omega) (.slice vo vn vc))).trans (SB.kpw HPr.out (wt.heap.size + 1) (by omega) (.bool (decide (V.length + 1 < N))))).trans (SB.kpw HPr.out (wt.heap.size + 2) (by omega) (.int .i64 ((V.length : Int) + 1))))
                  have y1 := hs5.wn.cell
                  have y2 := hs5.wn.frozen
                  have y3 := hs6.m.cell
                  have y4 := hs6.m.frozen
                  have y5 := hs7.n.facts.1
                  have y6 := hs7.n.facts.2.1
                  have y7 := hs8.tt.facts.1
                  have y8 := hs8.n.facts.1
                  have y9 : (((w5.setCell ⟨wt.heap.size + 3, 0, none⟩ (.slice vo vn vc)).setCell ⟨wt.heap.size + 1, 0, none⟩ (.bool (decide (V.length + 1 < N)))).setCell ⟨wt.heap.size + 2, 0, none⟩ (.int .i64 ((V.length : Int) + 1))).cell? ⟨w.heap.size + 1, 0, none⟩ = some (.int .i64 mo) := ((show IBox _ _ _ from (hs8.be.block _ HQl2.out.2).trans HQ2.out.2)).facts.1
                  generalize hw6 : w5.setCell ⟨wt.heap.size + 3, 0, none⟩ (.slice vo vn vc) = w6 at *
                  generalize hw7 : w6.setCell ⟨wt.heap.size + 1, 0, none⟩ (.bool (decide (V.length + 1 < N))) = w7 at *
                  generalize hw8 : w7.setCell ⟨wt.heap.size + 2, 0, none⟩ (.int .i64 ((V.length : Int) + 1)) = w8 at *
                  have z1 := hs8.m.cell
                  have z2 := hs8.m.frozen
                  have HKP := hid kp8
                  have HS8 := hid hs8
                  clear hs5 hs6 hs7 hs8 ho5 hv5 hcase hb5 kp8
                  gi_wp2
                  exact .inl ⟨rfl, HKP.out, ⟨_, _, _, _, _, _, HS8.out, HVl.out⟩⟩
                · have h40I : ¬ (k : Int) < 40 := by omega
                  obtain ⟨w4, hw4⟩ : ∃ w4, w4 = w3 := ⟨_, rfl⟩
                  subst hw4
                  have hs4 := HS3.out
                  have HK4 := HK3
                  have HVl := hid (show V.length = min (k + 1) 40 by have := HVv.out; omega)
                  clear HS3 HO3 HVv HS2 HO2
                  have hkb : k ≤ 1048576 := by have := HKk.out; have := HNl.out; omega
                  have hz4 : wb2.heap.size + 2 ≤ w4.heap.size := by have := HK4.out.size; have := HZW.out; omega
                  have cw4 := hs4.wn.cell
                  have qh4 : w4.cell? ⟨w.heap.size, 0, none⟩ = some (.int .i64 (H : Int)) := ((show IBox w4 _ _ from (hs4.be.block _ HQl2.out.1).trans HQ2.out.1)).facts.1
                  have HN4 := hid (HNx.out H D k _ HH.out HD24.out (by rw [← HNe.out]; exact HKk.out) w4 hs4.wl.ri)
                  have HS4 := hid hs4
                  have HZ4 := hid hz4
                  clear hs4 hz4
                  gi_wp2_with fail
                  refine ⟨trivial, ((callsIn_wide.2 HN4.out).inRound l).mono ?_⟩
                  rintro e w5 ⟨v, ok, rfl, hcase, hb5⟩
                  rw [← HNe.out] at hcase
                  have hv5 : OwI w5 w4.heap.size v (if k + 1 < N then dig H (k + 1) D else []) ∧ ok = decide (k + 1 < N) := by
                    rcases hcase with ⟨a1, a2, a3⟩ | ⟨a1, a2, a3⟩
                    · rw [if_pos a1, decide_eq_true a1]; exact ⟨a3, a2⟩
                    · rw [if_neg (by omega), decide_eq_false (by omega), a3]; exact ⟨Ow.nil _ _ _ _, a2⟩
                  obtain ⟨hv5, hok⟩ := hv5
                  subst hok
                  obtain ⟨col5, hs5, ho5⟩ := HS4.out.fresh HZ4.out HPr.out hb5 v _ hv5 18
                  obtain ⟨vo, vc, hvv⟩ := hv5.sl
                  generalize (if k + 1 < N then dig H (k + 1) D else []).length = vn at hvv
                  subst hvv
                  have hs6 := hs5.setw HPr.out _ _ ho5
                  have hs7 := hs6.setm HPr.out (decide (k + 1 < N))
                  have hs8 := hs7.setn HPr.out (k + 1)
                  rw [show ((k + 1 : Nat) : Int) = (k : Int) + 1 by omega] at hs8
                  have kp8 : KpW wt.heap.size wb2.heap.size 2 W _ := ((((HK4.out.trans (kpw_below hb5 (by have := HS4.out.be.size; omega) HZ4.out)).trans (SB.kpw HPr.out (wt.heap.size + 3) (by omega) (.slice vo vn vc))).trans (SB.kpw HPr.out (wt.heap.size + 1) (by omega) (.bool (decide (k + 1 < N))))).trans (SB.kpw HPr.out (wt.heap.size + 2) (by omega) (.int .i64 ((k : Int) + 1))))
                  have y1 := hs5.wn.cell
                  have y2 := hs5.wn.frozen
                  have y3 := hs6.m.cell
                  have y4 := hs6.m.frozen
                  have y5 := hs7.n.facts.1
                  have y6 := hs7.n.facts.2.1
                  have y7 := hs8.tt.facts.1
                  have y8 := hs8.n.facts.1
                  have y9 : (((w5.setCell ⟨wt.heap.size + 3, 0, none⟩ (.slice vo vn vc)).setCell ⟨wt.heap.size + 1, 0, none⟩ (.bool (decide (k + 1 < N)))).setCell ⟨wt.heap.size + 2, 0, none⟩ (.int .i64 ((k : Int) + 1))).cell? ⟨w.heap.size + 1, 0, none⟩ = some (.int .i64 mo) := ((show IBox _ _ _ from (hs8.be.block _ HQl2.out.2).trans HQ2.out.2)).facts.1
                  generalize hw6 : w5.setCell ⟨wt.heap.size + 3, 0, none⟩ (.slice vo vn vc) = w6 at *
                  generalize hw7 : w6.setCell ⟨wt.heap.size + 1, 0, none⟩ (.bool (decide (k + 1 < N))) = w7 at *
                  generalize hw8 : w7.setCell ⟨wt.heap.size + 2, 0, none⟩ (.int .i64 ((k : Int) + 1)) = w8 at *
                  have z1 := hs8.m.cell
                  have z2 := hs8.m.frozen
                  have HKP := hid kp8
                  have HS8 := hid hs8
                  clear hs5 hs6 hs7 hs8 ho5 hv5 hcase hb5 kp8
                  gi_wp2
                  exact .inl ⟨rfl, HKP.out, ⟨_, _, _, _, _, _, HS8.out, HVl.out⟩⟩
              case go =>
                rintro W ⟨col, iv, iv0, V, V0, wv, wl, n, hs⟩ hK
                have c1 := hs.m.cell
                have HA9 := hid (HAp.out W wt.heap.size wt.heap.size col iv iv0 V V0 _ hs.bk hs.be.size)
                have HS9 := hid hs
                have HK9 := hid hK
                clear hs hK
                gi_wp2_with fail
                refine ⟨trivial, (callsIn_wide.2 HA9.out).mono ?_⟩
                rintro e wA ⟨rfl, hBx⟩
                have hq := HPr.out.q
                have ht9 : IBox wA (w9.heap.size) 1 := (hBx.oth (w9.heap.size) HS9.out.tt.facts.2.2 (by rw [HS9.out.c14 (w9.heap.size) (by unfold P14; omega)]; decide)).trans HS9.out.tt
                have hk9 : wA.heap[wb2.heap.size]? = some (.deferred (some [])) := (hBx.oth wb2.heap.size (Array.getElem?_eq_some_iff.1 HK9.out).1 (by rw [HS9.out.c14 wb2.heap.size (by unfold P14; omega)]; decide)).trans HK9.out
                have be9 : Below wt.heap.size wt wA := HS9.out.be.trans hBx.bel
                have c9b := ht9.facts.1
                have hx9 : IBox (wA.alloc (.cells #[.int .i64 2] 3)) wA.heap.size 2 := heap_alloc_new wA _
                obtain ⟨wT, hwT⟩ : ∃ wT, wA.alloc (.cells #[.int .i64 2] 3) = wT := ⟨_, rfl⟩
                rw [hwT] at hx9
                have ba : Below wA.heap.size wA wT := by rw [← hwT]; exact alloc_below _ _
                have HSt3 := hid hx9
                have HW3 := hid (HW2.out.trans ((be9.trans (ba.mono be9.size)).mono HW2.out.size))
                have HBe3 := hid (be9.trans (ba.mono be9.size))
                have HKd1 := hid ((ba.block wb2.heap.size (Array.getElem?_eq_some_iff.1 hk9).1).trans hk9)
                have HWT := hid hwT
                have hBql1 : wb2.heap.size < wT.heap.size := (Array.getElem?_eq_some_iff.1 HKd1.out).1
                have hBqg1 : wt.heap.size ≤ wb2.heap.size := by have := HPr.out.q; have := HPr.out.t; omega
                have qt3 := hx9.facts.1
                clear ht9 hk9 be9 hx9 hwT ba hBx HS9 HK9 HA9 c1
                gi_wp2_with fail
                rw [HWT.out]
                have hrB : Boxed wT (w.heap.size + 2) 4 (.bool false) := (HW3.out.block _ HX1.out.2.2.lt).trans HX1.out.2.2
                have r1 := hrB.cell
                have r2 := hrB.frozen
                have r3 := (hrB.set (.bool true)).cell
                have hlt2 : w.heap.size + 2 < w1.heap.size := HX1.out.2.2.lt
                have hw1s : w1.heap.size ≤ ws.heap.size := HW1s.out.size
                have hwst : ws.heap.size ≤ wt.heap.size := HBe2.out.size
                have kA : (wT.setCell ⟨w.heap.size + 2, 0, none⟩ (.bool true)).heap[wb2.heap.size]? = some (.deferred (some [])) := ((gb_set wT (w.heap.size + 2) 0 (.bool true)).block _ hBql1 (fun e => by injection e with e; omega)).trans HKd1.out
                have kB0 : wT.heap[wb.heap.size]? = some (.deferred (some [])) := (HBe3.out.block _ hBql0).trans HKd0.out
                have kB : (wT.setCell ⟨w.heap.size + 2, 0, none⟩ (.bool true)).heap[wb.heap.size]? = some (.deferred (some [])) := ((gb_set wT (w.heap.size + 2) 0 (.bool true)).block _ (Array.getElem?_eq_some_iff.1 kB0).1 (fun e => by injection e with e; omega)).trans kB0
                have HKA := hid kA
                have HKB := hid kB
                have hne : wb2.heap.size ≠ wb.heap.size := by omega
                have HBT := hid (show Below w.heap.size w (wT.setCell ⟨w.heap.size + 2, 0, none⟩ (.bool true)) from (HB1.out.trans (HW3.out.mono HB1.out.size)).setCell (p := ⟨w.heap.size + 2, 0, none⟩) (Nat.le_add_right _ _) _)
                generalize hwF : wT.setCell ⟨w.heap.size + 2, 0, none⟩ (.bool true) = wF at *
                clear kA kB kB0
                rw [roundsIn_succ]
                gi_wp2
                refine ⟨by simp, .inl ⟨_, _, rfl, run_takeDeferred HKA.out, ?_⟩⟩
                have K10 := (World.putObj_heap_other (w := wF) (o := .deferred none) hne.symm).trans HKB.out
                refine ⟨by simp, .inl ⟨_, _, rfl, run_takeDeferred K10, ?_⟩⟩
                have r4 : ((wF.putObj wb2.heap.size (.deferred none)).putObj wb.heap.size (.deferred none)).cell? ⟨w.heap.size + 2, 0, none⟩ = some (.bool true) := by
                  refine (World.cell?_of_block (?_ : _ = _)).trans r3
                  exact (World.putObj_heap_other (by show w.heap.size + 2 ≠ _; omega)).trans (World.putObj_heap_other (by show w.heap.size + 2 ≠ _; omega))
                exact ⟨_, results_cellB rfl _ _ (w.heap.size + 2) true rfl r4, rfl, (HBT.out.trans (belowK_b (w := w) (Nat.le_refl _) wF wb2.heap.size _ _ (by omega) HKA.out rfl rfl)).trans (belowK_b (w := w) (Nat.le_refl _) _ wb.heap.size _ _ (by omega) K10 rfl rfl)⟩
  · have hcn : okA h d = false := by rw [HCn.out]; exact decide_eq_false hN
    have hN0 : N = 0 := by omega
    subst hN0
    rw [hcn]
    clear HDl HCn HAl HCa hcn
    have HSt := hid (show IBox ws bt 0 by rw [hbt]; exact HS0.out.1)
    have HW1s := hid HS0.out.2
    have HQ := hid (show IBox ws w.heap.size h ∧ IBox ws (w.heap.size + 1) mo from ⟨HX1.out.1.later HS0.out.2, HX1.out.2.1.later HS0.out.2⟩)
    have HQl := hid (show w.heap.size < ws.heap.size ∧ w.heap.size + 1 < ws.heap.size from ⟨HQ.out.1.facts.2.2, HQ.out.2.facts.2.2⟩)
    gi_wp2_with fail
    rw [HWs.out, ← hbt]
    rw [← hbt] at qt
    simp only [Nat.add_assoc, Nat.reduceAdd]
    clear HS0 HWs hbt
    refine wpIn_loop_rounds 3 ?_
    rw [roundsIn_succ]

    have hnv := nv_new ws false
    unfold zB at hnv
    generalize hwn : (((((ws).alloc (.cells #[.slice none 0 0, .slice none 0 0, .slice none 0 0, .slice none 0 0, .slice none 0 0, .slice none 0 0, .slice none 0 0, .slice none 0 0, .slice none 0 0, .slice none 0 0, .slice none 0 0, .slice none 0 0, .slice none 0 0, .slice none 0 0] 35)).alloc (.cells #[.bool false] 4)).alloc (.cells #[.int .i64 0] 3)).alloc (.cells #[.slice none 0 0] 36)) = wn at hnv
    have HNv := hid hnv
    have HWn := hid hwn
    clear hnv hwn
    gi_wp2_with fail
    rw [HWn.out]
    simp only [Nat.add_assoc, Nat.reduceAdd]
    gi_loopw [14] (fun s14 wr => ∃ (i : Nat) (wv : Value), s14 = .int .i64 (i : Int) ∧ Hid (Nv ws wr false wv i) ∧ i = 0) (fun s14 _ => 0)
    case atStart => exact ⟨0, _, rfl, HNv, rfl⟩
    case round =>
      obtain ⟨i, wv, h14, HNr, hi⟩ := hrel
      subst h14
      clear HNv
      subst hi
      have hpass : True := trivial
      · obtain ⟨hr0, hpr⟩ := nv_start (N := 0) (H := 0) (D := 0) HNr.out HSt.out rfl rfl (by omega)
        obtain ⟨wb, hwb⟩ : ∃ wb, wb = wr := ⟨_, rfl⟩
        subst hwb
        have HR0 := hid hr0
        have HBb := hid HNr.out.be
        have HPr := hid hpr
        have HSq := hid (HAQ.out.sq.later HW1s.out (by have := HW1s.out.size; omega) (Nat.le_refl _) : SeqV gf lb ws.heap.size 0 (DgV H D) ws)
        clear hr0 hpr HNr
        gi_wp2_with fail
        refine range_v3 (w0 := ws) (gf := gf) (lb := lb) (n := 0) (D := DgV H D) (q := 15) rfl HAQ.out.eg HSq.out HBb.out (fun k W => RI1 ws bt ws.heap.size wb.heap.size 0 0 0 0 k W) (fun _ W => RX1 ws bt ws.heap.size wb.heap.size 0 0 0 W) ?hI ?hIx HR0.out ?assign ?body (fun W => RX1 ws bt ws.heap.size wb.heap.size 0 0 0 W) (fun W hh => hh.end) (fun _ W hh => hh) ?go
        case hI =>
          rintro k A A' ⟨c1, c2, c3, c4, c5, c6, hs, hv⟩ hc
          exact ⟨c1, c2, c3, c4, c5, c6, hs.chg HPr.out hc, hv⟩
        case hIx =>
          rintro k A A' ⟨c1, c2, c3, c4, c5, c6, c7, c8, hs⟩ hc
          exact ⟨c1, c2, c3, c4, c5, c6, c7, c8, hs.chg HPr.out hc⟩
        case assign =>
          intro l x W K hK
          have HKK := hid hK
          clear hK
          gi_wp2
          exact HKK.out
        case body =>
          intro l k x A W1 W hI hk
          omega
        case go =>
          rintro W ⟨col, iv, iv0, V, V0, wv, wl, n, hs⟩ hK
          have c1 := hs.m.cell
          have HA9 := hid (HAp.out W ws.heap.size ws.heap.size col iv iv0 V V0 _ hs.bk hs.be.size)
          have HS9 := hid hs
          have HK9 := hid hK
          clear hs hK
          gi_wp2_with fail
          refine ⟨trivial, (callsIn_wide.2 HA9.out).mono ?_⟩
          rintro e w9 ⟨rfl, hBx⟩
          have hq := HPr.out.q
          have ht9 : IBox w9 bt 0 := (hBx.oth bt HS9.out.tt.facts.2.2 (by rw [HS9.out.c14 bt (by unfold P14; omega)]; decide)).trans HS9.out.tt
          have hk9 : w9.heap[wb.heap.size]? = some (.deferred (some [])) := (hBx.oth wb.heap.size (Array.getElem?_eq_some_iff.1 HK9.out).1 (by rw [HS9.out.c14 wb.heap.size (by unfold P14; omega)]; decide)).trans HK9.out
          have be9 : Below ws.heap.size ws w9 := HS9.out.be.trans hBx.bel
          have c9 := ht9.facts.1
          have hx9 : IBox (w9.alloc (.cells #[.int .i64 1] 3)) w9.heap.size 1 := heap_alloc_new w9 _
          obtain ⟨wt, hwt⟩ : ∃ wt, w9.alloc (.cells #[.int .i64 1] 3) = wt := ⟨_, rfl⟩
          rw [hwt] at hx9
          have ba : Below w9.heap.size w9 wt := by rw [← hwt]; exact alloc_below _ _
          have HSt2 := hid hx9
          have HW2 := hid (HW1s.out.trans ((be9.trans (ba.mono be9.size)).mono HW1s.out.size))
          have HBe2 := hid (be9.trans (ba.mono be9.size))
          have HKd0 := hid ((ba.block wb.heap.size (Array.getElem?_eq_some_iff.1 hk9).1).trans hk9)
          have HWt := hid hwt
          have hBql0 : wb.heap.size < wt.heap.size := (Array.getElem?_eq_some_iff.1 HKd0.out).1
          have hBqg0 : ws.heap.size ≤ wb.heap.size := by have := HPr.out.q; have := HPr.out.t; omega
          have qt2 := hx9.facts.1
          clear ht9 hk9 be9 hx9 hwt ba hBx HS9 HK9 HA9 c1
          gi_wp2_with fail
          rw [HWt.out]
          have HQ2 := hid (show IBox wt w.heap.size h ∧ IBox wt (w.heap.size + 1) mo from ⟨(HBe2.out.block _ HQl.out.1).trans HQ.out.1, (HBe2.out.block _ HQl.out.2).trans HQ.out.2⟩)
          have HQl2 := hid (show w.heap.size < wt.heap.size ∧ w.heap.size + 1 < wt.heap.size from ⟨HQ2.out.1.facts.2.2, HQ2.out.2.facts.2.2⟩)
          clear HSq HPr HBb HR0 c9 hq
          rw [roundsIn_succ]
          have hnv := nv_new wt false
          unfold zB at hnv
          generalize hwn : (((((wt).alloc (.cells #[.slice none 0 0, .slice none 0 0, .slice none 0 0, .slice none 0 0, .slice none 0 0, .slice none 0 0, .slice none 0 0, .slice none 0 0, .slice none 0 0, .slice none 0 0, .slice none 0 0, .slice none 0 0, .slice none 0 0, .slice none 0 0] 35)).alloc (.cells #[.bool false] 4)).alloc (.cells #[.int .i64 0] 3)).alloc (.cells #[.slice none 0 0] 36)) = wn at hnv
          have HNv := hid hnv
          have HWn := hid hwn
          clear hnv hwn
          gi_wp2_with fail
          rw [HWn.out]
          simp only [Nat.add_assoc, Nat.reduceAdd]
          gi_loopw [14] (fun s14 wr => ∃ (i : Nat) (wv : Value), s14 = .int .i64 (i : Int) ∧ Hid (Nv wt wr false wv i) ∧ i = 0) (fun s14 _ => 0)
          case atStart => exact ⟨0, _, rfl, HNv, rfl⟩
          case round =>
            obtain ⟨i, wv, h14, HNr, hi⟩ := hrel
            subst h14
            clear HNv
            subst hi
            have hpass : True := trivial
            · obtain ⟨hr0, hpr⟩ := nv_start (N := 0) (H := 0) (D := 0) HNr.out HSt2.out rfl rfl (by omega)
              obtain ⟨wb2, hwb⟩ : ∃ wb2, wb2 = wr := ⟨_, rfl⟩
              subst hwb
              have HR0 := hid hr0
              have HBb := hid HNr.out.be
              have HPr := hid hpr
              have HSq := hid (HAQ.out.sq.later HW2.out (by have := HW2.out.size; omega) (Nat.le_refl _) : SeqV gf lb wt.heap.size 0 (DgV H D) wt)
              clear hr0 hpr HNr
              gi_wp2_with fail
              refine range_v3 (w0 := wt) (gf := gf) (lb := lb) (n := 0) (D := DgV H D) (q := 15) rfl HAQ.out.eg HSq.out HBb.out (fun k W => RI1 wt (w9.heap.size) wt.heap.size wb2.heap.size 1 0 0 0 k W) (fun _ W => RX1 wt (w9.heap.size) wt.heap.size wb2.heap.size 1 0 0 W) ?hI ?hIx HR0.out ?assign ?body (fun W => RX1 wt (w9.heap.size) wt.heap.size wb2.heap.size 1 0 0 W) (fun W hh => hh.end) (fun _ W hh => hh) ?go
              case hI =>
                rintro k A A' ⟨c1, c2, c3, c4, c5, c6, hs, hv⟩ hc
                exact ⟨c1, c2, c3, c4, c5, c6, hs.chg HPr.out hc, hv⟩
              case hIx =>
                rintro k A A' ⟨c1, c2, c3, c4, c5, c6, c7, c8, hs⟩ hc
                exact ⟨c1, c2, c3, c4, c5, c6, c7, c8, hs.chg HPr.out hc⟩
              case assign =>
                intro l x W K hK
                have HKK := hid hK
                clear hK
                gi_wp2
                exact HKK.out
              case body =>
                intro l k x A W1 W hI hk
                omega
              case go =>
                rintro W ⟨col, iv, iv0, V, V0, wv, wl, n, hs⟩ hK
                have c1 := hs.m.cell
                have HA9 := hid (HAp.out W wt.heap.size wt.heap.size col iv iv0 V V0 _ hs.bk hs.be.size)
                have HS9 := hid hs
                have HK9 := hid hK
                clear hs hK
                gi_wp2_with fail
                refine ⟨trivial, (callsIn_wide.2 HA9.out).mono ?_⟩
                rintro e wA ⟨rfl, hBx⟩
                have hq := HPr.out.q
                have ht9 : IBox wA (w9.heap.size) 1 := (hBx.oth (w9.heap.size) HS9.out.tt.facts.2.2 (by rw [HS9.out.c14 (w9.heap.size) (by unfold P14; omega)]; decide)).trans HS9.out.tt
                have hk9 : wA.heap[wb2.heap.size]? = some (.deferred (some [])) := (hBx.oth wb2.heap.size (Array.getElem?_eq_some_iff.1 HK9.out).1 (by rw [HS9.out.c14 wb2.heap.size (by unfold P14; omega)]; decide)).trans HK9.out
                have be9 : Below wt.heap.size wt wA := HS9.out.be.trans hBx.bel
                have c9b := ht9.facts.1
                have hx9 : IBox (wA.alloc (.cells #[.int .i64 2] 3)) wA.heap.size 2 := heap_alloc_new wA _
                obtain ⟨wT, hwT⟩ : ∃ wT, wA.alloc (.cells #[.int .i64 2] 3) = wT := ⟨_, rfl⟩
                rw [hwT] at hx9
                have ba : Below wA.heap.size wA wT := by rw [← hwT]; exact alloc_below _ _
                have HSt3 := hid hx9
                have HW3 := hid (HW2.out.trans ((be9.trans (ba.mono be9.size)).mono HW2.out.size))
                have HBe3 := hid (be9.trans (ba.mono be9.size))
                have HKd1 := hid ((ba.block wb2.heap.size (Array.getElem?_eq_some_iff.1 hk9).1).trans hk9)
                have HWT := hid hwT
                have hBql1 : wb2.heap.size < wT.heap.size := (Array.getElem?_eq_some_iff.1 HKd1.out).1
                have hBqg1 : wt.heap.size ≤ wb2.heap.size := by have := HPr.out.q; have := HPr.out.t; omega
                have qt3 := hx9.facts.1
                clear ht9 hk9 be9 hx9 hwT ba hBx HS9 HK9 HA9 c1
                gi_wp2_with fail
                rw [HWT.out]
                have hrB : Boxed wT (w.heap.size + 2) 4 (.bool false) := (HW3.out.block _ HX1.out.2.2.lt).trans HX1.out.2.2
                have r1 := hrB.cell
                have r2 := hrB.frozen
                have r3 := (hrB.set (.bool true)).cell
                have hlt2 : w.heap.size + 2 < w1.heap.size := HX1.out.2.2.lt
                have hw1s : w1.heap.size ≤ ws.heap.size := HW1s.out.size
                have hwst : ws.heap.size ≤ wt.heap.size := HBe2.out.size
                have kA : (wT.setCell ⟨w.heap.size + 2, 0, none⟩ (.bool true)).heap[wb2.heap.size]? = some (.deferred (some [])) := ((gb_set wT (w.heap.size + 2) 0 (.bool true)).block _ hBql1 (fun e => by injection e with e; omega)).trans HKd1.out
                have kB0 : wT.heap[wb.heap.size]? = some (.deferred (some [])) := (HBe3.out.block _ hBql0).trans HKd0.out
                have kB : (wT.setCell ⟨w.heap.size + 2, 0, none⟩ (.bool true)).heap[wb.heap.size]? = some (.deferred (some [])) := ((gb_set wT (w.heap.size + 2) 0 (.bool true)).block _ (Array.getElem?_eq_some_iff.1 kB0).1 (fun e => by injection e with e; omega)).trans kB0
                have HKA := hid kA
                have HKB := hid kB
                have hne : wb2.heap.size ≠ wb.heap.size := by omega
                have HBT := hid (show Below w.heap.size w (wT.setCell ⟨w.heap.size + 2, 0, none⟩ (.bool true)) from (HB1.out.trans (HW3.out.mono HB1.out.size)).setCell (p := ⟨w.heap.size + 2, 0, none⟩) (Nat.le_add_right _ _) _)
                generalize hwF : wT.setCell ⟨w.heap.size + 2, 0, none⟩ (.bool true) = wF at *
                clear kA kB kB0
                rw [roundsIn_succ]
                gi_wp2
                refine ⟨by simp, .inl ⟨_, _, rfl, run_takeDeferred HKA.out, ?_⟩⟩
                have K10 := (World.putObj_heap_other (w := wF) (o := .deferred none) hne.symm).trans HKB.out
                refine ⟨by simp, .inl ⟨_, _, rfl, run_takeDeferred K10, ?_⟩⟩
                have r4 : ((wF.putObj wb2.heap.size (.deferred none)).putObj wb.heap.size (.deferred none)).cell? ⟨w.heap.size + 2, 0, none⟩ = some (.bool true) := by
                  refine (World.cell?_of_block (?_ : _ = _)).trans r3
                  exact (World.putObj_heap_other (by show w.heap.size + 2 ≠ _; omega)).trans (World.putObj_heap_other (by show w.heap.size + 2 ≠ _; omega))
                exact ⟨_, results_cellB rfl _ _ (w.heap.size + 2) true rfl r4, rfl, (HBT.out.trans (belowK_b (w := w) (Nat.le_refl _) wF wb2.heap.size _ _ (by omega) HKA.out rfl rfl)).trans (belowK_b (w := w) (Nat.le_refl _) _ wb.heap.size _ _ (by omega) K10 rfl rfl)⟩
end Go.Proofs.Ytjgfmikkbkoimaa
