/-
  RgR: A range over a function whose body may return. Laid by mkrgr.py out of RgC.
  Gwb: All's iterator, of what lay it wants its own boxes kept. Laid by mkgwb.py out of Al3.
  Gwc: SchedRise: the law's boxes.
  Gwd: SchedRise: the four sequences in one form.
-/
import Derived.Test.YtaiccmbhdgecgaaRgC
import Derived.Test.YtaiccmbhdgecgaaAl3
import Derived.Test.YtaiccmbhdgecgaaSmG
import Derived.Test.YtaiccmbhdgecgaaSr2
namespace Go.Proofs.Ytaiccmbhdgecgaa
open Go.RowKit Go.Shelf
set_option maxRecDepth 100000
attribute [local go_sem] Oper.semAt_some

/-- how a round's body ends -/
def endR (c Lo B0 B : Nat) (I Ix : Nat → World → Prop) (k : Nat) (W : World) (e : Exit) (_ : Act) (W' : World) : Prop :=
  (e = .normal ∧ KpM Lo B0 B (c + 2) W W' ∧ I k W') ∨ (e = .ret ∧ KpM Lo B0 B (c + 2) W W' ∧ Ix k W')

theorem range_r {g : Operand} {p : Tmp} {assign body : Code} {Q : Exit → Act → World → Prop} {a : Act} {w w0 : World} {gf : Nat} {lb : Array Value} {c Lo B0 n : Nat} {D : Nat → World → Value → World → Prop}
    (hg : a.eval g = .func (.func gf) #[] lb) (eg : ∀ args w, (callFunc gf args).run Try.prog w = .ok (.enter gf args) w) (hseq : SeqC gf lb c Lo B0 n D w0) (hkp : KpL Lo B0 w0 w) (hB0 : B0 ≤ w.heap.size)
    (I Ix : Nat → World → Prop) (hI : ∀ k A A', I k A → Chg w.heap.size (c + 2) A A' → I k A') (hIx : ∀ k A A', Ix k A → Chg w.heap.size (c + 2) A A' → Ix k A') (h0 : I 0 w) (a1 : Value → Act)
    (hassign : ∀ (l : Nat) (x : Value) (W : World) (K : Act → World → Prop), K (a1 x) W → assign.wpIn (Fence.wide.inRound l) 3 Try.prog (Exit.then K (fun _ _ _ => False)) { tmps := a.tmps.setIfInBounds p x, defers := [] } W)
    (hbody : ∀ (l k : Nat) (x : Value) (A W1 W : World), I k A → k < n → Below A.heap.size A W1 → D k A x W1 → Chg w.heap.size 2 W1 W → W.heap.size = W1.heap.size → w.heap.size + 2 + c ≤ A.heap.size → body.wpIn (Fence.wide.inRound l) 3 Try.prog (endR c Lo B0 w.heap.size I Ix (k + 1) W) (a1 x) W)
    (hdone : ∀ W, I n W → W.heap[w.heap.size]? = some (.deferred (some [])) → Q .normal { a with defers := { target := .collected w.heap.size, args := #[] } :: a.defers } W)
    (hstop : ∀ k W, Ix k W → W.heap[w.heap.size]? = some (.deferred (some [])) → Code.ret.wpIn Fence.wide 5 Try.prog Q { a with defers := { target := .collected w.heap.size, args := #[] } :: a.defers } W) :
    (Code.rangeFunc g #[p] assign body).wpIn Fence.wide 5 Try.prog Q a w := by
  refine wpIn_rangeFunc fun fn hfn => ?_
  -- the loop's record lies in block B + 1, the deferred calls in block B
  obtain ⟨B, hB⟩ : ∃ B, w.heap.size = B := ⟨_, rfl⟩
  obtain ⟨lp, hlp⟩ : ∃ lp : LoopState → Option Code → Loop, ∀ s j, lp s j = { state := s, pending := j, fn, tmps := a.tmps, params := #[p], assign, body, defers := B } := ⟨_, fun _ _ => rfl⟩
  have hst : ∀ s j, (lp s j).state = s := fun s j => by rw [hlp]
  have hpd : ∀ s j, (lp s j).pending = j := fun s j => by rw [hlp]
  have henter := run_enterLoop_outer (P := Try.prog) (w := w) fn a.tmps #[p] assign body
  rw [hB, ← hlp] at henter
  obtain ⟨V, hV⟩ : ∃ V, (w.alloc (.deferred (some []))).alloc (.loop (lp .ready none)) = V := ⟨_, rfl⟩
  rw [hV] at henter
  have zV : V.heap.size = B + 2 := by rw [← hV]; simp [hB]
  have cV : Chg B (c + 2) w V := by rw [← hV]; exact (Chg.alloc _ _ _ _).trans (Chg.alloc _ _ _ _)
  have lV : V.heap[B + 1]? = some (.loop (lp .ready none)) := by
    rw [← hV, ← hB, ← World.size_alloc w (.deferred (some []))]
    exact heap_alloc_new _ _
  have dV : V.heap[B]? = some (.deferred (some [])) := by
    rw [← hV, (alloc_below _ _).block B (by simp [hB]), ← hB]
    exact heap_alloc_new _ _
  have bV : KpL Lo B0 w0 V := fun g h1 h2 => (cV.block g (by omega) (by omega)).trans (hkp g h1 h2)
  rw [hB] at hI hIx hbody hdone hstop
  refine ⟨B + 1, [{ target := .collected B, args := #[] }], V, { target := .fn (.func gf) lb, args := #[.func (.yield (B + 1)) #[] #[]] }, V, gf, #[.func (.yield (B + 1)) #[] #[]] ++ lb, V, henter, ?_, fun _ _ => trivial, ?_, fun _ => (by omega), ?_⟩
  · simp only [resolve, hg]
    simp [go_sem]
  · simp [invoke, go_sem, eg]
  have keep : ∀ {A A' : World} {k : Nat} {o : Obj}, Chg V.heap.size c A A' → A.heap[k]? = some o → k < B + 2 → A'.heap[k]? = some o := fun {A A' k o} h hk hlt =>
    (h.block k (Array.getElem?_eq_some_iff.1 hk).1 (by rw [zV]; omega)).trans hk
  refine (hseq (B + 1) (fun k W => I k W ∧ W.heap[B + 1]? = some (.loop (lp .ready none)) ∧ W.heap[B]? = some (.deferred (some [])))
    (fun k W => Ix k W ∧ W.heap[B + 1]? = some (.loop (lp .done (some .ret))) ∧ W.heap[B]? = some (.deferred (some []))) V bV (by omega)
    (fun k A A' h hc => ⟨hI k A A' h.1 (by rw [zV] at hc; exact hc.wide), keep hc h.2.1 (by omega), keep hc h.2.2 (by omega)⟩)
    (fun k A A' h hc => ⟨hIx k A A' h.1 (by rw [zV] at hc; exact hc.wide), keep hc h.2.1 (by omega), keep hc h.2.2 (by omega)⟩) ?round ⟨hI _ _ _ h0 cV, lV, dV⟩).mono ?after
  case round =>
    rintro k x A W ⟨hi, hlA, hdA⟩ hk hAW hD hz
    rw [zV] at hz
    have hl : W.heap[B + 1]? = some (.loop (lp .ready none)) := (hAW.block (B + 1) (by omega)).trans hlA
    have hd : W.heap[B]? = some (.deferred (some [])) := (hAW.block B (by omega)).trans hdA
    have hzW : B + 2 ≤ W.heap.size := by have := hAW.size; omega
    have hy := run_yield (P := Try.prog) (args := #[x]) hl (by rw [hlp]; rfl)
    rw [hlp] at hy
    have ht : ∀ t : Array Value, ((#[p] : Array Tmp).zip #[x]).foldl (fun tmps (t, a) => tmps.setIfInBounds t a) t = t.setIfInBounds p x := fun t => by simp
    rw [ht] at hy
    refine ⟨fn, _, assign, body, hy, roundIn_of_wpIn hfn ?_⟩
    refine hassign (B + 1) x W _ ?_
    refine ⟨_, run_beginRound hl (hst _ _), ?_⟩
    obtain ⟨U, hU⟩ : ∃ U, W.putObj (B + 1) (.loop { lp .ready none with state := .busy }) = U := ⟨_, rfl⟩
    have lU : U.heap[B + 1]? = some (.loop { lp .ready none with state := .busy }) := by rw [← hU]; exact World.putObj_heap_same (by omega)
    have dU : U.heap[B]? = some (.deferred (some [])) := by rw [← hU, World.putObj_heap_other (by omega)]; exact hd
    have cU : Chg B 2 W U := by rw [← hU]; exact Chg.put _ _ (by omega) (by omega)
    have zUW : U.heap.size = W.heap.size := by rw [← hU]; simp
    have kU : KpM Lo B0 (B + 2) c W U := by
      rw [← hU]
      exact ⟨by simp, fun k hk => World.putObj_heap_other (by omega)⟩
    rw [hU]
    refine wpIn_mono (hbody (B + 1) k x A W U hi hk hAW hD cU zUW hz) ?_
    -- behind the body: the record is put back, or keeps the jump
    have fin : ∀ (U' : World) (j : Option Code), KpM Lo B0 B (c + 2) U U' →
        (Instr.endRound (B + 1) j).run Try.prog U' = .ok (.bool j.isNone) (U'.putObj (B + 1) (.loop (lp (if j.isNone then .ready else .done) j))) ∧
        (U'.putObj (B + 1) (.loop (lp (if j.isNone then .ready else .done) j))).heap[B + 1]? = some (.loop (lp (if j.isNone then .ready else .done) j)) ∧
        (U'.putObj (B + 1) (.loop (lp (if j.isNone then .ready else .done) j))).heap[B]? = some (.deferred (some [])) ∧
        KpM Lo B0 (B + 2) c W (U'.putObj (B + 1) (.loop (lp (if j.isNone then .ready else .done) j))) := fun U' j hk => by
      have l' : U'.heap[B + 1]? = some (.loop { lp .ready none with state := .busy }) := (hk.block (B + 1) (.inr ⟨by omega, by omega⟩)).trans lU
      have d' : U'.heap[B]? = some (.deferred (some [])) := (hk.block B (.inr ⟨by omega, by omega⟩)).trans dU
      refine ⟨?_, World.putObj_heap_same (Array.getElem?_eq_some_iff.1 l').1, (World.putObj_heap_other (by omega)).trans d', ?_⟩
      · have := run_endRound (P := Try.prog) j l'
        rw [hlp] at this ⊢
        exact this
      · exact (kU.trans hk.in).trans ⟨by simp, fun k hk => World.putObj_heap_other (by omega)⟩
    rintro e a3 U' (⟨rfl, hp⟩ | ⟨rfl, hp⟩)
    · obtain ⟨hr, h1, h2, h3⟩ := fin U' none hp.1
      exact ⟨_, _, hr, .inl ⟨rfl, ⟨hI _ _ _ hp.2 (Chg.put _ _ (by omega) (by omega)), h1, h2⟩, by rw [zV]; exact h3⟩⟩
    · obtain ⟨hr, h1, h2, h3⟩ := fin U' (some .ret) hp.1
      exact ⟨_, _, hr, .inr ⟨rfl, ⟨hIx _ _ _ hp.2 (Chg.put _ _ (by omega) (by omega)), h1, h2⟩, by rw [zV]; exact h3⟩⟩
  case after =>
    rintro e W ⟨⟨v, rfl⟩, (⟨hi, hl, hd⟩ | ⟨k, hi, hl, hd⟩)⟩
    · refine ⟨none, _, (run_endLoop (P := Try.prog) hl (by rw [hst]; simp)).trans (by rw [hpd]), ?_⟩
      exact hdone _ (hI _ _ _ hi (Chg.put _ _ (by omega) (by omega))) ((World.putObj_heap_other (by omega)).trans hd)
    · refine ⟨some .ret, _, (run_endLoop (P := Try.prog) hl (by rw [hst]; simp)).trans (by rw [hpd]), ?_⟩
      exact hstop k _ (hIx _ _ _ hi (Chg.put _ _ (by omega) (by omega))) ((World.putObj_heap_other (by omega)).trans hd)
theorem range_r3 {g : Operand} {p q : Tmp} {assign body : Code} {Q : Exit → Act → World → Prop} {a : Act} {w w0 : World} {gf : Nat} {lb : Array Value} {c Lo B0 n : Nat} {D : Nat → World → Value → World → Prop}
    (hg : a.eval g = .func (.func gf) #[] lb) (eg : ∀ args w, (callFunc gf args).run Try.prog w = .ok (.enter gf args) w) (hseq : SeqC gf lb c Lo B0 n D w0) (hkp : KpL Lo B0 w0 w) (hB0 : B0 ≤ w.heap.size)
    (I Ix : Nat → World → Prop) (hI : ∀ k A A', I k A → Chg w.heap.size (c + 2) A A' → I k A') (hIx : ∀ k A A', Ix k A → Chg w.heap.size (c + 2) A A' → Ix k A') (h0 : I 0 w)
    (hassign : ∀ (l : Nat) (x : Value) (W : World) (K : Act → World → Prop), K { tmps := (a.tmps.setIfInBounds p x).setIfInBounds q x, defers := [] } W → assign.wpIn (Fence.wide.inRound l) 3 Try.prog (Exit.then K (fun _ _ _ => False)) { tmps := a.tmps.setIfInBounds p x, defers := [] } W)
    (hbody : ∀ (l k : Nat) (x : Value) (A W1 W : World), I k A → k < n → Below A.heap.size A W1 → D k A x W1 → Chg w.heap.size 2 W1 W → W.heap.size = W1.heap.size → w.heap.size + 2 + c ≤ A.heap.size → body.wpIn (Fence.wide.inRound l) 3 Try.prog (endR c Lo B0 w.heap.size I Ix (k + 1) W) { tmps := (a.tmps.setIfInBounds p x).setIfInBounds q x, defers := [] } W)
    (hdone : ∀ W, I n W → W.heap[w.heap.size]? = some (.deferred (some [])) → Q .normal { a with defers := { target := .collected w.heap.size, args := #[] } :: a.defers } W)
    (hstop : ∀ k W, Ix k W → W.heap[w.heap.size]? = some (.deferred (some [])) → Code.ret.wpIn Fence.wide 5 Try.prog Q { a with defers := { target := .collected w.heap.size, args := #[] } :: a.defers } W) :
    (Code.rangeFunc g #[p] assign body).wpIn Fence.wide 5 Try.prog Q a w :=
  range_r hg eg hseq hkp hB0 I Ix hI hIx h0 (fun x => { tmps := (a.tmps.setIfInBounds p x).setIfInBounds q x, defers := [] }) hassign hbody hdone hstop
end Go.Proofs.Ytaiccmbhdgecgaa

namespace Go.Proofs.Ytaiccmbhdgecgaa
open Go.RowKit Go.Shelf
set_option maxRecDepth 100000
set_option linter.unusedVariables false
set_option linter.unusedSimpArgs false
attribute [local go_sem] Oper.semAt_some

set_option maxHeartbeats 2000000 in
theorem all_seqC (g1 g2 g3 Lo B0 H Dd : Nat) (w : World) (hH : 1 ≤ H ∧ H ≤ 16) (hD : Dd ≤ 24) (hN : H ^ Dd ≤ 1048576) (b1 : Lo ≤ g1 ∧ g1 < B0) (b2 : Lo ≤ g2 ∧ g2 < B0) (b3 : Lo ≤ g3 ∧ g3 < B0) (h1 : IBox w g1 ((H ^ Dd : Nat) : Int)) (h2 : IBox w g2 (H : Int)) (h3 : IBox w g3 (Dd : Int)) :
    SeqC 43 #[.pointer (some ⟨g1, 0, none⟩), .pointer (some ⟨g2, 0, none⟩), .pointer (some ⟨g3, 0, none⟩)] 0 Lo B0 (H ^ Dd) (DgV H Dd) w := fun l J Jx W hW hB hJ hJx hY h0 => by
  obtain ⟨N, hNe⟩ : ∃ N, N = H ^ Dd := ⟨_, rfl⟩
  rw [← hNe] at h1 hN hY ⊢
  have bx : ∀ {g : Nat} {v : Int} {wr : World}, Lo ≤ g ∧ g < B0 → IBox w g v → KpL Lo B0 W wr → IBox wr g v := fun hg hx hk => (hk _ hg.1 hg.2).trans ((hW _ hg.1 hg.2).trans hx)
  have HX := hid (fun wr (hk : KpL Lo B0 W wr) => And.intro (bx b1 h1 hk) (And.intro (bx b2 h2 hk) (bx b3 h3 hk)))
  have HY := hid hY
  have HDg := hid (fun k (hk : k ≤ 1048576) wr => digits_any H k Dd hH hD hk wr)
  clear hJ hJx hY bx h1 h2 h3 hW hNe
  have c1 := (HX.out W (KpL.refl _ _ _)).1.facts.1
  refine callsIn_of_wp Try.func43 rfl trivial ?_ rfl
  simp only [Try.ntmps43, List.size_toArray, List.length_cons, List.length_nil, Nat.reduceAdd, Nat.reduceSub, Array.replicate_succ, Array.replicate_zero, List.push_toArray, List.append_toArray, List.nil_append, List.cons_append]
  gi_wp2_with fail
  gi_loopw [7] (fun v wr => ∃ k : Nat, k ≤ N ∧ v = .int .i64 (k : Int) ∧ J k wr ∧ KpL Lo B0 W wr ∧ W.heap.size ≤ wr.heap.size) (fun v _ => N - (intOf v).toNat)
  case atStart => exact ⟨0, Nat.zero_le _, rfl, h0, KpL.refl _ _ _, Nat.le_refl _⟩
  case round =>
    obtain ⟨k, hk, rfl, hJs, hkp, hsz⟩ := hrel
    obtain ⟨x1, x2, x3⟩ := HX.out wr hkp
    have c2 := x2.facts.1
    have c3 := x3.facts.1
    have HK := hid hkp
    have HJs := hid hJs
    have HZ := hid hsz
    clear hJs hkp x1 x2 x3 c1 hsz
    by_cases hlt : k < N
    · have hI : (k : Int) < (N : Int) := by omega
      have hdI : decide (k < N) = true := by simp; exact hlt
      have HL := hid hlt
      have HD := hid (HDg.out k (by omega) wr)
      clear hlt
      gi_wp2_with fail
      refine ⟨trivial, (callsIn_wide.2 HD.out).mono ?_⟩
      rintro e w3 ⟨⟨v, rfl, ho⟩, hb3⟩
      obtain ⟨fn, tmps, assign, body, hy, hR⟩ := HY.out k v wr w3 HJs.out HL.out hb3 ho HZ.out
      have HB3 := hid hb3
      clear hb3 ho c2 c3
      gi_wp2_with fail
      refine hR.mono ?_
      rintro e W3 (⟨rfl, hJ3, hk3⟩ | ⟨rfl, hJx3, hk3⟩)
      · have HK3 := hid (show KpL Lo B0 W W3 from fun i h1 h2 => (hk3.block i (.inl ⟨h1, h2⟩)).trans ((HB3.out.block i (by have := HZ.out; omega)).trans (HK.out i h1 h2)))
        have HZ3 := hid (show W.heap.size ≤ W3.heap.size by have := hk3.size; have := HB3.out.size; have := HZ.out; omega)
        have HJ3 := hid hJ3
        clear hJ3 hk3 hy hR
        gi_wp2
        go_roundw
        case rel => exact ⟨k + 1, HL.out, by go_num, HJ3.out, HK3.out, HZ3.out⟩
        case measure => have := HL.out; simp [intOf]; omega
      · have HJx := hid hJx3
        clear hy hR hJx3 hk3
        gi_wp2
        refine bodyPost_ret (results_none rfl _ _ _) rfl ?_
        exact ⟨⟨_, rfl⟩, .inr ⟨_, HJx.out⟩⟩
    · have hI : ¬ (k : Int) < (N : Int) := by omega
      have hdI : decide (k < N) = false := by simp; omega
      have HX2 := hid (show J N wr by have : k = N := by omega
                                      rw [← this]; exact HJs.out)
      clear hlt
      gi_wp2
      go_end0
      exact ⟨⟨_, rfl⟩, .inl HX2.out⟩
def AlF (h d : Int) (w w' : World) (e : Ending) : Prop :=
  (okA h d = true ∧ ∃ g1 g2 g3, e = .returned (.func (.func 43) #[] #[.pointer (some ⟨g1, 0, none⟩), .pointer (some ⟨g2, 0, none⟩), .pointer (some ⟨g3, 0, none⟩)]) ∧ IBox w' g1 ((h.toNat ^ d.toNat : Nat) : Int) ∧ IBox w' g2 h ∧ IBox w' g3 d ∧ w.heap.size ≤ g1 ∧ w.heap.size ≤ g2 ∧ w.heap.size ≤ g3) ∨ (okA h d = false ∧ e = .returned (.func (.func 38) #[] #[]))
set_option maxHeartbeats 4000000 in
theorem allF_any (h d : Int) (w : World) : Calls Try.prog 16 #[.int .i64 h, .int .i64 d] w fun e w' => AlF h d w w' e ∧ Below w.heap.size w w' := by
  have hmf : ∀ (fn : Fn) (first cap : Array Value) (w : World), (Instr.makeFunc fn first cap).run Try.prog w = .ok (.func fn first cap) w := fun _ _ _ _ => rfl
  have HI := hid (isCount_any h)
  obtain ⟨W2, hW2⟩ : ∃ W2, (w.alloc (.cells #[.int .i64 h] 3)).alloc (.cells #[.int .i64 d] 3) = W2 := ⟨_, rfl⟩
  have bW2 : Below w.heap.size w W2 := by rw [← hW2]; exact ((Below.refl _ _).alloc (Nat.le_refl _) _).alloc (by simp) _
  have zW2 : W2.heap.size = w.heap.size + 2 := by rw [← hW2]; simp
  have x1 : IBox W2 w.heap.size h := by
    rw [← hW2]
    exact IBox.later (show IBox (w.alloc (.cells #[.int .i64 h] 3)) w.heap.size h from heap_alloc_new w _) (alloc_below _ _)
  have x2 : IBox W2 (w.heap.size + 1) d := by
    rw [← hW2]
    have := heap_alloc_new (w.alloc (.cells #[.int .i64 h] 3)) (.cells #[.int .i64 d] 3)
    rw [World.size_alloc] at this
    exact this
  have q1 := x1.facts.1
  have q2 := x2.facts.1
  have HB2 := hid bW2
  have HX := hid (And.intro x1 x2)
  by_cases hok : 1 ≤ h ∧ h ≤ 16 ∧ 0 ≤ d ∧ d ≤ 24
  · obtain ⟨a1, a2, a3, a4⟩ := hok
    obtain ⟨H, rfl⟩ : ∃ H : Nat, h = (H : Int) := ⟨h.toNat, by omega⟩
    obtain ⟨D, rfl⟩ : ∃ D : Nat, d = (D : Int) := ⟨d.toNat, by omega⟩
    have hok' : okN (H : Int) = true := (okN_iff _).2 (by omega)
    rw [hok'] at HI
    have hokA := okA_nat H D (by omega) (by omega)
    have hd1 : ¬ (D : Int) < 0 := by omega
    have hd2 : ¬ (24 : Int) < (D : Int) := by omega
    have hD1 : 1 ≤ H := by omega
    have hD16 : H ≤ 16 := by omega
    have hD24 : D ≤ 24 := by omega
    obtain ⟨W3, hW3⟩ : ∃ W3, W2.alloc (.cells #[.int .i64 1] 3) = W3 := ⟨_, rfl⟩
    have b3 : Below W2.heap.size W2 W3 := by rw [← hW3]; exact alloc_below _ _
    have x3 : IBox W3 (w.heap.size + 2) 1 := by
      rw [← hW3]
      have := heap_alloc_new W2 (.cells #[.int .i64 1] 3)
      rw [zW2] at this
      exact this
    have HX3 := hid (And.intro (x1.later b3) (And.intro (x2.later b3) x3))
    have HB3 := hid (HB2.out.trans (b3.mono (by omega)))
    have q3 := x3.facts.1
    have p2 := (x2.later b3).facts.1
    have HOk := hid hokA
    clear a1 a2 a3 a4 x1 x2 x3 b3 hokA bW2
    go_enter Try.func16, Try.ntmps16
    go_wp2_with fail
    refine Calls.mono (HI.out _) ?_
    rintro e wz ⟨rfl, hwz⟩
    replace hwz := hwz.symm
    subst hwz
    go_wp2_with fail
    go_loopw [18] (fun s18 wr => ∃ (i n : Nat), i ≤ D ∧ s18 = .int .i64 (i : Int) ∧ Hid (n = H ^ i) ∧ n ≤ 16777216 ∧ Hid (IBox wr w.heap.size (H : Int) ∧ IBox wr (w.heap.size + 1) (D : Int) ∧ IBox wr (w.heap.size + 2) (n : Int)) ∧ Hid (Below w.heap.size w wr)) (fun s18 _ => D - (intOf s18).toNat)
    case atStart => exact ⟨0, 1, Nat.zero_le _, rfl, hid rfl, by omega, HX3, HB3⟩
    case round =>
      obtain ⟨i, n, hi, h18, HN, hn, HBx, HBr⟩ := hrel
      subst h18
      obtain ⟨y1, y2, y3⟩ := HBx.out
      have r1 := y1.facts.1
      have r3 := y3.facts.1
      have f3 := y3.facts.2.1
      have ne1 : w.heap.size ≠ w.heap.size + 2 := by omega
      have ne2 : w.heap.size + 1 ≠ w.heap.size + 2 := by omega
      have HPut := hid (fun u : Int => And.intro (y1.oth ne1 (.int .i64 u)) (And.intro (y2.oth ne2 (.int .i64 u)) (y3.put u)))
      have HBp := hid (fun u : Int => HBr.out.setCell (p := ⟨w.heap.size + 2, 0, none⟩) (Nat.le_add_right _ _) (.int .i64 u))
      clear y1 y2 y3 q1 q2 q3 p2
      by_cases hlt : i < D
      · have hI : (i : Int) < (D : Int) := by omega
        have hdI : decide (i < D) = true := by simp; exact hlt
        by_cases hbig : 1048576 < n
        · have hbI : (1048576 : Int) < (n : Int) := by omega
          have HF := hid (show okA (H : Int) (D : Int) = false by rw [HOk.out]; exact decide_eq_false (by have := pow_up (h := H) (i := i) (d := D) hD1 (by omega); have := HN.out; omega))
          clear hbig
          go_wp2
          go_ret
          exact ⟨.inr ⟨HF.out, rfl⟩, HBr.out⟩
        · have hbI : ¬ (1048576 : Int) < (n : Int) := by omega
          have hm : n * H ≤ 16777216 := Nat.le_trans (Nat.mul_le_mul (show n ≤ 1048576 by omega) hD16) (by omega)
          obtain ⟨m, hmm⟩ : ∃ m, m = n * H := ⟨_, rfl⟩
          have hmi : (n : Int) * (H : Int) = (m : Int) := by rw [hmm]; simp
          have HM := hid (show m = H ^ (i + 1) by rw [hmm, HN.out, Nat.pow_succ])
          rw [← hmm] at hm
          clear hmm hbig
          go_wp2
          go_roundw
          case rel => exact ⟨i + 1, m, by omega, by go_num, HM, hm, hid (HPut.out (m : Int)), hid (HBp.out (m : Int))⟩
          case measure => simp [intOf]; omega
      · have hI : ¬ (i : Int) < (D : Int) := by omega
        have hdI : decide (i < D) = false := by simp; omega
        have hiD : i = D := by omega
        have HE := hid (show n = H ^ D by rw [HN.out, hiD])
        clear hiD hlt
        by_cases hbig : 1048576 < n
        · have hbI : (1048576 : Int) < (n : Int) := by omega
          have HF := hid (show okA (H : Int) (D : Int) = false by rw [HOk.out]; exact decide_eq_false (by have := HE.out; omega))
          clear hbig
          go_wp2
          go_ret
          exact ⟨.inr ⟨HF.out, rfl⟩, HBr.out⟩
        · have hbI : ¬ (1048576 : Int) < (n : Int) := by omega
          have HF := hid (show okA (H : Int) (D : Int) = true by rw [HOk.out]; exact decide_eq_true (by have := HE.out; omega))
          clear hbig
          go_wp2
          go_ret
          exact ⟨.inl ⟨HF.out, _, _, _, rfl, by simp only [Int.toNat_natCast]; rw [← HE.out]; exact HBx.out.2.2, HBx.out.1, HBx.out.2.1, by omega, by omega, by omega⟩, HBr.out⟩
  · have HF := hid (show okA h d = false from decide_eq_false fun x => hok ⟨x.1, x.2.1, x.2.2.1, x.2.2.2.1⟩)
    by_cases b1 : 1 ≤ h ∧ h ≤ 16
    · have hokN : okN h = true := (okN_iff _).2 b1
      rw [hokN] at HI
      by_cases b3 : d < 0
      · clear hok hokN b1
        go_enter Try.func16, Try.ntmps16
        go_wp2_with fail
        refine Calls.mono (HI.out _) ?_
        rintro e wz ⟨rfl, hwz⟩
        replace hwz := hwz.symm
        subst hwz
        go_wp2
        go_ret
        exact ⟨.inr ⟨HF.out, rfl⟩, HB2.out⟩
      · have b4 : 24 < d := by omega
        clear hok hokN b1
        go_enter Try.func16, Try.ntmps16
        go_wp2_with fail
        refine Calls.mono (HI.out _) ?_
        rintro e wz ⟨rfl, hwz⟩
        replace hwz := hwz.symm
        subst hwz
        go_wp2
        go_ret
        exact ⟨.inr ⟨HF.out, rfl⟩, HB2.out⟩
    · rw [okN_no b1] at HI
      clear hok b1
      go_enter Try.func16, Try.ntmps16
      go_wp2_with fail
      refine Calls.mono (HI.out _) ?_
      rintro e wz ⟨rfl, hwz⟩
      replace hwz := hwz.symm
      subst hwz
      go_wp2
      go_ret
      exact ⟨.inr ⟨HF.out, rfl⟩, HB2.out⟩
end Go.Proofs.Ytaiccmbhdgecgaa

namespace Go.Proofs.Ytaiccmbhdgecgaa
open Go.RowKit Go.Shelf
set_option maxRecDepth 100000
set_option linter.unusedVariables false

/-- a list whose cells lie from block z on -/
def Lz (W : World) (z : Nat) (v : Value) (L : List Int) : Prop := RI W v L ∧ ∀ g off n c, v = .slice (some ⟨g, off, none⟩) n c → z ≤ g
theorem Lz.keep {W W' : World} {z : Nat} {v : Value} {L : List Int} (h : Lz W z v L) (hk : ∀ g, z ≤ g → g < W.heap.size → W'.heap[g]? = W.heap[g]?) : Lz W' z v L := by
  obtain ⟨⟨ao, c, e, hc, hn0, hcell⟩, hz⟩ := h
  subst e
  refine ⟨⟨ao, c, rfl, hc, hn0, fun i hi => ?_⟩, hz⟩
  obtain ⟨g, off, rfl, hx⟩ := hcell i hi
  refine ⟨g, off, rfl, ?_⟩
  have hb := hk g (hz g off _ _ rfl) (cell_ltB hx)
  rw [← hx]
  simp only [World.cell?, hb]
theorem Lz.of {W : World} {z : Nat} {v : Value} {L : List Int} (h : OI W z v L) : Lz W z v L := by
  refine ⟨h.reads, ?_⟩
  rintro g off n c rfl
  rcases h.2 with ⟨h2, _⟩ | ⟨g', cap', cur, hv, hg, _⟩
  · cases h2
  · injection hv with e1 e2 e3
    injection e1 with e1
    injection e1 with e1 e4
    subst e1
    exact hg
theorem Lz.ofw {W : World} {z : Nat} {v : Value} {L : List Int} (h : OwI W z v L) : Lz W z v L := by
  refine ⟨h.ri, ?_⟩
  rintro g off n c rfl
  exact (h.lt g rfl).1
/-- the law's boxes: depth, most, the result, k, last -/
structure RiB (B : Nat) (d mo : Int) (w W : World) (k : Nat) (vl : Value) : Prop where
  d : IBox W B d
  m : IBox W (B + 1) mo
  r : Boxed W (B + 2) 4 (.bool false)
  k : IBox W (B + 3) (k : Int)
  l : Boxed W (B + 4) 22 vl
  be : Below B w W
  sz : B + 5 ≤ W.heap.size
section
variable {B : Nat} {d mo : Int} {w W W' : World} {k : Nat} {vl : Value}
theorem RiB.keep (h : RiB B d mo w W k vl) (hk : ∀ g, g < B + 5 → W'.heap[g]? = W.heap[g]?) (ho : W'.os = W.os) (ht : W'.tape = W.tape) (hu : W'.output = W.output) (hz : W.heap.size ≤ W'.heap.size) : RiB B d mo w W' k vl :=
  ⟨(hk _ (by omega)).trans h.d, (hk _ (by omega)).trans h.m, (hk _ (by omega)).trans h.r, (hk _ (by omega)).trans h.k, (hk _ (by omega)).trans h.l, h.be.trans ⟨ho, ht, hu, hz, fun g hg => hk g (by omega)⟩, Nat.le_trans h.sz hz⟩
theorem RiB.later (h : RiB B d mo w W k vl) (hb : Below W.heap.size W W') : RiB B d mo w W' k vl := h.keep (fun g hg => hb.block g (by have := h.sz; omega)) hb.os hb.tape hb.output hb.size
theorem RiB.chg {Bq n : Nat} (h : RiB B d mo w W k vl) (hb : Chg Bq n W W') (hq : B + 5 ≤ Bq) : RiB B d mo w W' k vl := h.keep (fun g hg => hb.block g (by have := h.sz; omega) (by omega)) hb.os hb.tape hb.output hb.size
theorem RiB.putk (h : RiB B d mo w W k vl) (k' : Nat) : RiB B d mo w (W.setCell ⟨B + 3, 0, none⟩ (.int .i64 (k' : Int))) k' vl ∧ ∀ g, g ≠ B + 3 → g < W.heap.size → (W.setCell ⟨B + 3, 0, none⟩ (.int .i64 (k' : Int))).heap[g]? = W.heap[g]? := by
  have hz := h.sz
  have ho : ∀ g, g ≠ B + 3 → g < W.heap.size → (W.setCell ⟨B + 3, 0, none⟩ (.int .i64 (k' : Int))).heap[g]? = W.heap[g]? := fun g hne hlt => hp_o hlt hne _
  exact ⟨⟨(ho _ (by omega) (by omega)).trans h.d, (ho _ (by omega) (by omega)).trans h.m, (ho _ (by omega) (by omega)).trans h.r, h.k.put _, (ho _ (by omega) (by omega)).trans h.l, h.be.setCell (p := ⟨B + 3, 0, none⟩) (by show B ≤ B + 3; omega) _, by simpa using hz⟩, ho⟩
theorem RiB.putl (h : RiB B d mo w W k vl) (v : Value) : RiB B d mo w (W.setCell ⟨B + 4, 0, none⟩ v) k v ∧ ∀ g, g ≠ B + 4 → g < W.heap.size → (W.setCell ⟨B + 4, 0, none⟩ v).heap[g]? = W.heap[g]? := by
  have hz := h.sz
  have ho : ∀ g, g ≠ B + 4 → g < W.heap.size → (W.setCell ⟨B + 4, 0, none⟩ v).heap[g]? = W.heap[g]? := fun g hne hlt => hp_o hlt hne _
  exact ⟨⟨(ho _ (by omega) (by omega)).trans h.d, (ho _ (by omega) (by omega)).trans h.m, (ho _ (by omega) (by omega)).trans h.r, (ho _ (by omega) (by omega)).trans h.k, Boxed.set v h.l, h.be.setCell (p := ⟨B + 4, 0, none⟩) (by show B ≤ B + 4; omega) _, by simpa using hz⟩, ho⟩
/-- the k-th list, its cells new since A -/
def LzD (G : List (List Int)) (k : Nat) (A : World) (v : Value) (W : World) : Prop := Lz W A.heap.size v (G.getD k [])
/-- what holds between two rounds -/
structure RiI (B : Nat) (d mo : Int) (w W5 : World) (z : Nat) (G : List (List Int)) (DL : List Nat) (k : Nat) (W : World) : Prop where
  ex : ∃ vl, RiB B d mo w W k vl ∧ (0 < k → Lz W z vl (G.getD (k - 1) []))
  dl : ∀ p, p ∈ DL → W.heap[p]? = some (.deferred (some []))
  kp : KpL (B + 5) W5.heap.size W5 W
  sz : W5.heap.size ≤ W.heap.size
/-- within a round that began at V -/
structure RiN (B : Nat) (d mo : Int) (w W5 : World) (z : Nat) (G : List (List Int)) (DL : List Nat) (Lo B0 Bq n : Nat) (V : World) (k : Nat) (x vl : Value) (W : World) : Prop where
  b : RiB B d mo w W k vl
  l : 0 < k → Lz W z vl (G.getD (k - 1) [])
  x : Lz W z x (G.getD k [])
  dl : ∀ p, p ∈ DL → W.heap[p]? = some (.deferred (some []))
  kp : KpL (B + 5) W5.heap.size W5 W
  sz : W5.heap.size ≤ W.heap.size
  km : KpM Lo B0 Bq n V W
  sq : Bq + n ≤ W.heap.size
theorem RiI.chg {W5 : World} {z Bq n : Nat} {G : List (List Int)} {DL : List Nat} (h : RiI B d mo w W5 z G DL k W) (hb : Chg Bq n W W') (hq : B + 5 ≤ Bq) (hq5 : W5.heap.size ≤ Bq) (hz : Bq + n ≤ z) (hd : ∀ p, p ∈ DL → p < Bq) : RiI B d mo w W5 z G DL k W' := by
  obtain ⟨⟨vl, h1, h2⟩, h3, h4, h5⟩ := h
  exact ⟨⟨vl, h1.chg hb hq, fun hk => (h2 hk).keep fun g hg hlt => hb.block g hlt (by omega)⟩, fun p hp => (hb.block p (Array.getElem?_eq_some_iff.1 (h3 p hp)).1 (by have := hd p hp; omega)).trans (h3 p hp), fun g hg hlt => (hb.block g (by omega) (by omega)).trans (h4 g hg hlt), Nat.le_trans h5 hb.size⟩
theorem RiI.later {W5 : World} {z : Nat} {G : List (List Int)} {DL : List Nat} (h : RiI B d mo w W5 z G DL k W) (hb : Below W.heap.size W W') : RiI B d mo w W5 z G DL k W' := by
  obtain ⟨⟨vl, h1, h2⟩, h3, h4, h5⟩ := h
  exact ⟨⟨vl, h1.later hb, fun hk => (h2 hk).keep fun g hg hlt => hb.block g hlt⟩, fun p hp => (hb.block p (Array.getElem?_eq_some_iff.1 (h3 p hp)).1).trans (h3 p hp), fun g hg hlt => (hb.block g (by omega)).trans (h4 g hg hlt), Nat.le_trans h5 hb.size⟩
theorem RiI.enter {A W1 W5 : World} {z Bq c : Nat} {G : List (List Int)} {DL : List Nat} {x : Value} (h : RiI B d mo w W5 z G DL k A) (hAW : Below A.heap.size A W1) (hD : LzD G k A x W1) (hc : Chg Bq 2 W1 W) (hz : W.heap.size = W1.heap.size) (hs : Bq + 2 + c ≤ A.heap.size) (hzz : z = Bq + (c + 2)) (hq : B + 5 ≤ Bq) (hq5 : W5.heap.size ≤ Bq) (hdl : ∀ p, p ∈ DL → p < Bq) (Lo B0 : Nat) : ∃ vl, RiN B d mo w W5 z G DL Lo B0 Bq (c + 2) W k x vl W := by
  obtain ⟨⟨vl, h1, h2⟩, h3, h4, h5⟩ := (h.later hAW).chg hc hq hq5 (by omega) hdl
  have hsz := hAW.size
  have hD : Lz W1 A.heap.size x (G.getD k []) := hD
  refine ⟨vl, h1, h2, ?_, h3, h4, h5, KpM.refl _ _ _ _ _, by omega⟩
  obtain ⟨q1, q2⟩ := hD.keep (W' := W) fun g hg hlt => hc.block g hlt (by omega)
  exact ⟨q1, fun g off n c' e => by have := q2 g off n c' e; omega⟩
section
variable {W5 V : World} {z Lo B0 Bq n : Nat} {G : List (List Int)} {DL : List Nat} {x : Value}
theorem RiN.later (h : RiN B d mo w W5 z G DL Lo B0 Bq n V k x vl W) (hb : Below W.heap.size W W') (hB0 : B0 ≤ Bq) : RiN B d mo w W5 z G DL Lo B0 Bq n V k x vl W' := by
  have hq := h.sq
  have hz := h.sz
  exact ⟨h.b.later hb, fun hk => (h.l hk).keep fun g hg hlt => hb.block g hlt, h.x.keep fun g hg hlt => hb.block g hlt, fun p hp => (hb.block p (Array.getElem?_eq_some_iff.1 (h.dl p hp)).1).trans (h.dl p hp), fun g hg hlt => (hb.block g (by omega)).trans (h.kp g hg hlt), Nat.le_trans hz hb.size, ⟨Nat.le_trans h.km.size hb.size, fun g hg => (hb.block g (by omega)).trans (h.km.block g hg)⟩, Nat.le_trans hq hb.size⟩
/-- a round's end: last = l, k++ -/
theorem RiN.end (h : RiN B d mo w W5 z G DL Lo B0 Bq n V k x vl W) (hB0 : B0 ≤ Bq) (hLo : B + 5 ≤ Lo) (hq : B + 5 ≤ Bq) (hzB : B + 5 ≤ z) (hd : ∀ p, p ∈ DL → B + 5 ≤ p) :
    KpM Lo B0 Bq n V ((W.setCell ⟨B + 4, 0, none⟩ x).setCell ⟨B + 3, 0, none⟩ (.int .i64 ((k : Int) + 1))) ∧ RiI B d mo w W5 z G DL (k + 1) ((W.setCell ⟨B + 4, 0, none⟩ x).setCell ⟨B + 3, 0, none⟩ (.int .i64 ((k : Int) + 1))) := by
  have hs := h.b.sz
  have hsq := h.sq
  have hsz := h.sz
  rw [show ((k : Int) + 1) = ((k + 1 : Nat) : Int) by omega]
  obtain ⟨a1, a2⟩ := h.b.putl x
  obtain ⟨b1, b2⟩ := a1.putk (k + 1)
  have old : ∀ g, B + 5 ≤ g → g < W.heap.size → ((W.setCell ⟨B + 4, 0, none⟩ x).setCell ⟨B + 3, 0, none⟩ (.int .i64 ((k + 1 : Nat) : Int))).heap[g]? = W.heap[g]? := fun g h1 h2 => (b2 g (by omega) (by simpa using h2)).trans (a2 g (by omega) h2)
  refine ⟨⟨by have := h.km.size; simpa using this, fun g hg => (old g (by omega) (by omega)).trans (h.km.block g hg)⟩, ⟨⟨x, b1, fun _ => ?_⟩, fun p hp => (old p (hd p hp) (Array.getElem?_eq_some_iff.1 (h.dl p hp)).1).trans (h.dl p hp), fun g hg hlt => (old g hg (by omega)).trans (h.kp g hg hlt), by simpa using hsz⟩⟩
  rw [Nat.add_sub_cancel]
  exact h.x.keep fun g hg hlt => old g (by omega) hlt
/-- the cells that a round reads -/
theorem RiN.cells (h : RiN B d mo w W5 z G DL Lo B0 Bq n V k x vl W) : (W.cell? ⟨B + 3, 0, none⟩ = some (.int .i64 (k : Int)) ∧ W.cell? ⟨B + 4, 0, none⟩ = some vl ∧ W.frozen? ⟨B + 4, 0, none⟩ = false ∧ W.cell? ⟨B, 0, none⟩ = some (.int .i64 d) ∧ W.cell? ⟨B + 1, 0, none⟩ = some (.int .i64 mo)) ∧ (W.setCell ⟨B + 4, 0, none⟩ x).cell? ⟨B + 3, 0, none⟩ = some (.int .i64 (k : Int)) ∧ (W.setCell ⟨B + 4, 0, none⟩ x).frozen? ⟨B + 3, 0, none⟩ = false := by
  have b := h.b
  obtain ⟨a1, a2⟩ := b.putl x
  exact ⟨⟨b.k.facts.1, b.l.cell, b.l.frozen, b.d.facts.1, b.m.facts.1⟩, a1.k.facts.1, (show Boxed _ (B + 3) 3 (.int .i64 (k : Int)) from a1.k).frozen⟩
end
theorem RiI.start {W5 : World} {z : Nat} {G : List (List Int)} {DL : List Nat} (h : RiB B d mo w W 0 vl) (hd : ∀ p, p ∈ DL → W.heap[p]? = some (.deferred (some []))) (hk : KpL (B + 5) W5.heap.size W5 W) (hs : W5.heap.size ≤ W.heap.size) : RiI B d mo w W5 z G DL 0 W := ⟨⟨vl, h, fun e => absurd e (Nat.lt_irrefl 0)⟩, hd, hk, hs⟩
/-- k = 0 -/
theorem RiI.zero {W5 : World} {z z' : Nat} {G G' : List (List Int)} {DL : List Nat} (h : RiI B d mo w W5 z G DL k W) (hd : ∀ p, p ∈ DL → B + 5 ≤ p) : RiI B d mo w W5 z' G' DL 0 (W.setCell ⟨B + 3, 0, none⟩ (.int .i64 0)) := by
  obtain ⟨⟨vl, h1, h2⟩, h3, h4, h5⟩ := h
  obtain ⟨b1, b2⟩ := h1.putk 0
  exact RiI.start b1 (fun p hp => (b2 p (by have := hd p hp; omega) (Array.getElem?_eq_some_iff.1 (h3 p hp)).1).trans (h3 p hp)) (fun g hg hlt => (b2 g (by omega) (by omega)).trans (h4 g hg hlt)) (by simpa using h5)
end
end Go.Proofs.Ytaiccmbhdgecgaa

namespace Go.Proofs.Ytaiccmbhdgecgaa
open Go.RowKit Go.Shelf
set_option maxRecDepth 100000
set_option linter.unusedVariables false
set_option linter.unusedSimpArgs false
attribute [local go_sem] Oper.semAt_some

theorem seq_notR (fn : Fn) (fi ca : Array Value) (w : World) : (binOp .eql 32 (.func fn fi ca) .nilFunc).run Try.prog w = .ok (.bool false) w := eql_func_nil w Try.underlying32 fn fi ca
theorem whole_any (gf : Nat) (lb : Array Value) (w : World) : Calls Try.prog 17 #[.func (.func gf) #[] lb] w fun e w' => e = .returned (.func (.func gf) #[] lb) ∧ w' = w := by
  have hnn := seq_notR (.func gf) #[] lb
  go_enter Try.func17, Try.ntmps17
  go_wp2
  go_ret
  exact ⟨rfl, rfl⟩
theorem SeqC.mono {gf c Lo B0 n : Nat} {lb : Array Value} {D D' : Nat → World → Value → World → Prop} {w0 : World} (h : SeqC gf lb c Lo B0 n D w0) (hd : ∀ k A v W, k < n → D k A v W → D' k A v W) : SeqC gf lb c Lo B0 n D' w0 :=
  fun l J Jx W a b hJ hJx hY h0 => h l J Jx W a b hJ hJx (fun k v A W1 i1 i2 i3 i4 i5 => hY k v A W1 i1 i2 i3 (hd k A v W1 i2 i4) i5) h0
structure SqG (G : List (List Int)) (gf : Nat) (lb : Array Value) (c Lo B0 : Nat) (w0 : World) : Prop where
  eg : ∀ args w, (callFunc gf args).run Try.prog w = .ok (.enter gf args) w
  sq : SeqC gf lb c Lo B0 G.length (LzD G) w0
theorem SqG.of_few {R : List Int} {mo : Int} {w w' : World} {e : Ending} (h : FwQ R mo w w' e) : ∃ gf lb c, e = .returned (.func (.func gf) #[] lb) ∧ SqG ((GL R mo).map iN) gf lb c w.heap.size w'.heap.size w' := by
  obtain ⟨gf, lb, c, he, hg, hs⟩ := h
  refine ⟨gf, lb, c, he, hg, ?_⟩
  rw [List.length_map]
  refine hs.mono fun k A v W hk hD => ?_
  have e : ((GL R mo).map iN).getD k [] = iN ((GL R mo).getD k []) := by
    rw [List.getD_eq_getElem?_getD, List.getElem?_map, List.getD_eq_getElem?_getD, List.getElem?_eq_getElem hk]
    rfl
  unfold LzD
  rw [e]
  exact Lz.of hD
structure AlG (h d : Int) (G : List (List Int)) : Prop where
  rise : Rsg G
  len : (okA h d = true ∧ G.length = h.toNat ^ d.toNat) ∨ (okA h d = false ∧ G.length = 0)
  each : ∀ k, k < G.length → ((G.getD k []).length : Int) = d
theorem SqG.of_all {h d : Int} {w w' : World} {e : Ending} (hA : AlF h d w w' e) : ∃ gf lb c G, e = .returned (.func (.func gf) #[] lb) ∧ SqG G gf lb c w.heap.size w'.heap.size w' ∧ AlG h d G := by
  rcases hA with ⟨hok, g1, g2, g3, rfl, x1, x2, x3, y1, y2, y3⟩ | ⟨hok, rfl⟩
  · have hk : 1 ≤ h ∧ h ≤ 16 ∧ 0 ≤ d ∧ d ≤ 24 ∧ h.toNat ^ d.toNat ≤ 1048576 := of_decide_eq_true hok
    obtain ⟨H, hH⟩ : ∃ H : Nat, h = (H : Int) := ⟨h.toNat, by omega⟩
    obtain ⟨D, hD⟩ : ∃ D : Nat, d = (D : Int) := ⟨d.toNat, by omega⟩
    subst hH hD
    simp only [Int.toNat_natCast] at hk x1
    have hl : ((List.range (H ^ D)).map fun k => dig H k D).length = H ^ D := by rw [List.length_map, List.length_range]
    have hat : ∀ k, k < H ^ D → ((List.range (H ^ D)).map fun k => dig H k D).getD k [] = dig H k D := fun k hk => by
      rw [List.getD_eq_getElem?_getD, List.getElem?_map, List.getElem?_range hk]
      rfl
    refine ⟨_, _, 0, (List.range (H ^ D)).map fun k => dig H k D, rfl, ⟨enters_of Try.func43 (by kernel_rfl) rfl, ?_⟩, ?_, ?_, ?_⟩
    · rw [hl]
      refine (all_seqC g1 g2 g3 w.heap.size w'.heap.size H D w' (by omega) (by omega) hk.2.2.2.2 ⟨y1, x1.facts.2.2⟩ ⟨y2, x2.facts.2.2⟩ ⟨y3, x3.facts.2.2⟩ x1 x2 x3).mono fun k A v W hk hD => ?_
      unfold LzD
      rw [hat k hk]
      exact Lz.ofw hD
    · unfold Rsg
      rw [List.pairwise_iff_getElem]
      intro i j hi hj hij
      rw [List.getElem_map, List.getElem_map, List.getElem_range, List.getElem_range]
      exact dig_rises H (by omega) D i j hij (by rw [hl] at hj; exact hj)
    · exact .inl ⟨hok, by rw [hl]; simp only [Int.toNat_natCast]⟩
    · intro k hk
      rw [hl] at hk
      rw [hat k hk, dig_len]
  · exact ⟨_, _, 0, [], rfl, ⟨enters_of Try.func38 (by kernel_rfl) rfl, none_seqC _ _ _ _⟩, List.Pairwise.nil, .inr ⟨hok, rfl⟩, fun k hk => absurd hk (Nat.not_lt_zero k)⟩
theorem inB_iN {x : List Nat} (hx : ∀ y ∈ x, y < 16) : inB (iN x) 16 = true := by
  unfold inB
  rw [List.all_eq_true]
  intro a ha
  obtain ⟨y, hy, rfl⟩ := List.mem_map.1 (show a ∈ x.map (fun n : Nat => (n : Int)) from ha)
  have := hx y hy
  simp
  omega
theorem swA_mix {x : List Nat} (hx : ∀ y ∈ x, y < 16) (hl : x.length ≤ 24) {e : Ending} (h : SwA (iN x) e) : e = .returned (.tuple #[.int .i64 (cS x x.length : Int), .int .i64 0]) := by
  rcases h with ⟨h, _⟩ | ⟨_, h, _⟩ | ⟨_, _, L, h1, _, h2⟩
  · rw [inB_iN hx] at h; cases h
  · rw [iN_len] at h; omega
  · rw [iN_inj h1]; exact h2
/-- what the law asks of what Few goes over -/
structure FwG (R : List Int) (mo : Int) (G : List (List Int)) : Prop where
  rise : Rsg G
  each : ∀ k, k < G.length → ∃ x, G.getD k [] = iN x ∧ (∀ y ∈ x, y < 16) ∧ x.length ≤ 24 ∧ ((cS x x.length : Nat) : Int) ≤ mo
  all : mo = 24 → smR R = true → (G.length : Int) = (cntA R).1
  none : (smR R = false ∨ mo < 0) → G.length = 0
  some : smR R = true → 0 ≤ mo → 0 < G.length
  few : G.length ≤ 1048576
theorem fwg (R : List Int) (mo : Int) : FwG R mo ((GL R mo).map iN) := by
  have h := glk R mo
  refine ⟨?_, ?_, ?_, ?_, ?_, ?_⟩
  · unfold Rsg
    rw [List.pairwise_map]
    exact h.rise
  · intro k hk
    rw [List.length_map] at hk
    refine ⟨(GL R mo)[k], ?_, h.each _ (List.getElem_mem _)⟩
    rw [List.getD_eq_getElem?_getD, List.getElem?_map, List.getElem?_eq_getElem hk]
    rfl
  · rw [List.length_map]
    exact h.all
  · intro hx
    rw [List.length_map, h.none hx]
    rfl
  · intro h1 h2
    rw [List.length_map]
    exact List.length_pos_iff.2 (h.some h1 h2)
  · rw [List.length_map]
    exact h.few
theorem want_bad {h d : Int} {G : List (List Int)} (hA : AlG h d G) {M i a : Nat} (hM : max 1 (min h 16) = (M : Int)) (ha : a = M ^ i) (hi : (i : Int) ≤ d ∨ i = 0) (hb : h < 1 ∨ 16 < h ∨ d < 0 ∨ 24 < d ∨ 1048576 < (a : Int)) : G.length = 0 := by
  rcases hA.len with ⟨e1, e2⟩ | ⟨e1, e2⟩
  · exfalso
    have hk : 1 ≤ h ∧ h ≤ 16 ∧ 0 ≤ d ∧ d ≤ 24 ∧ h.toNat ^ d.toNat ≤ 1048576 := of_decide_eq_true e1
    obtain ⟨k1, k2, k3, k4, k5⟩ := hk
    have eM : M = h.toNat := by omega
    have hle : a ≤ h.toNat ^ d.toNat := by
      rw [ha, eM]
      exact Nat.pow_le_pow_right (by omega) (by omega)
    omega
  · exact e2
theorem want_good {h d : Int} {G : List (List Int)} (hA : AlG h d G) {M i a : Nat} (hM : max 1 (min h 16) = (M : Int)) (ha : a = M ^ i) (hi : (i : Int) ≤ d ∨ i = 0) (hb : ¬ (h < 1 ∨ 16 < h ∨ d < 0 ∨ 24 < d ∨ 1048576 < (a : Int))) (hg : ¬ ((i : Int) < d ∧ i ≤ 24 ∧ a ≤ 1048576)) : G.length = a := by
  have eM : M = h.toNat := by omega
  have ei : i = d.toNat := by omega
  rcases hA.len with ⟨e1, e2⟩ | ⟨e1, e2⟩
  · rw [e2, ha, eM, ei]
  · exfalso
    have : okA h d = true := by
      unfold okA
      refine decide_eq_true ⟨by omega, by omega, by omega, by omega, ?_⟩
      rw [← eM, ← ei, ← ha]
      omega
    rw [this] at e1
    cases e1
/-- four loops' deferred calls, taken one behind the other -/
theorem four_k {WF : World} {p1 p2 p3 p4 : Nat} (h1 : p2 < p1) (h2 : p3 < p2) (h3 : p4 < p3) (k1 : WF.heap[p1]? = some (.deferred (some []))) (k2 : WF.heap[p2]? = some (.deferred (some []))) (k3 : WF.heap[p3]? = some (.deferred (some []))) (k4 : WF.heap[p4]? = some (.deferred (some []))) :
    (WF.putObj p1 (.deferred none)).heap[p2]? = some (.deferred (some [])) ∧ ((WF.putObj p1 (.deferred none)).putObj p2 (.deferred none)).heap[p3]? = some (.deferred (some [])) ∧ (((WF.putObj p1 (.deferred none)).putObj p2 (.deferred none)).putObj p3 (.deferred none)).heap[p4]? = some (.deferred (some [])) ∧ Below p4 WF ((((WF.putObj p1 (.deferred none)).putObj p2 (.deferred none)).putObj p3 (.deferred none)).putObj p4 (.deferred none)) :=
  ⟨(World.putObj_heap_other (by omega)).trans k2, (World.putObj_heap_other (by omega)).trans ((World.putObj_heap_other (by omega)).trans k3), (World.putObj_heap_other (by omega)).trans ((World.putObj_heap_other (by omega)).trans ((World.putObj_heap_other (by omega)).trans k4)),
    ⟨rfl, rfl, rfl, by simp, fun g hg => (World.putObj_heap_other (by omega)).trans ((World.putObj_heap_other (by omega)).trans ((World.putObj_heap_other (by omega)).trans (World.putObj_heap_other (by omega))))⟩⟩
end Go.Proofs.Ytaiccmbhdgecgaa
