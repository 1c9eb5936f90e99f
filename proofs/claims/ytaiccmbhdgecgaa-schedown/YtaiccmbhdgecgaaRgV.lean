/-
  A range over a function that yields values which it makes: it turns nothing that lay. Laid by mkrgv.py out of Rg.
-/
import Derived.Maps.AppendAt
import Derived.Test.YtaiccmbhdgecgaaSr1
namespace Go.Proofs.Ytaiccmbhdgecgaa
open Go.RowKit Go.Shelf
set_option maxRecDepth 100000
attribute [local go_sem] Oper.semAt_some

/-- of all that lay only the n blocks from B on may have turned -/
structure Chg (B n : Nat) (A A' : World) : Prop where
  os : A'.os = A.os
  tape : A'.tape = A.tape
  output : A'.output = A.output
  size : A.heap.size ≤ A'.heap.size
  block : ∀ k, k < A.heap.size → ¬ (B ≤ k ∧ k < B + n) → A'.heap[k]? = A.heap[k]?
theorem Chg.refl (B n : Nat) (A : World) : Chg B n A A := ⟨rfl, rfl, rfl, Nat.le_refl _, fun _ _ _ => rfl⟩
theorem Chg.alloc (B n : Nat) (A : World) (o : Obj) : Chg B n A (A.alloc o) :=
  have h := alloc_below A o
  ⟨h.os, h.tape, h.output, h.size, fun k hk _ => h.block k hk⟩
theorem Chg.put {B n l : Nat} (A : World) (o : Obj) (h1 : B ≤ l) (h2 : l < B + n) : Chg B n A (A.putObj l o) :=
  ⟨rfl, rfl, rfl, by simp, fun k _ hk => World.putObj_heap_other (fun e => hk ⟨by omega, by omega⟩)⟩
theorem Chg.trans {B n : Nat} {A A' A'' : World} (h : Chg B n A A') (k : Chg B n A' A'') : Chg B n A A'' :=
  ⟨k.os.trans h.os, k.tape.trans h.tape, k.output.trans h.output, Nat.le_trans h.size k.size, fun i hi hn => (k.block i (Nat.lt_of_lt_of_le hi h.size) hn).trans (h.block i hi hn)⟩
theorem Chg.wide {B n : Nat} {A A' : World} (h : Chg (B + 2) n A A') : Chg B (n + 2) A A' := ⟨h.os, h.tape, h.output, h.size, fun k hk hn => h.block k hk (by omega)⟩
theorem Chg.of_below {B n B1 : Nat} {A A' : World} (h : Below B1 A A') (h1 : ∀ k, k < A.heap.size → k < B1 ∨ (B ≤ k ∧ k < B + n)) : Chg B n A A' :=
  ⟨h.os, h.tape, h.output, h.size, fun k hk hn => h.block k ((h1 k hk).resolve_right hn)⟩
theorem Chg.below {B n B1 : Nat} {w A A' : World} (h : Chg B n A A') (hb : Below B1 w A) (h1 : B1 ≤ B) (h2 : B1 ≤ w.heap.size) : Below B1 w A' :=
  hb.trans ⟨h.os, h.tape, h.output, h.size, fun k hk => h.block k (by have := hb.size; omega) (by omega)⟩
/-- what a round leaves as it lay: the blocks ahead of B0, and n from B on -/
structure KpW (B0 B n : Nat) (A A' : World) : Prop where
  size : A.heap.size ≤ A'.heap.size
  block : ∀ k, (k < B0 ∨ (B ≤ k ∧ k < B + n)) → A'.heap[k]? = A.heap[k]?
theorem KpW.refl (B0 B n : Nat) (A : World) : KpW B0 B n A A := ⟨Nat.le_refl _, fun _ _ => rfl⟩
theorem KpW.trans {B0 B n : Nat} {A A' A'' : World} (h : KpW B0 B n A A') (k : KpW B0 B n A' A'') : KpW B0 B n A A'' := ⟨Nat.le_trans h.size k.size, fun i hi => (k.block i hi).trans (h.block i hi)⟩
theorem KpW.in {B0 B n : Nat} {A A' : World} (h : KpW B0 B (n + 2) A A') : KpW B0 (B + 2) n A A' := ⟨h.size, fun k hk => h.block k (by omega)⟩

/-- an iterator yields n values; the k-th, made since the world A, is as D says -/
def SeqV (gf : Nat) (lb : Array Value) (B0 n : Nat) (D : Nat → World → Value → World → Prop) (w0 : World) : Prop :=
  ∀ (l : Nat) (J Jx : Nat → World → Prop) (W : World), Below B0 w0 W → B0 ≤ W.heap.size → (∀ k A A', J k A → Chg W.heap.size 0 A A' → J k A') → (∀ k A A', Jx k A → Chg W.heap.size 0 A A' → Jx k A') →
    (∀ k v A W1, J k A → k < n → Below A.heap.size A W1 → D k A v W1 → W.heap.size ≤ A.heap.size → YieldAt Fence.wide 3 Try.prog l #[v] W1 fun e W' =>
      (e = .returned (.bool true) ∧ J (k + 1) W' ∧ KpW B0 W.heap.size 0 W1 W') ∨ (e = .returned (.bool false) ∧ Jx (k + 1) W' ∧ KpW B0 W.heap.size 0 W1 W')) →
    J 0 W → CallsIn Fence.wide 4 Try.prog gf (#[.func (.yield l) #[] #[]] ++ lb) W fun e W' => (∃ v, e = .returned v) ∧ (J n W' ∨ ∃ k, Jx k W')

/-- how a round's body ends -/
def endV (id B0 B : Nat) (I Ix : Nat → World → Prop) (k : Nat) (W : World) (e : Exit) (_ : Act) (W' : World) : Prop :=
  (e = .normal ∧ KpW B0 B 2 W W' ∧ I k W') ∨ (e = .exit id ∧ KpW B0 B 2 W W' ∧ Ix k W')

theorem range_v {g : Operand} {p : Tmp} {assign body : Code} {Q : Exit → Act → World → Prop} {a : Act} {w w0 : World} {gf : Nat} {lb : Array Value} {n : Nat} {D : Nat → World → Value → World → Prop} {id : Nat}
    (hg : a.eval g = .func (.func gf) #[] lb) (eg : ∀ args w, (callFunc gf args).run Try.prog w = .ok (.enter gf args) w) (hseq : SeqV gf lb w0.heap.size n D w0) (hb0 : Below w0.heap.size w0 w)
    (I Ix : Nat → World → Prop) (hI : ∀ k A A', I k A → Chg w.heap.size 2 A A' → I k A') (hIx : ∀ k A A', Ix k A → Chg w.heap.size 2 A A' → Ix k A') (h0 : I 0 w) (a1 : Value → Act)
    (hassign : ∀ (l : Nat) (x : Value) (W : World) (K : Act → World → Prop), K (a1 x) W → assign.wpIn (Fence.wide.inRound l) 3 Try.prog (Exit.then K (fun _ _ _ => False)) { tmps := a.tmps.setIfInBounds p x, defers := [] } W)
    (hbody : ∀ (l k : Nat) (x : Value) (A W1 W : World), I k A → k < n → Below A.heap.size A W1 → D k A x W1 → Chg w.heap.size 2 W1 W → W.heap.size = W1.heap.size → w.heap.size + 2 ≤ A.heap.size → body.wpIn (Fence.wide.inRound l) 3 Try.prog (endV id w0.heap.size w.heap.size I Ix (k + 1) W) (a1 x) W)
    (hdone : ∀ W, I n W → W.heap[w.heap.size]? = some (.deferred (some [])) → Q .normal { a with defers := { target := .collected w.heap.size, args := #[] } :: a.defers } W)
    (hstop : ∀ k W, Ix k W → W.heap[w.heap.size]? = some (.deferred (some [])) → (Code.exit id).wpIn Fence.wide 5 Try.prog Q { a with defers := { target := .collected w.heap.size, args := #[] } :: a.defers } W) :
    (Code.rangeFunc g #[p] assign body).wpIn Fence.wide 5 Try.prog Q a w := by
  refine wpIn_rangeFunc fun fn hfn => ?_
  -- the loop's record lies in block B + 1, the deferred calls in block B
  obtain ⟨B, hB⟩ : ∃ B, w.heap.size = B := ⟨_, rfl⟩
  obtain ⟨lp, hlp⟩ : ∃ lp : LoopState → Option Code → Loop, ∀ s j, lp s j = { state := s, pending := j, fn, tmps := a.tmps, params := #[p], assign, body, defers := B } := ⟨_, fun _ _ => rfl⟩
  have hst : ∀ s j, (lp s j).state = s := fun s j => by rw [hlp]
  have hpd : ∀ s j, (lp s j).pending = j := fun s j => by rw [hlp]
  have henter := run_enterLoop_outer (P := Try.prog) (w := w) fn a.tmps #[p] assign body
  rw [hB, ← hlp] at henter
  obtain ⟨V, hV⟩ : ∃ V, (w.alloc (.deferred (some []))).alloc (.loop (lp .ready none)) = V := ⟨_, rfl⟩
  rw [hV] at henter
  have zV : V.heap.size = B + 2 := by rw [← hV]; simp [hB]
  have cV : Chg B 2 w V := by rw [← hV]; exact (Chg.alloc _ _ _ _).trans (Chg.alloc _ _ _ _)
  have lV : V.heap[B + 1]? = some (.loop (lp .ready none)) := by
    rw [← hV, ← hB, ← World.size_alloc w (.deferred (some []))]
    exact heap_alloc_new _ _
  have dV : V.heap[B]? = some (.deferred (some [])) := by
    rw [← hV, (alloc_below _ _).block B (by simp [hB]), ← hB]
    exact heap_alloc_new _ _
  have bV : Below w0.heap.size w0 V := cV.below hb0 (by have := hb0.size; omega) (Nat.le_refl _)
  rw [hB] at hI hIx hbody hdone hstop
  refine ⟨B + 1, [{ target := .collected B, args := #[] }], V, { target := .fn (.func gf) lb, args := #[.func (.yield (B + 1)) #[] #[]] }, V, gf, #[.func (.yield (B + 1)) #[] #[]] ++ lb, V, henter, ?_, fun _ _ => trivial, ?_, fun _ => (by omega), ?_⟩
  · simp only [resolve, hg]
    simp [go_sem]
  · simp [invoke, go_sem, eg]
  have keep : ∀ {A A' : World} {k : Nat} {o : Obj}, Chg V.heap.size 0 A A' → A.heap[k]? = some o → k < B + 2 → A'.heap[k]? = some o := fun {A A' k o} h hk hlt =>
    (h.block k (Array.getElem?_eq_some_iff.1 hk).1 (by rw [zV]; omega)).trans hk
  refine (hseq (B + 1) (fun k W => I k W ∧ W.heap[B + 1]? = some (.loop (lp .ready none)) ∧ W.heap[B]? = some (.deferred (some [])))
    (fun k W => Ix k W ∧ W.heap[B + 1]? = some (.loop (lp .done (some (.exit id)))) ∧ W.heap[B]? = some (.deferred (some []))) V bV (by have := hb0.size; omega)
    (fun k A A' h hc => ⟨hI k A A' h.1 (by rw [zV] at hc; exact hc.wide), keep hc h.2.1 (by omega), keep hc h.2.2 (by omega)⟩)
    (fun k A A' h hc => ⟨hIx k A A' h.1 (by rw [zV] at hc; exact hc.wide), keep hc h.2.1 (by omega), keep hc h.2.2 (by omega)⟩) ?round ⟨hI _ _ _ h0 cV, lV, dV⟩).mono ?after
  case round =>
    rintro k x A W ⟨hi, hlA, hdA⟩ hk hAW hD hz
    rw [zV] at hz
    have hl : W.heap[B + 1]? = some (.loop (lp .ready none)) := (hAW.block (B + 1) (by omega)).trans hlA
    have hd : W.heap[B]? = some (.deferred (some [])) := (hAW.block B (by omega)).trans hdA
    have hzW : B + 2 ≤ W.heap.size := by have := hAW.size; omega
    have hy := run_yield (P := Try.prog) (args := #[x]) hl (by rw [hlp]; rfl)
    rw [hlp] at hy
    have ht : ∀ t : Array Value, ((#[p] : Array Tmp).zip #[x]).foldl (fun tmps (t, a) => tmps.setIfInBounds t a) t = t.setIfInBounds p x := fun t => by simp
    rw [ht] at hy
    refine ⟨fn, _, assign, body, hy, roundIn_of_wpIn hfn ?_⟩
    refine hassign (B + 1) x W _ ?_
    refine ⟨_, run_beginRound hl (hst _ _), ?_⟩
    obtain ⟨U, hU⟩ : ∃ U, W.putObj (B + 1) (.loop { lp .ready none with state := .busy }) = U := ⟨_, rfl⟩
    have lU : U.heap[B + 1]? = some (.loop { lp .ready none with state := .busy }) := by rw [← hU]; exact World.putObj_heap_same (by omega)
    have dU : U.heap[B]? = some (.deferred (some [])) := by rw [← hU, World.putObj_heap_other (by omega)]; exact hd
    have cU : Chg B 2 W U := by rw [← hU]; exact Chg.put _ _ (by omega) (by omega)
    have zUW : U.heap.size = W.heap.size := by rw [← hU]; simp
    have kU : KpW w0.heap.size (B + 2) 0 W U := by
      rw [← hU]
      exact ⟨by simp, fun k hk => World.putObj_heap_other (by have := hb0.size; omega)⟩
    rw [hU]
    refine wpIn_mono (hbody (B + 1) k x A W U hi hk hAW hD cU zUW hz) ?_
    -- behind the body: the record is put back, or keeps the jump
    have fin : ∀ (U' : World) (j : Option Code), KpW w0.heap.size B 2 U U' →
        (Instr.endRound (B + 1) j).run Try.prog U' = .ok (.bool j.isNone) (U'.putObj (B + 1) (.loop (lp (if j.isNone then .ready else .done) j))) ∧
        (U'.putObj (B + 1) (.loop (lp (if j.isNone then .ready else .done) j))).heap[B + 1]? = some (.loop (lp (if j.isNone then .ready else .done) j)) ∧
        (U'.putObj (B + 1) (.loop (lp (if j.isNone then .ready else .done) j))).heap[B]? = some (.deferred (some [])) ∧
        KpW w0.heap.size (B + 2) 0 W (U'.putObj (B + 1) (.loop (lp (if j.isNone then .ready else .done) j))) := fun U' j hk => by
      have l' : U'.heap[B + 1]? = some (.loop { lp .ready none with state := .busy }) := (hk.block (B + 1) (.inr ⟨by omega, by omega⟩)).trans lU
      have d' : U'.heap[B]? = some (.deferred (some [])) := (hk.block B (.inr ⟨by omega, by omega⟩)).trans dU
      refine ⟨?_, World.putObj_heap_same (Array.getElem?_eq_some_iff.1 l').1, (World.putObj_heap_other (by omega)).trans d', ?_⟩
      · have := run_endRound (P := Try.prog) j l'
        rw [hlp] at this ⊢
        exact this
      · exact (kU.trans hk.in).trans ⟨by simp, fun k hk => World.putObj_heap_other (by have := hb0.size; omega)⟩
    rintro e a3 U' (⟨rfl, hp⟩ | ⟨rfl, hp⟩)
    · obtain ⟨hr, h1, h2, h3⟩ := fin U' none hp.1
      exact ⟨_, _, hr, .inl ⟨rfl, ⟨hI _ _ _ hp.2 (Chg.put _ _ (by omega) (by omega)), h1, h2⟩, by rw [zV]; exact h3⟩⟩
    · obtain ⟨hr, h1, h2, h3⟩ := fin U' (some (.exit id)) hp.1
      exact ⟨_, _, hr, .inr ⟨rfl, ⟨hIx _ _ _ hp.2 (Chg.put _ _ (by omega) (by omega)), h1, h2⟩, by rw [zV]; exact h3⟩⟩
  case after =>
    rintro e W ⟨⟨v, rfl⟩, (⟨hi, hl, hd⟩ | ⟨k, hi, hl, hd⟩)⟩
    · refine ⟨none, _, (run_endLoop (P := Try.prog) hl (by rw [hst]; simp)).trans (by rw [hpd]), ?_⟩
      exact hdone _ (hI _ _ _ hi (Chg.put _ _ (by omega) (by omega))) ((World.putObj_heap_other (by omega)).trans hd)
    · refine ⟨some (.exit id), _, (run_endLoop (P := Try.prog) hl (by rw [hst]; simp)).trans (by rw [hpd]), ?_⟩
      exact hstop k _ (hIx _ _ _ hi (Chg.put _ _ (by omega) (by omega))) ((World.putObj_heap_other (by omega)).trans hd)
theorem range_v2 {g : Operand} {p : Tmp} {assign body : Code} {Q0 : Exit → Act → World → Prop} {a : Act} {w w0 : World} {gf : Nat} {lb : Array Value} {n : Nat} {D : Nat → World → Value → World → Prop} {id : Nat}
    (hg : a.eval g = .func (.func gf) #[] lb) (eg : ∀ args w, (callFunc gf args).run Try.prog w = .ok (.enter gf args) w) (hseq : SeqV gf lb w0.heap.size n D w0) (hb0 : Below w0.heap.size w0 w)
    (I Ix : Nat → World → Prop) (hI : ∀ k A A', I k A → Chg w.heap.size 2 A A' → I k A') (hIx : ∀ k A A', Ix k A → Chg w.heap.size 2 A A' → Ix k A') (h0 : I 0 w) (a1 : Value → Act)
    (hassign : ∀ (l : Nat) (x : Value) (W : World) (K : Act → World → Prop), K (a1 x) W → assign.wpIn (Fence.wide.inRound l) 3 Try.prog (Exit.then K (fun _ _ _ => False)) { tmps := a.tmps.setIfInBounds p x, defers := [] } W)
    (hbody : ∀ (l k : Nat) (x : Value) (A W1 W : World), I k A → k < n → Below A.heap.size A W1 → D k A x W1 → Chg w.heap.size 2 W1 W → W.heap.size = W1.heap.size → w.heap.size + 2 ≤ A.heap.size → body.wpIn (Fence.wide.inRound l) 3 Try.prog (endV id w0.heap.size w.heap.size I Ix (k + 1) W) (a1 x) W)
    (G : World → Prop) (hd : ∀ W, I n W → G W) (hs : ∀ k W, Ix k W → G W)
    (hgo : ∀ W, G W → W.heap[w.heap.size]? = some (.deferred (some [])) → Q0 .normal { a with defers := { target := .collected w.heap.size, args := #[] } :: a.defers } W) :
    (Code.rangeFunc g #[p] assign body).wpIn Fence.wide 5 Try.prog (Exit.inBlock id Q0) a w := by
  refine range_v hg eg hseq hb0 I Ix hI hIx h0 a1 hassign hbody (fun W hW hK => ?_) (fun k W hW hK => ?_)
  · exact hgo W (hd W hW) hK
  · have h := hgo W (hs k W hW) hK
    gi_wp2
    exact h
end Go.Proofs.Ytaiccmbhdgecgaa
