/-
  A range over a function that writes blocks of its own between its yields: c blocks, the first that it makes.
-/
import Derived.Maps.AppendAt
import Derived.Test.YtecjpjjcahanoabSr2
namespace Go.Proofs.Ytecjpjjcahanoab
open Go.RowKit Go.Shelf
set_option maxRecDepth 100000
attribute [local go_sem] Oper.semAt_some

/-- of all that lay only the n blocks from B on may have turned -/
structure Chg (B n : Nat) (A A' : World) : Prop where
  os : A'.os = A.os
  tape : A'.tape = A.tape
  output : A'.output = A.output
  size : A.heap.size ≤ A'.heap.size
  block : ∀ k, k < A.heap.size → ¬ (B ≤ k ∧ k < B + n) → A'.heap[k]? = A.heap[k]?
theorem Chg.refl (B n : Nat) (A : World) : Chg B n A A := ⟨rfl, rfl, rfl, Nat.le_refl _, fun _ _ _ => rfl⟩
theorem Chg.alloc (B n : Nat) (A : World) (o : Obj) : Chg B n A (A.alloc o) :=
  have h := alloc_below A o
  ⟨h.os, h.tape, h.output, h.size, fun k hk _ => h.block k hk⟩
theorem Chg.put {B n l : Nat} (A : World) (o : Obj) (h1 : B ≤ l) (h2 : l < B + n) : Chg B n A (A.putObj l o) :=
  ⟨rfl, rfl, rfl, by simp, fun k _ hk => World.putObj_heap_other (fun e => hk ⟨by omega, by omega⟩)⟩
theorem Chg.trans {B n : Nat} {A A' A'' : World} (h : Chg B n A A') (k : Chg B n A' A'') : Chg B n A A'' :=
  ⟨k.os.trans h.os, k.tape.trans h.tape, k.output.trans h.output, Nat.le_trans h.size k.size, fun i hi hn => (k.block i (Nat.lt_of_lt_of_le hi h.size) hn).trans (h.block i hi hn)⟩
theorem Chg.wide {B n : Nat} {A A' : World} (h : Chg (B + 2) n A A') : Chg B (n + 2) A A' := ⟨h.os, h.tape, h.output, h.size, fun k hk hn => h.block k hk (by omega)⟩
theorem Chg.of_below {B n B1 : Nat} {A A' : World} (h : Below B1 A A') (h1 : ∀ k, k < A.heap.size → k < B1 ∨ (B ≤ k ∧ k < B + n)) : Chg B n A A' :=
  ⟨h.os, h.tape, h.output, h.size, fun k hk hn => h.block k ((h1 k hk).resolve_right hn)⟩
theorem Chg.below {B n B1 : Nat} {w A A' : World} (h : Chg B n A A') (hb : Below B1 w A) (h1 : B1 ≤ B) (h2 : B1 ≤ w.heap.size) : Below B1 w A' :=
  hb.trans ⟨h.os, h.tape, h.output, h.size, fun k hk => h.block k (by have := hb.size; omega) (by omega)⟩
/-- what a round leaves as it lay: the blocks ahead of B0, and n from B on -/
structure KpW (B0 B n : Nat) (A A' : World) : Prop where
  size : A.heap.size ≤ A'.heap.size
  block : ∀ k, (k < B0 ∨ (B ≤ k ∧ k < B + n)) → A'.heap[k]? = A.heap[k]?
theorem KpW.refl (B0 B n : Nat) (A : World) : KpW B0 B n A A := ⟨Nat.le_refl _, fun _ _ => rfl⟩
theorem KpW.trans {B0 B n : Nat} {A A' A'' : World} (h : KpW B0 B n A A') (k : KpW B0 B n A' A'') : KpW B0 B n A A'' := ⟨Nat.le_trans h.size k.size, fun i hi => (k.block i hi).trans (h.block i hi)⟩
theorem KpW.in {B0 B n : Nat} {A A' : World} (h : KpW B0 B (n + 2) A A') : KpW B0 (B + 2) n A A' := ⟨h.size, fun k hk => h.block k (by omega)⟩

/-- an iterator goes over YS, and writes but the c blocks that it makes first -/
def SeqW (gf : Nat) (lb : Array Value) (c B0 : Nat) (YS : List Int) (w0 : World) : Prop :=
  ∀ (l : Nat) (J Jx : List Int → World → Prop) (W : World), Below B0 w0 W → B0 ≤ W.heap.size → (∀ pre A A', J pre A → Chg W.heap.size c A A' → J pre A') → (∀ pre A A', Jx pre A → Chg W.heap.size c A A' → Jx pre A') →
    (∀ pre x W1, J pre W1 → pre ++ [x] = YS.take (pre.length + 1) → pre.length < YS.length → W.heap.size + c ≤ W1.heap.size → YieldAt Fence.wide 3 Try.prog l #[.int .i64 x] W1 fun e W' =>
      (e = .returned (.bool true) ∧ J (pre ++ [x]) W' ∧ KpW B0 W.heap.size c W1 W') ∨ (e = .returned (.bool false) ∧ Jx (pre ++ [x]) W' ∧ KpW B0 W.heap.size c W1 W')) →
    J [] W → CallsIn Fence.wide 4 Try.prog gf (#[.func (.yield l) #[] #[]] ++ lb) W fun e W' => (∃ v, e = .returned v) ∧ (J YS W' ∨ ∃ pre, Jx pre W')

/-- how a round's body ends -/
def endW (B0 B c : Nat) (I Ix : List Int → World → Prop) (xs : List Int) (W : World) : Exit → Act → World → Prop
  | .normal, _, W' => KpW B0 B (c + 2) W W' ∧ I xs W'
  | .exit 0, _, W' => KpW B0 B (c + 2) W W' ∧ Ix xs W'
  | _, _, _ => False

theorem range_w {g : Operand} {p : Tmp} {assign body : Code} {Q : Exit → Act → World → Prop} {a : Act} {w w0 : World} {gf : Nat} {lb : Array Value} {c : Nat} {YS : List Int}
    (hg : a.eval g = .func (.func gf) #[] lb) (eg : ∀ args w, (callFunc gf args).run Try.prog w = .ok (.enter gf args) w) (hseq : SeqW gf lb c w0.heap.size YS w0) (hb0 : Below w0.heap.size w0 w)
    (I Ix : List Int → World → Prop) (hI : ∀ pre A A', I pre A → Chg w.heap.size (c + 2) A A' → I pre A') (hIx : ∀ pre A A', Ix pre A → Chg w.heap.size (c + 2) A A' → Ix pre A') (h0 : I [] w) (a1 : Int → Act)
    (hassign : ∀ (l : Nat) (x : Int) (W : World) (K : Act → World → Prop), K (a1 x) W → assign.wpIn (Fence.wide.inRound l) 3 Try.prog (Exit.then K (fun _ _ _ => False)) { tmps := a.tmps.setIfInBounds p (.int .i64 x), defers := [] } W)
    (hbody : ∀ (l : Nat) (pre : List Int) (x : Int) (W : World), I pre W → pre ++ [x] = YS.take (pre.length + 1) → pre.length < YS.length → w.heap.size + 2 + c ≤ W.heap.size → body.wpIn (Fence.wide.inRound l) 3 Try.prog (endW w0.heap.size w.heap.size c I Ix (pre ++ [x]) W) (a1 x) W)
    (hdone : ∀ W, I YS W → W.heap[w.heap.size]? = some (.deferred (some [])) → Q .normal { a with defers := { target := .collected w.heap.size, args := #[] } :: a.defers } W)
    (hstop : ∀ pre W, Ix pre W → W.heap[w.heap.size]? = some (.deferred (some [])) → (Code.exit 0).wpIn Fence.wide 5 Try.prog Q { a with defers := { target := .collected w.heap.size, args := #[] } :: a.defers } W) :
    (Code.rangeFunc g #[p] assign body).wpIn Fence.wide 5 Try.prog Q a w := by
  refine wpIn_rangeFunc fun fn hfn => ?_
  -- the loop's record lies in block B + 1, the deferred calls in block B
  obtain ⟨B, hB⟩ : ∃ B, w.heap.size = B := ⟨_, rfl⟩
  obtain ⟨lp, hlp⟩ : ∃ lp : LoopState → Option Code → Loop, ∀ s j, lp s j = { state := s, pending := j, fn, tmps := a.tmps, params := #[p], assign, body, defers := B } := ⟨_, fun _ _ => rfl⟩
  have hst : ∀ s j, (lp s j).state = s := fun s j => by rw [hlp]
  have hpd : ∀ s j, (lp s j).pending = j := fun s j => by rw [hlp]
  have henter := run_enterLoop_outer (P := Try.prog) (w := w) fn a.tmps #[p] assign body
  rw [hB, ← hlp] at henter
  obtain ⟨V, hV⟩ : ∃ V, (w.alloc (.deferred (some []))).alloc (.loop (lp .ready none)) = V := ⟨_, rfl⟩
  rw [hV] at henter
  have zV : V.heap.size = B + 2 := by rw [← hV]; simp [hB]
  have cV : Chg B (c + 2) w V := by rw [← hV]; exact (Chg.alloc _ _ _ _).trans (Chg.alloc _ _ _ _)
  have lV : V.heap[B + 1]? = some (.loop (lp .ready none)) := by
    rw [← hV, ← hB, ← World.size_alloc w (.deferred (some []))]
    exact heap_alloc_new _ _
  have dV : V.heap[B]? = some (.deferred (some [])) := by
    rw [← hV, (alloc_below _ _).block B (by simp [hB]), ← hB]
    exact heap_alloc_new _ _
  have bV : Below w0.heap.size w0 V := cV.below hb0 (by have := hb0.size; omega) (Nat.le_refl _)
  rw [hB] at hI hIx hbody hdone hstop
  refine ⟨B + 1, [{ target := .collected B, args := #[] }], V, { target := .fn (.func gf) lb, args := #[.func (.yield (B + 1)) #[] #[]] }, V, gf, #[.func (.yield (B + 1)) #[] #[]] ++ lb, V, henter, ?_, fun _ _ => trivial, ?_, fun _ => (by omega), ?_⟩
  · simp only [resolve, hg]
    simp [go_sem]
  · simp [invoke, go_sem, eg]
  have keep : ∀ {A A' : World} {k : Nat} {o : Obj}, Chg V.heap.size c A A' → A.heap[k]? = some o → k < B + 2 → A'.heap[k]? = some o := fun {A A' k o} h hk hlt =>
    (h.block k (Array.getElem?_eq_some_iff.1 hk).1 (by rw [zV]; omega)).trans hk
  refine (hseq (B + 1) (fun pre W => I pre W ∧ W.heap[B + 1]? = some (.loop (lp .ready none)) ∧ W.heap[B]? = some (.deferred (some [])))
    (fun pre W => Ix pre W ∧ W.heap[B + 1]? = some (.loop (lp .done (some (.exit 0)))) ∧ W.heap[B]? = some (.deferred (some []))) V bV (by have := hb0.size; omega)
    (fun pre A A' h hc => ⟨hI pre A A' h.1 (by rw [zV] at hc; exact hc.wide), keep hc h.2.1 (by omega), keep hc h.2.2 (by omega)⟩)
    (fun pre A A' h hc => ⟨hIx pre A A' h.1 (by rw [zV] at hc; exact hc.wide), keep hc h.2.1 (by omega), keep hc h.2.2 (by omega)⟩) ?round ⟨hI _ _ _ h0 cV, lV, dV⟩).mono ?after
  case round =>
    rintro pre x W ⟨hi, hl, hd⟩ hx hlen hz
    rw [zV] at hz
    have hy := run_yield (P := Try.prog) (args := #[.int .i64 x]) hl (by rw [hlp]; rfl)
    rw [hlp] at hy
    have ht : ∀ t : Array Value, ((#[p] : Array Tmp).zip #[Value.int .i64 x]).foldl (fun tmps (t, a) => tmps.setIfInBounds t a) t = t.setIfInBounds p (.int .i64 x) := fun t => by simp
    rw [ht] at hy
    refine ⟨fn, _, assign, body, hy, roundIn_of_wpIn hfn ?_⟩
    refine hassign (B + 1) x W _ ?_
    refine ⟨_, run_beginRound hl (hst _ _), ?_⟩
    obtain ⟨U, hU⟩ : ∃ U, W.putObj (B + 1) (.loop { lp .ready none with state := .busy }) = U := ⟨_, rfl⟩
    have lU : U.heap[B + 1]? = some (.loop { lp .ready none with state := .busy }) := by rw [← hU]; exact World.putObj_heap_same (by omega)
    have dU : U.heap[B]? = some (.deferred (some [])) := by rw [← hU, World.putObj_heap_other (by omega)]; exact hd
    have iU : I pre U := hI _ _ _ hi (by rw [← hU]; exact Chg.put _ _ (by omega) (by omega))
    have kU : KpW w0.heap.size (B + 2) c W U := by
      rw [← hU]
      exact ⟨by simp, fun k hk => World.putObj_heap_other (by have := hb0.size; omega)⟩
    have zU : B + 2 + c ≤ U.heap.size := by rw [← hU]; simpa using hz
    rw [hU]
    refine wpIn_mono (hbody (B + 1) pre x U iU hx hlen zU) ?_
    -- behind the body: the record is put back, or keeps the jump
    have fin : ∀ (U' : World) (j : Option Code), KpW w0.heap.size B (c + 2) U U' →
        (Instr.endRound (B + 1) j).run Try.prog U' = .ok (.bool j.isNone) (U'.putObj (B + 1) (.loop (lp (if j.isNone then .ready else .done) j))) ∧
        (U'.putObj (B + 1) (.loop (lp (if j.isNone then .ready else .done) j))).heap[B + 1]? = some (.loop (lp (if j.isNone then .ready else .done) j)) ∧
        (U'.putObj (B + 1) (.loop (lp (if j.isNone then .ready else .done) j))).heap[B]? = some (.deferred (some [])) ∧
        KpW w0.heap.size (B + 2) c W (U'.putObj (B + 1) (.loop (lp (if j.isNone then .ready else .done) j))) := fun U' j hk => by
      have l' : U'.heap[B + 1]? = some (.loop { lp .ready none with state := .busy }) := (hk.block (B + 1) (.inr ⟨by omega, by omega⟩)).trans lU
      have d' : U'.heap[B]? = some (.deferred (some [])) := (hk.block B (.inr ⟨by omega, by omega⟩)).trans dU
      refine ⟨?_, World.putObj_heap_same (Array.getElem?_eq_some_iff.1 l').1, (World.putObj_heap_other (by omega)).trans d', ?_⟩
      · have := run_endRound (P := Try.prog) j l'
        rw [hlp] at this ⊢
        exact this
      · exact (kU.trans hk.in).trans ⟨by simp, fun k hk => World.putObj_heap_other (by have := hb0.size; omega)⟩
    rintro e a3 U' hp
    match e, hp with
    | .normal, hp =>
      obtain ⟨hr, h1, h2, h3⟩ := fin U' none hp.1
      exact ⟨_, _, hr, .inl ⟨rfl, ⟨hI _ _ _ hp.2 (Chg.put _ _ (by omega) (by omega)), h1, h2⟩, by rw [zV]; exact h3⟩⟩
    | .exit 0, hp =>
      obtain ⟨hr, h1, h2, h3⟩ := fin U' (some (.exit 0)) hp.1
      exact ⟨_, _, hr, .inr ⟨rfl, ⟨hIx _ _ _ hp.2 (Chg.put _ _ (by omega) (by omega)), h1, h2⟩, by rw [zV]; exact h3⟩⟩
    | .exit (_ + 1), hp => exact hp.elim
    | .ret, hp => exact hp.elim
    | .goto _, hp => exact hp.elim
    | .panic _, hp => exact hp.elim
    | .outgrown, hp => exact hp.elim
  case after =>
    rintro e W ⟨⟨v, rfl⟩, (⟨hi, hl, hd⟩ | ⟨pre, hi, hl, hd⟩)⟩
    · refine ⟨none, _, (run_endLoop (P := Try.prog) hl (by rw [hst]; simp)).trans (by rw [hpd]), ?_⟩
      exact hdone _ (hI _ _ _ hi (Chg.put _ _ (by omega) (by omega))) ((World.putObj_heap_other (by omega)).trans hd)
    · refine ⟨some (.exit 0), _, (run_endLoop (P := Try.prog) hl (by rw [hst]; simp)).trans (by rw [hpd]), ?_⟩
      exact hstop pre _ (hIx _ _ _ hi (Chg.put _ _ (by omega) (by omega))) ((World.putObj_heap_other (by omega)).trans hd)
end Go.Proofs.Ytecjpjjcahanoab
