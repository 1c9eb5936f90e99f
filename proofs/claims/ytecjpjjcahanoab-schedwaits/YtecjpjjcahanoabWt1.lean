/-
  SchedWaits: what stands between two picks; each operation keeps it.
-/
import Derived.Test.YtecjpjjcahanoabBd8
import Derived.Test.YtecjpjjcahanoabBdb
import Derived.Test.YtecjpjjcahanoabBda
import Derived.Test.YtecjpjjcahanoabBd9
import Derived.Test.YtecjpjjcahanoabSk1
namespace Go.Proofs.Ytecjpjjcahanoab
open Go.RowKit Go.Maps
set_option maxRecDepth 100000

theorem OI.kb {d hb mb base : Nat} {M : Int → Value} {w w' : World} {v : Value} {R : List Int} (h : OI w base v R) (hk : Kb d hb mb M w w') (hn : ∀ g, v.ownBlock = some g → ¬ ofB d hb mb M g) : OI w' base v R := by
  refine ⟨h.1, ?_⟩
  rcases h.2 with h2 | ⟨g, cap, cur, rfl, hg, hh, r⟩
  · exact .inl h2
  · exact .inr ⟨g, cap, cur, rfl, hg, (hk.block g (Array.getElem?_eq_some_iff.1 hh).1 (hn g rfl)).trans hh, r⟩
theorem OI.lt {w : World} {base : Nat} {v : Value} {R : List Int} (h : OI w base v R) : ∀ g, v.ownBlock = some g → base ≤ g ∧ g < w.heap.size := fun g hg => World.ownsRow.lt h g hg
theorem Kb.toBelow {d hb mb B0 : Nat} {M : Int → Value} {w wr w' : World} (hk : Kb d hb mb M wr w') (hb' : Below B0 w wr) (hB : B0 ≤ wr.heap.size) (hs : ∀ k, ofB d hb mb M k → B0 ≤ k) : Below B0 w w' :=
  hb'.trans ⟨hk.os, hk.tape, hk.output, hk.size, fun k hk' => hk.block k (by omega) (fun e => by have := hs k e; omega)⟩

/-- between two operations: the board behind j of them and p picks, A the last pick of each, the picks R in vp -/
structure WS (w wr : World) (d hb mb n j : Nat) (p : Int) (A : List Int) (vp : Value) (R : List Int) (N : Nat) (S : List Hd) (M : Int → Value) (L : Int → List Int) : Prop where
  bd : BD wr w.heap.size d hb mb N S p M L
  nn : N ≤ j
  len : S.length = n
  lin : ∀ on, ∀ x ∈ L on, 0 ≤ x ∧ x < (n : Int)
  ll : ∀ on, (L on).length ≤ j
  la : ∀ i, A.getD i 0 ≤ p
  since : ∀ i (h : i < S.length), 0 ≤ S[i].2.2 ∧ S[i].2.2 ≤ p ∧ (S[i].1 = 1 → A.getD i 0 ≤ S[i].2.2)
  op : OI wr w.heap.size vp R
  dp : ∀ g, vp.ownBlock = some g → ¬ ofB d hb mb M g
  below : Below w.heap.size w wr
theorem WS.later {w wr w' : World} {d hb mb n j : Nat} {p : Int} {A : List Int} {vp : Value} {R : List Int} {N : Nat} {S : List Hd} {M : Int → Value} {L : Int → List Int} (h : WS w wr d hb mb n j p A vp R N S M L) (k : Below wr.heap.size wr w') : WS w w' d hb mb n j p A vp R N S M L :=
  ⟨h.bd.later k, h.nn, h.len, h.lin, h.ll, h.la, h.since, h.op.below k, h.dp, h.below.trans (k.mono h.below.size)⟩
theorem WS.more {w wr : World} {d hb mb n j : Nat} {p : Int} {A : List Int} {vp : Value} {R : List Int} {N : Nat} {S : List Hd} {M : Int → Value} {L : Int → List Int} (h : WS w wr d hb mb n j p A vp R N S M L) : WS w wr d hb mb n (j + 1) p A vp R N S M L :=
  ⟨h.bd, by have := h.nn; omega, h.len, h.lin, fun on => by have := h.ll on; omega, h.la, h.since, h.op, h.dp, h.below⟩
/-- one operation: the board turned -/
theorem WS.step {w wr w' : World} {d hb mb n j : Nat} {p : Int} {A : List Int} {vp : Value} {R : List Int} {N N' : Nat} {S S' : List Hd} {M M' : Int → Value} {L L' : Int → List Int} (h : WS w wr d hb mb n j p A vp R N S M L) (hb' : BD w' w.heap.size d hb mb N' S' p M' L') (hk : Kb d hb mb M wr w') (hN : N' ≤ j + 1) (hl : S'.length = n)
    (hlin : ∀ on, ∀ x ∈ L' on, 0 ≤ x ∧ x < (n : Int)) (hll : ∀ on, (L' on).length ≤ j + 1) (hs : ∀ i (h : i < S'.length), 0 ≤ S'[i].2.2 ∧ S'[i].2.2 ≤ p ∧ (S'[i].1 = 1 → A.getD i 0 ≤ S'[i].2.2))
    (hM : ∀ x g, (M' x).ownBlock = some g → (∃ y, (M y).ownBlock = some g) ∨ wr.heap.size ≤ g) : WS w w' d hb mb n (j + 1) p A vp R N' S' M' L' := by
  refine ⟨hb', hN, hl, hlin, hll, h.la, hs, h.op.kb hk h.dp, fun g hg hof => ?_, hk.toBelow h.below h.below.size (fun k hk => (h.bd.lt k hk).2)⟩
  rcases hof with e | e | e | ⟨x, hx⟩
  · exact h.dp g hg (.inl e)
  · exact h.dp g hg (.inr (.inl e))
  · exact h.dp g hg (.inr (.inr (.inl e)))
  · rcases hM x g hx with ⟨y, hy⟩ | hge
    · exact h.dp g hg (.inr (.inr (.inr ⟨y, hy⟩)))
    · have := (h.op.lt g hg).2
      omega
/-- a handler set at i -/
theorem since_set {S : List Hd} {p : Int} {A : List Int} (h : ∀ i (h : i < S.length), 0 ≤ S[i].2.2 ∧ S[i].2.2 ≤ p ∧ (S[i].1 = 1 → A.getD i 0 ≤ S[i].2.2)) (q : Nat) (x : Hd) (hx : 0 ≤ x.2.2 ∧ x.2.2 ≤ p ∧ (x.1 = 1 → A.getD q 0 ≤ x.2.2)) :
    ∀ i (h : i < (S.set q x).length), 0 ≤ (S.set q x)[i].2.2 ∧ (S.set q x)[i].2.2 ≤ p ∧ ((S.set q x)[i].1 = 1 → A.getD i 0 ≤ (S.set q x)[i].2.2) := by
  intro i hi
  rw [List.getElem_set]
  split
  · rename_i e
    subst e
    exact hx
  · exact h i (by simpa using hi)
/-- what an operation leaves -/
def WN (w : World) (d hb mb n j : Nat) (p : Int) (A : List Int) (vp : Value) (R : List Int) (w' : World) : Prop := ∃ N S M L, WS w w' d hb mb n j p A vp R N S M L
theorem nRd_in {S : List Hd} {h : Int} (e : nRd S h = 0) : ∃ i : Nat, h = (i : Int) ∧ i < S.length := by
  by_cases hin : 0 ≤ h ∧ h < (S.length : Int)
  · exact ⟨h.toNat, by omega, by omega⟩
  · unfold nRd at e
    rw [inH_no hin] at e
    simp at e
theorem stE_in' {S : List Hd} {h : Int} (e : stE S h = 0) : ∃ i : Nat, h = (i : Int) ∧ i < S.length := by
  by_cases hin : 0 ≤ h ∧ h < (S.length : Int)
  · exact ⟨h.toNat, by omega, by omega⟩
  · unfold stE at e
    rw [inH_no hin] at e
    simp at e
theorem ws_start {w wr : World} {d hb mb n j : Nat} {p : Int} {A : List Int} {vp : Value} {R : List Int} {N : Nat} {S : List Hd} {M : Int → Value} {L : Int → List Int} (h : WS w wr d hb mb n j p A vp R N S M L) (hp : 0 ≤ p) (x : Int) :
    Calls Try.prog 10 #[.pointer (some ⟨d, 0, none⟩), .int .i64 x] wr fun e w' => (∃ v, e = .returned v) ∧ WN w d hb mb n (j + 1) p A vp R w' := by
  refine (start_any x wr h.bd).mono ?_
  rintro e w' ⟨rfl, hb', hk⟩
  refine ⟨⟨_, rfl⟩, N, _, M, L, h.step hb' hk (by have := h.nn; omega) ?_ h.lin (fun on => by have := h.ll on; omega) ?_ (fun y g hg => .inl ⟨y, hg⟩)⟩
  · by_cases e : stE S x = 0
    · rw [stS_yes e, List.length_set]; exact h.len
    · rw [stS_no e]; exact h.len
  · by_cases e : stE S x = 0
    · rw [stS_yes e]
      exact since_set h.since _ _ ⟨hp, Int.le_refl _, fun _ => h.la _⟩
    · rw [stS_no e]; exact h.since
theorem ws_finish {w wr : World} {d hb mb n j : Nat} {p : Int} {A : List Int} {vp : Value} {R : List Int} {N : Nat} {S : List Hd} {M : Int → Value} {L : Int → List Int} (h : WS w wr d hb mb n j p A vp R N S M L) (hp : 0 ≤ p) (x : Int) :
    Calls Try.prog 24 #[.pointer (some ⟨d, 0, none⟩), .int .i64 x] wr fun e w' => (∃ v, e = .returned v) ∧ WN w d hb mb n (j + 1) p A vp R w' := by
  by_cases e : nRd S x = 0
  · obtain ⟨i, rfl, hi⟩ := nRd_in e
    refine (finish_yes i wr h.bd hi e).mono ?_
    rintro e' w' ⟨rfl, hb', hk⟩
    exact ⟨⟨_, rfl⟩, N, _, M, L, h.step hb' hk (by have := h.nn; omega) (by rw [List.length_set]; exact h.len) h.lin (fun on => by have := h.ll on; omega) (since_set h.since _ _ ⟨Int.le_refl _, hp, fun e => by simp at e⟩) (fun y g hg => .inl ⟨y, hg⟩)⟩
  · refine (finish_no x wr h.bd e).mono ?_
    rintro e' w' ⟨rfl, rfl⟩
    exact ⟨⟨_, rfl⟩, N, S, M, L, h.more⟩
theorem ws_block {w wr : World} {d hb mb n j : Nat} {p : Int} {A : List Int} {vp : Value} {R : List Int} {N : Nat} {S : List Hd} {M : Int → Value} {L : Int → List Int} (h : WS w wr d hb mb n j p A vp R N S M L) (hp : 0 ≤ p) (x on : Int) (hon : i64 on) (hj : j ≤ 100000) :
    Calls Try.prog 11 #[.pointer (some ⟨d, 0, none⟩), .int .i64 x, .int .i64 on] wr fun e w' => (∃ v, e = .returned v) ∧ WN w d hb mb n (j + 1) p A vp R w' := by
  by_cases e : nRd S x = 0
  · obtain ⟨i, rfl, hi⟩ := nRd_in e
    have hll := h.ll on
    have hnn := h.nn
    have hlen := h.len
    refine (block_yes i on wr h.bd hi e hon (by unfold maxLen; omega) (by omega)).mono ?_
    rintro e' w' ⟨rfl, v', hb', hk, g, hg, hgg⟩
    refine ⟨⟨_, rfl⟩, N + 1, _, _, _, h.step hb' hk (by omega) (by rw [List.length_set]; exact hlen) (fun o z hz => ?_) (fun o => ?_) (since_set h.since _ _ ⟨Int.le_refl _, hp, fun e => by simp at e⟩) (fun y g' hg' => ?_)⟩
    · unfold updL at hz
      split at hz
      · rcases List.mem_append.1 hz with hz | hz
        · exact h.lin on z hz
        · simp at hz
          omega
      · exact h.lin o z hz
    · unfold updL
      split
      · rw [List.length_append, List.length_singleton]; omega
      · have := h.ll o; omega
    · unfold upd at hg'
      split at hg'
      · rw [hg] at hg'
        cases hg'
        rcases hgg with hgg | hgg
        · exact .inl ⟨on, hgg⟩
        · exact .inr hgg
      · exact .inl ⟨y, hg'⟩
  · refine (block_no x on wr h.bd e).mono ?_
    rintro e' w' ⟨rfl, rfl⟩
    exact ⟨⟨_, rfl⟩, N, S, M, L, h.more⟩
theorem since_rdS {p : Int} {A : List Int} (hp : 0 ≤ p) (la : ∀ i, A.getD i 0 ≤ p) : ∀ (l : List Int) (S : List Hd), (∀ i (h : i < S.length), 0 ≤ S[i].2.2 ∧ S[i].2.2 ≤ p ∧ (S[i].1 = 1 → A.getD i 0 ≤ S[i].2.2)) → ∀ i (h : i < (rdS S p l).length), 0 ≤ (rdS S p l)[i].2.2 ∧ (rdS S p l)[i].2.2 ≤ p ∧ ((rdS S p l)[i].1 = 1 → A.getD i 0 ≤ (rdS S p l)[i].2.2)
  | [], _, h => h
  | x :: t, S, h => since_rdS hp la t (S.set x.toNat (1, 0, p)) (since_set h _ _ ⟨hp, Int.le_refl _, fun _ => la _⟩)
theorem ws_wake {w wr : World} {d hb mb n j : Nat} {p : Int} {A : List Int} {vp : Value} {R : List Int} {N : Nat} {S : List Hd} {M : Int → Value} {L : Int → List Int} (h : WS w wr d hb mb n j p A vp R N S M L) (hp : 0 ≤ p) (on : Int) (hon : i64 on) (hj : j ≤ 100000) :
    Calls Try.prog 16 #[.pointer (some ⟨d, 0, none⟩), .int .i64 on] wr fun e w' => (∃ v, e = .returned v) ∧ WN w d hb mb n (j + 1) p A vp R w' := by
  refine (wake_any on wr h.bd hon (by have := h.ll on; omega) (by rw [h.len]; exact h.lin on)).mono ?_
  rintro e w' ⟨rfl, _, hb', hk⟩
  refine ⟨⟨_, rfl⟩, N, _, _, _, h.step hb' hk (by have := h.nn; omega) (by rw [rdS_len]; exact h.len) (fun o z hz => ?_) (fun o => ?_) (since_rdS hp h.la _ _ h.since) (fun y g' hg' => ?_)⟩
  · unfold updL at hz
    split at hz
    · simp at hz
    · exact h.lin o z hz
  · unfold updL
    split
    · simp
    · have := h.ll o; omega
  · unfold upd at hg'
    split at hg'
    · simp [Value.ownBlock] at hg'
    · exact .inl ⟨y, hg'⟩
theorem ws_first {w wr : World} {d hb mb n j : Nat} {p : Int} {A : List Int} {vp : Value} {R : List Int} {N : Nat} {S : List Hd} {M : Int → Value} {L : Int → List Int} (h : WS w wr d hb mb n j p A vp R N S M L) (hp : 0 ≤ p) (on : Int) (hon : i64 on) (hj : j ≤ 100000) :
    Calls Try.prog 15 #[.pointer (some ⟨d, 0, none⟩), .int .i64 on] wr fun e w' => (∃ v, e = .returned v) ∧ WN w d hb mb n (j + 1) p A vp R w' := by
  cases hL : L on with
  | nil =>
    refine (first_none on wr h.bd hon hL).mono ?_
    rintro e' w' ⟨rfl, rfl⟩
    exact ⟨⟨_, rfl⟩, N, S, M, L, h.more⟩
  | cons z t =>
    have hz := h.lin on z (by rw [hL]; simp)
    obtain ⟨q, rfl⟩ : ∃ q : Nat, z = (q : Int) := ⟨z.toNat, by omega⟩
    have hll := h.ll on
    rw [hL, List.length_cons] at hll
    have hnn := h.nn
    have hlen := h.len
    refine (first_some on wr h.bd hon (by unfold maxLen; omega) hL (by omega) (by omega)).mono ?_
    rintro e' w' ⟨rfl, v', N', hN', hb', hk, hv⟩
    refine ⟨⟨_, rfl⟩, N', _, _, _, h.step hb' hk (by omega) (by rw [List.length_set]; exact hlen) (fun o x hx => ?_) (fun o => ?_) (since_set h.since _ _ ⟨hp, Int.le_refl _, fun _ => h.la _⟩) (fun y g' hg' => ?_)⟩
    · unfold updL at hx
      split at hx
      · exact h.lin on x (by rw [hL]; exact List.mem_cons_of_mem _ hx)
      · exact h.lin o x hx
    · unfold updL
      split
      · omega
      · have := h.ll o; omega
    · unfold upd at hg'
      split at hg'
      · exact .inl ⟨on, hv g' hg'⟩
      · exact .inl ⟨y, hg'⟩
theorem ws_pick {w wr : World} {d hb mb n j : Nat} {p : Int} {A : List Int} {vp : Value} {R : List Int} {N : Nat} {S : List Hd} {M : Int → Value} {L : Int → List Int} (h : WS w wr d hb mb n j p A vp R N S M L) (hp : 0 ≤ p ∧ p ≤ 1000000000) (i : Nat) (hi : i < n) (hA : A.length = n) :
    Calls Try.prog 25 #[.pointer (some ⟨d, 0, none⟩), .int .i64 (i : Int)] wr fun e w' => (∃ v, e = .returned v) ∧ WN w d hb mb n j (p + 1) (A.set i (p + 1)) vp R w' := by
  have hlen := h.len
  refine (pick_any i wr h.bd (by omega) hp).mono ?_
  rintro e w' ⟨⟨v, rfl⟩, hb', hk⟩
  refine ⟨⟨_, rfl⟩, N, _, M, L, ⟨hb', h.nn, by rw [List.length_set]; exact hlen, h.lin, h.ll, fun x => ?_, fun x hx => ?_, h.op.kb hk h.dp, h.dp, hk.toBelow h.below h.below.size (fun k hk => (h.bd.lt k hk).2)⟩⟩
  · rw [List.getD_eq_getElem?_getD, List.getElem?_set]
    split
    · split <;> simp <;> omega
    · have := h.la x
      rw [List.getD_eq_getElem?_getD] at this
      omega
  · rw [List.length_set] at hx
    have hs := h.since x hx
    have hla := h.la x
    rw [List.getElem_set, List.getD_eq_getElem?_getD, List.getElem?_set]
    rw [List.getD_eq_getElem?_getD] at hs hla
    split
    · rename_i e
      subst e
      rw [if_pos (by omega)]
      simp only
      exact ⟨by omega, by omega, fun _ => by simp⟩
    · rename_i e
      obtain ⟨h1, h2, h3⟩ := hs
      exact ⟨h1, by omega, h3⟩
theorem rdy_has (S : List Hd) : ∀ (k i : Nat) (h : i < S.length), i < k → S[i].1 = 1 → (i : Int) ∈ rdy S k
  | 0, _, _, h, _ => by omega
  | k + 1, i, hi, hk, e => by
    unfold rdy
    by_cases hik : i = k
    · subst hik
      rw [if_pos (by rw [List.getD_eq_getElem?_getD, List.getElem?_eq_getElem hi]; exact e)]
      simp
    · have := rdy_has S k i hi (by omega) e
      split
      · exact List.mem_append_left _ this
      · exact this
/-- under fair picks who is ready has not been passed by k times -/
theorem fair_lt {R : List Int} {n : Nat} {k : Int} (hf : ∀ j, j < R.length → ¬ badF R n k j) (j : Nat) (hj : j < R.length) (i : Nat) (hi : i < n) {s : Int} (h0 : 0 ≤ s) (hs : (LA R n (j + 1)).getD i 0 ≤ s) : ((j : Int) + 1) - s < k := by
  have h := hf j hj
  unfold badF at h
  by_cases hk : 0 ≤ (j : Int) + 1 - k
  · have hm : ¬ (LA R n (j + 1)).getD i 0 ≤ (j : Int) + 1 - k := fun hle => h ⟨hk, _, by
      rw [List.getD_eq_getElem?_getD, List.getElem?_eq_getElem (by rw [LA_len]; exact hi)]
      exact List.getElem_mem _, hle⟩
    omega
  · omega
end Go.Proofs.Ytecjpjjcahanoab
