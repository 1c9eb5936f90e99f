/-
  SchedLines: what stands between two rounds.
-/
import Derived.Maps.AppendAt
import Derived.Test.YthkddjffofehjabBd8
namespace Go.Proofs.Ythkddjffofehjab
open Go.RowKit Go.Maps
set_option maxRecDepth 100000

theorem ic_snoc (L : List Int) (x : Int) : ic (L ++ [x]) = ic L ++ [.int .i64 x] := by simp [ic]
theorem one_new (w : World) (x : Int) : ∀ j u, ([.int .i64 x] : List Value)[j]? = some u → (w.alloc (.cells #[.int .i64 x] 3)).cell? ((⟨w.heap.size, 0, none⟩ : Addr).add j) = some u := by
  intro j u hj
  match j, hj with
  | 0, hj => simp at hj; subst hj; simp [Addr.add]
  | n + 1, hj => simp at hj
theorem one_one (x : Int) : ∀ u ∈ ([.int .i64 x] : List Value), u.oneCell' = true := by
  intro u hu
  simp at hu
  subst hu
  rfl
theorem OI.kb {d hb mb base : Nat} {M : Int → Value} {w w' : World} {v : Value} {R : List Int} (h : OI w base v R) (hk : Kb d hb mb M w w') (hn : ∀ g, v.ownBlock = some g → ¬ ofB d hb mb M g) : OI w' base v R := by
  refine ⟨h.1, ?_⟩
  rcases h.2 with h2 | ⟨g, cap, cur, rfl, hg, hh, r⟩
  · exact .inl h2
  · exact .inr ⟨g, cap, cur, rfl, hg, (hk.block g (Array.getElem?_eq_some_iff.1 hh).1 (hn g rfl)).trans hh, r⟩
theorem OI.lt {w : World} {base : Nat} {v : Value} {R : List Int} (h : OI w base v R) : ∀ g, v.ownBlock = some g → base ≤ g ∧ g < w.heap.size := fun g hg => World.ownsRow.lt h g hg
theorem OI.keptBy {w w' : World} {base : Nat} {v : Value} {R : List Int} {row : Option Nat} (h : OI w base v R) (hg : w.grownBy w' row) (hne : ∀ g, v.ownBlock = some g → row ≠ some g) : OI w' base v R := by
  refine World.ownsRow.kept h hg ?_
  cases hv : v.ownBlock with
  | none => exact .inl rfl
  | some g => exact .inr (fun e => hne g hv e.symm)
theorem Kb.toBelow {d hb mb B0 : Nat} {M : Int → Value} {w wr w' : World} (hk : Kb d hb mb M wr w') (hb' : Below B0 w wr) (hB : B0 ≤ wr.heap.size) (hs : ∀ k, ofB d hb mb M k → B0 ≤ k) : Below B0 w w' :=
  hb'.trans ⟨hk.os, hk.tape, hk.output, hk.size, fun k hk' => hk.block k (by omega) (fun e => by have := hs k e; omega)⟩

/-- between two rounds: the board, the two lists -/
structure ST (w wr : World) (B0 d hb mb : Nat) (on other : Int) (k : Nat) (vw vr : Value) (N : Nat) (S : List Hd) (M : Int → Value) (L : Int → List Int) : Prop where
  n : N ≤ k
  bd : BD wr B0 d hb mb N S 0 M L
  len : S.length = 16
  idle : ∀ h (hh : h < S.length), S[h].1 ≠ 1
  ow : OI wr B0 vw (L on)
  orr : OI wr B0 vr (L other)
  dw : ∀ g, vw.ownBlock = some g → ¬ ofB d hb mb M g
  dr : ∀ g, vr.ownBlock = some g → ¬ ofB d hb mb M g
  dd : ∀ g, vw.ownBlock = some g → vr.ownBlock ≠ some g
  iw : ∀ x ∈ L on, 0 ≤ x ∧ x < 16
  ir : ∀ x ∈ L other, 0 ≤ x ∧ x < 16
  lw : (L on).length ≤ k
  lr : (L other).length ≤ k
  below : Below B0 w wr
theorem ST.swap {w wr : World} {B0 d hb mb : Nat} {on other : Int} {k : Nat} {vw vr : Value} {N : Nat} {S : List Hd} {M : Int → Value} {L : Int → List Int} (h : ST w wr B0 d hb mb on other k vw vr N S M L) : ST w wr B0 d hb mb other on k vr vw N S M L :=
  ⟨h.n, h.bd, h.len, h.idle, h.orr, h.ow, h.dr, h.dw, fun g h1 h2 => h.dd g h2 h1, h.ir, h.iw, h.lr, h.lw, h.below⟩
theorem ST.skip {w wr w' : World} {B0 d hb mb : Nat} {on other : Int} {k : Nat} {vw vr : Value} {N : Nat} {S : List Hd} {M : Int → Value} {L : Int → List Int} (h : ST w wr B0 d hb mb on other k vw vr N S M L) (hb' : BD w' B0 d hb mb N S 0 M L) (hk : Kb d hb mb M wr w') (hB : B0 ≤ wr.heap.size) : ST w w' B0 d hb mb on other (k + 1) vw vr N S M L :=
  ⟨by have := h.n; omega, hb', h.len, h.idle, h.ow.kb hk h.dw, h.orr.kb hk h.dr, h.dw, h.dr, h.dd, h.iw, h.ir, by have := h.lw; omega, by have := h.lr; omega, hk.toBelow h.below hB (fun k hk => (h.bd.lt k hk).2)⟩
theorem ST.next {w wr w2 w3 w4 : World} {B0 d hb mb : Nat} {on other : Int} {k : Nat} {vw vr : Value} {N : Nat} {S : List Hd} {M : Int → Value} {L : Int → List Int} (h : ST w wr B0 d hb mb on other k vw vr N S M L) (hne : on ≠ other) (hB : B0 ≤ wr.heap.size) {q : Nat} (hq : q < 16) {o : Obj} {vw' v' : Value}
    (k2 : Kb d hb mb M wr w2) (hg3 : (w2.alloc o).grownBy w3 vw.ownBlock) (ho3 : OI w3 B0 vw' (L on ++ [(q : Int)])) (hloc : vw'.ownBlock = vw.ownBlock ∨ vw'.ownBlock = some (w2.heap.size + 1))
    (h4 : BD w4 B0 d hb mb (N + 1) ((S.set q (1, 0, 0)).set q (2, on, 0)) 0 (upd M on v') (updL L on (L on ++ [(q : Int)]))) (k4 : Kb d hb mb M w3 w4) (hv' : ∃ g, v'.ownBlock = some g ∧ ((M on).ownBlock = some g ∨ w3.heap.size ≤ g)) :
    ST w w4 B0 d hb mb on other (k + 1) vw' vr (N + 1) ((S.set q (1, 0, 0)).set q (2, on, 0)) (upd M on v') (updL L on (L on ++ [(q : Int)])) := by
  have hlt := h.bd.lt
  have hz : (w2.alloc o).heap.size = w2.heap.size + 1 := by simp
  have hz3 : w2.heap.size + 1 ≤ w3.heap.size := by have := hg3.size; omega
  obtain ⟨gv, hgv, hgv2⟩ := hv'
  have hnotM : ∀ g, g < w3.heap.size → ¬ ofB d hb mb M g → ¬ ofB d hb mb (upd M on v') g := by
    rintro g hg hno (e | e | e | ⟨x, hx⟩)
    · exact hno (.inl e)
    · exact hno (.inr (.inl e))
    · exact hno (.inr (.inr (.inl e)))
    · unfold upd at hx
      split at hx
      · rw [hgv] at hx
        cases hx
        rcases hgv2 with h1 | h1
        · exact hno (.inr (.inr (.inr ⟨on, h1⟩)))
        · omega
      · exact hno (.inr (.inr (.inr ⟨x, hx⟩)))
  have hw' : ∀ g, vw'.ownBlock = some g → g < w3.heap.size ∧ ¬ ofB d hb mb M g := by
    intro g hg
    rcases hloc with e | e
    · rw [e] at hg
      have := (h.ow.lt g hg).2
      have := k2.size
      exact ⟨by omega, h.dw g hg⟩
    · rw [hg] at e
      cases e
      have := (ho3.lt _ hg).2
      refine ⟨this, fun hb' => ?_⟩
      have := (hlt _ hb').1
      have := k2.size
      omega
  have hr2 : OI w2 B0 vr (L other) := h.orr.kb k2 h.dr
  have hr3 : OI w3 B0 vr (L other) := (hr2.alloc o).keptBy hg3 (fun g hg e => h.dd g e hg)
  have eon : updL L on (L on ++ [(q : Int)]) on = L on ++ [(q : Int)] := by unfold updL; rw [if_pos rfl]
  have eot : updL L on (L on ++ [(q : Int)]) other = L other := by unfold updL; rw [if_neg (fun e => hne e.symm)]
  refine ⟨by have := h.n; omega, h4, by simp [h.len], ?_, ?_, ?_, fun g hg => hnotM g (hw' g hg).1 (hw' g hg).2, fun g hg => hnotM g (by have := (hr3.lt g hg).2; omega) (h.dr g hg), ?_, ?_, ?_, ?_, ?_, ?_⟩
  · intro i hi
    simp only [List.set_set, List.getElem_set]
    split
    · simp
    · exact h.idle i (by simpa using hi)
  · rw [eon]; exact ho3.kb k4 (fun g hg => (hw' g hg).2)
  · rw [eot]; exact hr3.kb k4 h.dr
  · intro g hg
    rcases hloc with e | e
    · rw [e] at hg; exact h.dd g hg
    · rw [hg] at e
      cases e
      intro hr
      have := (hr2.lt _ hr).2
      omega
  · rw [eon]
    intro x hx
    rcases List.mem_append.1 hx with hx | hx
    · exact h.iw x hx
    · simp at hx; omega
  · rw [eot]; exact h.ir
  · rw [eon]; have := h.lw; simp; omega
  · rw [eot]; have := h.lr; omega
  · have hb2 := k2.toBelow h.below hB (fun k hk => (hlt k hk).2)
    have hb3 := (hb2.alloc (by have := k2.size; omega) o).grown hg3 (by have := k2.size; omega) (fun k e => (h.ow.lt k e).1)
    exact k4.toBelow hb3 (by have := k2.size; omega) (fun k hk => (hlt k hk).2)
theorem ofB_sub {d hb mb : Nat} {M : Int → Value} {on : Int} {v' : Value} (hv : ∀ g, v'.ownBlock = some g → (M on).ownBlock = some g) {k : Nat} (h : ofB d hb mb (upd M on v') k) : ofB d hb mb M k := by
  rcases h with h | h | h | ⟨x, hx⟩
  · exact .inl h
  · exact .inr (.inl h)
  · exact .inr (.inr (.inl h))
  · unfold upd at hx
    split at hx
    · exact .inr (.inr (.inr ⟨on, hv k hx⟩))
    · exact .inr (.inr (.inr ⟨x, hx⟩))
theorem RI.kb {d hb mb : Nat} {M : Int → Value} {w w' : World} {v : Value} {R : List Int} (h : RI w v R) (hk : Kb d hb mb M w w') (hn : ∀ g, v.ownBlock = some g → ¬ ofB d hb mb M g) : RI w' v R := by
  obtain ⟨ao, c, rfl, h1, h2, h3⟩ := h
  refine ⟨ao, c, rfl, h1, h2, fun j hj => ?_⟩
  obtain ⟨g, off, ha, hcell⟩ := h3 j hj
  exact ⟨g, off, ha, (World.cell?_of_block (a := ⟨g, off + j, none⟩) (hk.block g (World.block_lt_of_cell? _ _ hcell) (hn g (by rw [ha]; rfl)))).trans hcell⟩
theorem RI.tail1 {w : World} {g c : Nat} {x : Int} {t : List Int} (h : RI w (.slice (some ⟨g, 0, none⟩) (t.length + 1) c) (x :: t)) : RI w (.slice (if c = 1 then some ⟨g, 0, none⟩ else some ⟨g, 1, none⟩) t.length (c - 1)) t ∧ w.cell? ⟨g, 0, none⟩ = some (.int .i64 x) ∧ RI w (.slice (some ⟨g, 0, none⟩) 1 c) [x] ∧ t.length + 1 ≤ c := by
  obtain ⟨ao, c', hv, h1, h2, h3⟩ := h
  simp only [List.length_cons] at hv h1 h3
  cases hv
  have hx : w.cell? ⟨g, 0, none⟩ = some (.int .i64 x) := by
    obtain ⟨g', off, ha, hc⟩ := h3 0 (by omega)
    cases ha
    simpa using hc
  refine ⟨?_, hx, ⟨_, _, rfl, by simp; omega, fun e => (by cases e), fun j hj => ⟨g, 0, rfl, ?_⟩⟩, h1⟩
  · by_cases e : c = 1
    · have : t = [] := List.eq_nil_of_length_eq_zero (by omega)
      subst this
      rw [if_pos e]
      exact ⟨_, _, rfl, by simp, fun e => (by cases e), fun j hj => by simp at hj⟩
    · rw [if_neg e]
      refine ⟨_, _, rfl, by omega, fun e => (by cases e), fun j hj => ⟨g, 1, rfl, ?_⟩⟩
      obtain ⟨g', off, ha, hc⟩ := h3 (j + 1) (by omega)
      cases ha
      rw [show 1 + j = 0 + (j + 1) by omega]
      simpa using hc
  · have : j = 0 := by simpa using hj
    subst this
    simpa using hx
theorem rdy_idle (S : List Hd) (h : ∀ i (hi : i < S.length), S[i].1 ≠ 1) : ∀ k, k ≤ S.length → rdy S k = []
  | 0, _ => rfl
  | k + 1, hk => by rw [rdy, getD_at S k (by omega), if_neg (h k (by omega)), rdy_idle S h k (by omega)]
theorem rdy_one (S : List Hd) (h : ∀ i (hi : i < S.length), S[i].1 ≠ 1) (q : Nat) (x : Hd) (hx : x.1 = 1) : ∀ k, k ≤ S.length → rdy (S.set q x) k = if q < k then [(q : Int)] else []
  | 0, _ => by simp [rdy]
  | k + 1, hk => by
    have ih := rdy_one S h q x hx k (by omega)
    rw [rdy, getD_at _ k (by simp; omega), List.getElem_set, ih]
    by_cases e : q = k
    · subst e
      simp [hx]
    · rw [if_neg e, if_neg (h k (by omega))]
      by_cases e2 : q < k
      · rw [if_pos e2, if_pos (by omega)]
      · rw [if_neg e2, if_neg (by omega)]
end Go.Proofs.Ythkddjffofehjab
