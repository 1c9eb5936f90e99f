/-
  So1: SchedOwn: what is answered, as a list; the books and the list while it is made.
  So2: SchedOwn: the books and the list while it is made: one list more; the list grows.
  So3: SchedOwn: a range that gives its lists to the books and to the list.
  So4: SchedOwn: 'answers'. Laid by mkso4.py.
  So6: SchedOwn: the three ranges of 'answers': what is given, what lies ahead and behind.
  So5: SchedOwn: 'answers', walked. Laid by mkso5.py.
  So7: SchedOwn: the law's walk.
-/
import Derived.Test.YtaiccmbhdgecgaaSmX
import Derived.Test.YtaiccmbhdgecgaaLe4
import Derived.Test.YtaiccmbhdgecgaaNt4
namespace Go.Proofs.Ytaiccmbhdgecgaa
open Go.RowKit Go.Shelf
set_option maxRecDepth 100000
set_option linter.unusedVariables false
set_option linter.unusedSimpArgs false

/-- what Nth answers -/
def nthL (R : List Int) (n : Int) : List Int := if (cntA R).2 = 0 ∧ 0 ≤ n ∧ n < (cntA R).1 then iN ((AL (tN2 (nats R)) (nats R)).getD n.toNat []) else []
theorem nthA_is {R : List Int} {n : Int} {w w' : World} {e : Ending} (h : NthA R n w w' e) : ∃ v er, e = .returned (.tuple #[v, .int .i64 er]) ∧ OI w' w.heap.size v (nthL R n) ∧ (nthL R n).length ≤ 24 := by
  rcases h with ⟨h1, rfl⟩ | ⟨h1, h2, rfl⟩ | ⟨h1, N, m, v', L, rfl, rfl, h2, h3, h4, h5, h6, h7, rfl, ho, hx⟩
  · refine ⟨_, _, rfl, ?_, ?_⟩
    · unfold nthL
      rw [if_neg (fun x => h1 x.1)]
      exact OI.nil _ _
    · unfold nthL
      rw [if_neg (fun x => h1 x.1)]
      exact Nat.zero_le _
  · refine ⟨_, _, rfl, ?_, ?_⟩
    · unfold nthL
      rw [if_neg (fun x => by omega)]
      exact OI.nil _ _
    · unfold nthL
      rw [if_neg (fun x => by omega)]
      exact Nat.zero_le _
  · have e1 : (cntA (iN N)).1 = (mN N : Int) := by rw [h3]
    have e2 : nthL (iN N) (m : Int) = iN L := by
      unfold nthL
      rw [if_pos ⟨h1, by omega, by rw [e1]; omega⟩, iN_nats, Int.toNat_natCast, List.getD_eq_getElem?_getD, AL_at _ N m L rfl h6 hx]
      rfl
    refine ⟨_, _, rfl, by rw [e2]; exact ho, ?_⟩
    rw [e2, iN_len, mx_len hx h6]
    exact h6
theorem le_len (B : List Nat) : ∀ m R, (le B m R).length = m
  | 0, _ => rfl
  | m + 1, R => by
    show (le B m _).length + 1 = m + 1
    rw [le_len B m]
theorem leL_512 (R : List Int) (P : List Pr) : (leL R P).length ≤ 512 := by
  unfold leL
  by_cases h : leE R P = 0
  · rw [if_pos h, le_len]
    unfold leE at h
    by_cases h2 : 512 < R.length ∨ 256 < P.length
    · rw [if_pos h2] at h
      cases h
    · omega
  · rw [if_neg h]
    exact Nat.zero_le _
/-- the mixes that are told: five, and those with few switches until there are ten -/
def ans1 (R : List Int) : List (List Int) := ((GL R 24).take 5).map iN
def ans2 (R : List Int) : List (List Int) := ((GL R 1).take (10 - min 5 (GL R 24).length)).map iN
def ansL (R : List Int) (n : Int) (K : List Int) (P : List Pr) : List Int := nthL R n ++ [-1] ++ leL K P ++ (ans1 R).flatten ++ (ans2 R).flatten
theorem gl_len (R : List Int) (mo : Int) (k : Nat) : (iN ((GL R mo).getD k [])).length ≤ 24 := by
  by_cases hk : k < (GL R mo).length
  · obtain ⟨x, hx, _, hl, _⟩ := (fwg R mo).each k (by rw [List.length_map]; exact hk)
    have e : iN ((GL R mo).getD k []) = ((GL R mo).map iN).getD k [] := by
      rw [List.getD_eq_getElem?_getD, List.getD_eq_getElem?_getD, List.getElem?_map, List.getElem?_eq_getElem hk]
      rfl
    rw [e, hx, iN_len]
    exact hl
  · rw [List.getD_eq_getElem?_getD, List.getElem?_eq_none (by omega)]
    exact Nat.zero_le _
theorem gl_few (R : List Int) (mo : Int) : (GL R mo).length ≤ 1048576 := by have := (fwg R mo).few; rwa [List.length_map] at this
/-- the first k lists, one behind the other -/
def tkF (G : List (List Nat)) (k : Nat) : List Int := ((G.take k).map iN).flatten
theorem tkF_zero (G : List (List Nat)) : tkF G 0 = [] := rfl
theorem tkF_succ (G : List (List Nat)) (k : Nat) (hk : k < G.length) : tkF G (k + 1) = tkF G k ++ iN (G.getD k []) := by
  unfold tkF
  rw [List.take_succ_eq_append_getElem hk, List.map_append, List.flatten_append, List.getD_eq_getElem?_getD, List.getElem?_eq_getElem hk]
  simp
theorem tkF_len (R : List Int) (mo : Int) : ∀ k, (tkF (GL R mo) k).length ≤ 24 * k
  | 0 => Nat.zero_le _
  | k + 1 => by
    by_cases hk : k < (GL R mo).length
    · rw [tkF_succ _ k hk, List.length_append]
      have := tkF_len R mo k
      have := gl_len R mo k
      omega
    · have e : tkF (GL R mo) (k + 1) = tkF (GL R mo) k := by
        unfold tkF
        rw [List.take_of_length_le (by omega), List.take_of_length_le (by omega)]
      rw [e]
      have := tkF_len R mo k
      omega
theorem tkF_all (G : List (List Nat)) (m : Nat) (h : G.length ≤ m) : tkF G m = tkF G G.length := by
  unfold tkF
  rw [List.take_of_length_le h, List.take_of_length_le (Nat.le_refl _)]
/-- the books, the list that is made -/
structure AN (w1 W0 : World) (bb : Nat) (P : Nat → Prop) (col0 : Nat → Nat) (b5 b11 : Nat) (L : List Int) (nv : Nat) (W : World) : Prop where
  ex : ∃ col X iv iv0 V V0 av, SX w1 bb P X col iv iv0 V V0 av L W ∧ (∀ g, g < W0.heap.size → col g = col0 g) ∧ Boxed W b11 22 av ∧ V.length ≤ nv
  fr : FrB col0 bb W0 W
  x5 : Boxed W b5 55 (.pointer (some ⟨bb, 0, none⟩))
structure PrA (w1 W0 : World) (bb : Nat) (P : Nat → Prop) (col0 : Nat → Nat) (b5 b11 : Nat) : Prop where
  px : PX w1 bb P
  bw : bb < W0.heap.size
  h5 : W0.heap.size ≤ b5 ∧ P b5
  h11 : W0.heap.size ≤ b11 ∧ P b11
  ne : b5 ≠ b11
  n18 : ∀ g, g < W0.heap.size → col0 g ≠ 18
  w1 : w1.heap.size ≤ W0.heap.size
  old : ∀ g, P g → g < W0.heap.size → g ≠ bb → col0 g ≠ 2 ∧ col0 g ≠ 6
section
variable {w1 W0 : World} {bb : Nat} {P : Nat → Prop} {col0 : Nat → Nat} {b5 b11 : Nat} {L : List Int} {nv : Nat} {W W' : World}
theorem PrA.ne5 (hp : PrA w1 W0 bb P col0 b5 b11) : P b5 ∧ b5 ≠ bb ∧ w1.heap.size ≤ b5 := ⟨hp.h5.2, by have := hp.bw; have := hp.h5.1; omega, by have := hp.w1; have := hp.h5.1; omega⟩
theorem PrA.ne11 (hp : PrA w1 W0 bb P col0 b5 b11) : P b11 ∧ b11 ≠ bb ∧ w1.heap.size ≤ b11 := ⟨hp.h11.2, by have := hp.bw; have := hp.h11.1; omega, by have := hp.w1; have := hp.h11.1; omega⟩
/-- only blocks Z that are no list's turn -/
theorem AN.keep (h : AN w1 W0 bb P col0 b5 b11 L nv W) (hp : PrA w1 W0 bb P col0 b5 b11) (Z : Nat → Prop) (hZ : ∀ g, Z g → P g ∧ g ≠ bb ∧ w1.heap.size ≤ g ∧ W0.heap.size ≤ g ∧ g ≠ b5 ∧ g ≠ b11) (ho : W'.os = W.os) (ht : W'.tape = W.tape) (hu : W'.output = W.output) (hz : W.heap.size ≤ W'.heap.size) (hk : ∀ g, g < W.heap.size → ¬ Z g → W'.heap[g]? = W.heap[g]?) : AN w1 W0 bb P col0 b5 b11 L nv W' := by
  obtain ⟨⟨col, X, iv, iv0, V, V0, av, hs, hc, hb, hv⟩, hf, h5⟩ := h
  refine ⟨⟨col, X, iv, iv0, V, V0, av, hs.keep Z (fun g z => ⟨(hZ g z).1, (hZ g z).2.1, (hZ g z).2.2.1⟩) ho ht hu hz hk, hc, (hk _ hb.lt (fun z => (hZ _ z).2.2.2.2.2 rfl)).trans hb, hv⟩, ⟨ho.trans hf.os, ht.trans hf.tape, hu.trans hf.output, Nat.le_trans hf.size hz, fun g hg h1 h2 h3 => (hk g (Nat.lt_of_lt_of_le hg hf.size) (fun z => by have := (hZ g z).2.2.2.1; omega)).trans (hf.block g hg h1 h2 h3)⟩, (hk _ h5.lt (fun z => (hZ _ z).2.2.2.2.1 rfl)).trans h5⟩
theorem AN.later (h : AN w1 W0 bb P col0 b5 b11 L nv W) (hp : PrA w1 W0 bb P col0 b5 b11) (hb : Below W.heap.size W W') : AN w1 W0 bb P col0 b5 b11 L nv W' := h.keep hp (fun _ => False) (fun _ z => z.elim) hb.os hb.tape hb.output hb.size fun g hg _ => hb.block g hg
/-- more blocks are no list's: new ones -/
theorem AN.ext {P' : Nat → Prop} (h : AN w1 W0 bb P col0 b5 b11 L nv W) (hp : PrA w1 W0 bb P col0 b5 b11) (hq : ∀ g, P g → g < W.heap.size) (hP : ∀ g, P' g → P g ∨ W.heap.size ≤ g) : AN w1 W0 bb P' col0 b5 b11 L nv W := by
  obtain ⟨⟨col, X, iv, iv0, V, V0, av, hs, hc, hb, hv⟩, hf, h5⟩ := h
  have e : ∀ g, g < W.heap.size → (fun g => if W.heap.size ≤ g then 14 else col g) g = col g := fun g hg => by
    show (if W.heap.size ≤ g then 14 else col g) = col g
    rw [if_neg (by omega)]
  have h2 := hs.recol hq e
  refine ⟨⟨_, X, iv, iv0, V, V0, av, ⟨h2.bk, h2.wl, fun g hg => ?_, h2.be⟩, fun g hg => (e g (Nat.lt_of_lt_of_le hg hf.size)).trans (hc g hg), hb, hv⟩, hf, h5⟩
  by_cases hlt : W.heap.size ≤ g
  · show (if W.heap.size ≤ g then 14 else col g) = 14
    rw [if_pos hlt]
  · rcases hP g hg with h3 | h3
    · exact h2.c14 g h3
    · exact absurd h3 hlt
theorem AN.less {P' : Nat → Prop} (h : AN w1 W0 bb P col0 b5 b11 L nv W) (hP : ∀ g, P' g → P g) : AN w1 W0 bb P' col0 b5 b11 L nv W := by
  obtain ⟨⟨col, X, iv, iv0, V, V0, av, hs, hc, hb, hv⟩, hf, h5⟩ := h
  exact ⟨⟨col, X, iv, iv0, V, V0, av, ⟨hs.bk, hs.wl, fun g hg => hs.c14 g (hP g hg), hs.be⟩, hc, hb, hv⟩, hf, h5⟩
end
end Go.Proofs.Ytaiccmbhdgecgaa

namespace Go.Proofs.Ytaiccmbhdgecgaa
open Go.RowKit Go.Shelf
set_option maxRecDepth 100000
set_option linter.unusedVariables false
set_option linter.unusedSimpArgs false

structure AO (w1 W0 : World) (bb : Nat) (P : Nat → Prop) (col0 : Nat → Nat) (b5 b11 : Nat) (L : List Int) (nv : Nat) (col : Nat → Nat) (X : Nat → List Int) (iv iv0 : Value) (V V0 : List Value) (av : Value) (W : World) : Prop where
  sx : SX w1 bb P X col iv iv0 V V0 av L W
  ec : ∀ g, g < W0.heap.size → col g = col0 g
  x11 : Boxed W b11 22 av
  vl : V.length ≤ nv
  fr : FrB col0 bb W0 W
  x5 : Boxed W b5 55 (.pointer (some ⟨bb, 0, none⟩))
section
variable {w1 W0 : World} {bb : Nat} {P : Nat → Prop} {col0 : Nat → Nat} {b5 b11 : Nat} {L : List Int} {nv : Nat} {col : Nat → Nat} {X : Nat → List Int} {iv iv0 : Value} {V V0 : List Value} {av : Value} {W W' : World}
theorem AO.an (h : AO w1 W0 bb P col0 b5 b11 L nv col X iv iv0 V V0 av W) : AN w1 W0 bb P col0 b5 b11 L nv W := ⟨⟨col, X, iv, iv0, V, V0, av, h.sx, h.ec, h.x11, h.vl⟩, h.fr, h.x5⟩
theorem AN.ao (h : AN w1 W0 bb P col0 b5 b11 L nv W) : ∃ col X iv iv0 V V0 av, AO w1 W0 bb P col0 b5 b11 L nv col X iv iv0 V V0 av W := by
  obtain ⟨⟨col, X, iv, iv0, V, V0, av, h1, h2, h3, h4⟩, h5, h6⟩ := h
  exact ⟨col, X, iv, iv0, V, V0, av, h1, h2, h3, h4, h5, h6⟩
theorem FrB.step {col0 : Nat → Nat} {b : Nat} {W0 W W' : World} (h : FrB col0 b W0 W) (ho : W'.os = W.os) (ht : W'.tape = W.tape) (hu : W'.output = W.output) (hz : W.heap.size ≤ W'.heap.size) (hk : ∀ g, g < W0.heap.size → g ≠ b → col0 g ≠ 2 → col0 g ≠ 6 → W'.heap[g]? = W.heap[g]?) : FrB col0 b W0 W' :=
  ⟨ho.trans h.os, ht.trans h.tape, hu.trans h.output, Nat.le_trans h.size hz, fun g hg h1 h2 h3 => (hk g hg h1 h2 h3).trans (h.block g hg h1 h2 h3)⟩
theorem AO.later (h : AO w1 W0 bb P col0 b5 b11 L nv col X iv iv0 V V0 av W) (hb : Below W.heap.size W W') : AO w1 W0 bb P col0 b5 b11 L nv col X iv iv0 V V0 av W' :=
  ⟨h.sx.later hb, h.ec, (hb.block _ h.x11.lt).trans h.x11, h.vl, h.fr.step hb.os hb.tape hb.output hb.size fun g hg _ _ _ => hb.block g (Nat.lt_of_lt_of_le hg h.fr.size), (hb.block _ h.x5.lt).trans h.x5⟩
theorem AO.recol {col' : Nat → Nat} (h : AO w1 W0 bb P col0 b5 b11 L nv col X iv iv0 V V0 av W) (hq : ∀ g, P g → g < W.heap.size) (hc : ∀ g, g < W.heap.size → col' g = col g) : AO w1 W0 bb P col0 b5 b11 L nv col' X iv iv0 V V0 av W :=
  ⟨h.sx.recol hq hc, fun g hg => (hc g (Nat.lt_of_lt_of_le hg h.fr.size)).trans (h.ec g hg), h.x11, h.vl, h.fr, h.x5⟩
/-- one list more in the books -/
def GiveA (w1 W0 : World) (bb : Nat) (P : Nat → Prop) (col0 : Nat → Nat) (b5 b11 : Nat) (L : List Int) (nv : Nat) (col : Nat → Nat) (V : List Value) (av x : Value) (Lx : List Int) (W : World) (e : Ending) (W' : World) : Prop :=
  e = .returned (.tuple #[]) ∧ ∃ col' X' iv' iv0' V0', AO w1 W0 bb P col0 b5 b11 L (nv + 1) col' X' iv' iv0' (V ++ [x]) V0' av W' ∧ Ow eN 1 3 col' (4 * V.length) W' w1.heap.size x Lx ∧ (∀ g, g < W.heap.size → col' g = col g) ∧ (∀ c v M, Ow eN 1 3 col c W w1.heap.size v M → c ≠ 2 → c ≠ 6 → c ≠ 14 → Ow eN 1 3 col' c W' w1.heap.size v M) ∧ (∀ g, P g → g ≠ bb → W'.heap[g]? = W.heap[g]?) ∧ W.heap.size ≤ W'.heap.size
theorem AO.give (h : AO w1 W0 bb P col0 b5 b11 L nv col X iv iv0 V V0 av W) (hp : PrA w1 W0 bb P col0 b5 b11) (hq : ∀ g, P g → g < W.heap.size) (x : Value) (Lx : List Int) (hx : Ow eN 1 3 col (4 * V.length) W w1.heap.size x Lx) (hL : Lx.length ≤ 1000000000000) (hn : nv + 1 ≤ 1000000000000) :
    Calls Try.prog 55 #[.pointer (some ⟨bb, 0, none⟩), x] W fun e W' => GiveA w1 W0 bb P col0 b5 b11 L nv col V av x Lx W e W' := by
  refine (ints_any W w1.heap.size bb col iv iv0 x V V0 X Lx h.sx.bk hx h.sx.be.size hL (by have := h.vl; omega)).mono ?_
  rintro e W' ⟨col', iv', iv0', V0', rfl, hB, hc, hF⟩
  have k14 : ∀ g, P g → col g ≠ 2 ∧ col g ≠ 6 := fun g hg => by rw [h.sx.c14 g hg]; decide
  have hx1 : ∀ g, P g → g ≠ bb → W'.heap[g]? = W.heap[g]? := fun g hg hn => hF.block g (hq g hg) hn (k14 g hg).1 (k14 g hg).2
  have hcb : col bb = 14 := h.sx.bk.cb
  have how : ∀ c v M, Ow eN 1 3 col c W w1.heap.size v M → c ≠ 2 → c ≠ 6 → c ≠ 14 → Ow eN 1 3 col' c W' w1.heap.size v M := fun c v M ho h1 h2 h3 => by
    refine (ho.recol hc).keep fun g hg => ?_
    have hcg := ho.2 g hg
    exact hF.block g (ho.lt g hg).2 (fun e => h3 (by rw [← hcg, e]; exact hcb)) (by rw [hcg]; exact h1) (by rw [hcg]; exact h2)
  have hxo : Ow eN 1 3 col' (4 * V.length) W' w1.heap.size x Lx := how _ _ _ hx (by omega) (by omega) (by omega)
  refine ⟨rfl, col', _, iv', iv0', V0', ⟨⟨hB, how _ _ _ h.sx.wl (by decide) (by decide) (by decide), fun g hg => ?_, ?_⟩, fun g hg => (hc g (Nat.lt_of_lt_of_le hg h.fr.size)).trans (h.ec g hg), (hx1 _ hp.ne11.1 hp.ne11.2.1).trans h.x11, by have := h.vl; simp; omega, ?_, (hx1 _ hp.ne5.1 hp.ne5.2.1).trans h.x5⟩, hxo, hc, how, hx1, hF.size⟩
  · rw [hc g (hq g hg)]
    exact h.sx.c14 g hg
  · exact h.sx.be.trans ⟨hF.os, hF.tape, hF.output, hF.size, fun k hk => hx1 k (hp.px.lo k hk) (fun e => by have := hp.px.ge; omega)⟩
  · exact h.fr.step hF.os hF.tape hF.output hF.size fun g hg h1 h2 h3 => hF.block g (Nat.lt_of_lt_of_le hg h.fr.size) h1 (by rw [h.ec g hg]; exact h2) (by rw [h.ec g hg]; exact h3)
/-- the list grows -/
theorem AO.app (h : AO w1 W0 bb P col0 b5 b11 L nv col X iv iv0 V V0 av W) (hp : PrA w1 W0 bb P col0 b5 b11) (hq : ∀ g, P g → g < W.heap.size) (xv : Value) (M : List Int) (hx : (xv = .slice none 0 0 ∧ M = []) ∨ ∃ ad cp, xv = .slice (some ad) M.length cp ∧ ∀ j u, (M.flatMap eN)[j]? = some u → W.cell? (ad.add j) = some u) (hlen : L.length + M.length ≤ 1000000) :
    ∃ vo vn vc w' col', (apN #[av, xv]).run Try.prog W = .ok (.slice vo vn vc) w' ∧ AO w1 W0 bb P col0 b5 b11 (L ++ M) nv col' X iv iv0 V V0 (.slice vo vn vc) (w'.setCell ⟨b11, 0, none⟩ (.slice vo vn vc)) ∧ (∀ g, g < W.heap.size → col' g = col g) ∧ (∀ c v M2, Ow eN 1 3 col c W w1.heap.size v M2 → c ≠ 18 → c ≠ 14 → Ow eN 1 3 col' c (w'.setCell ⟨b11, 0, none⟩ (.slice vo vn vc)) w1.heap.size v M2) ∧ (∀ g, P g → g ≠ b11 → (w'.setCell ⟨b11, 0, none⟩ (.slice vo vn vc)).heap[g]? = W.heap[g]?) ∧ W.heap.size ≤ (w'.setCell ⟨b11, 0, none⟩ (.slice vo vn vc)).heap.size ∧ w'.cell? ⟨b11, 0, none⟩ = some av ∧ w'.frozen? ⟨b11, 0, none⟩ = false := by
  obtain ⟨v', w', col', hap, ho, _, hg, hrow, hc⟩ := run_appD (enc := eN) iinf Try.underlying22 rfl (by decide) eN_len h.sx.wl xv M hx (fun x _ => eN_one x) (by omega) (by unfold maxLen; omega) h.sx.be.size 22
  rw [apN_op] at hap
  obtain ⟨vo, vc, hvv⟩ := ho.sl
  generalize hvn : (L ++ M).length = vn at hvv
  subst hvv
  have hold : ∀ g, g < W.heap.size → col g ≠ 18 → w'.heap[g]? = W.heap[g]? := fun g hlt hne => hg.block g hlt (fun e => hne (hrow g e.symm).1)
  have hP14 : ∀ g, P g → w'.heap[g]? = W.heap[g]? := fun g hg => hold g (hq g hg) (by rw [h.sx.c14 g hg]; decide)
  have gb := gb_set w' b11 0 (.slice vo vn vc)
  have hk2 : ∀ g, g ≠ b11 → g < w'.heap.size → (w'.setCell ⟨b11, 0, none⟩ (.slice vo vn vc)).heap[g]? = w'.heap[g]? := fun g hn hlt => gb.block g hlt (fun e => by injection e with e; exact hn e)
  have c11' : col' b11 = 14 := by rw [hc _ (hq _ hp.h11.2)]; exact h.sx.c14 _ hp.h11.2
  have how : ∀ {α : Type} {enc : α → List Value} {k : Nat} {ty : TypeId} {c : Nat} {v : Value} {M2 : List α}, Ow enc k ty col c W w1.heap.size v M2 → c ≠ 18 → c ≠ 14 → Ow enc k ty col' c (w'.setCell ⟨b11, 0, none⟩ (.slice vo vn vc)) w1.heap.size v M2 := fun ho2 h1 h2 => by
    have h3 := (ho2.recol hc).other hg (fun g e => (hc g (hrow g e).2).trans (hrow g e).1) h1
    exact h3.other gb (fun g e => by cases e; exact c11') h2
  have hP : ∀ g, P g → g ≠ b11 → (w'.setCell ⟨b11, 0, none⟩ (.slice vo vn vc)).heap[g]? = W.heap[g]? := fun g hg' hn => (hk2 g hn (Nat.lt_of_lt_of_le (hq g hg') hg.size)).trans (hP14 g hg')
  have hx11 : Boxed w' b11 22 av := (hP14 _ hp.h11.2).trans h.x11
  have hne : bb ≠ b11 := fun e => hp.ne11.2.1 e.symm
  have hbk := h.sx.bk
  refine ⟨vo, vn, vc, w', col', hap, ⟨⟨⟨(hP _ hp.px.b hne).trans hbk.bb, ⟨how hbk.i1.1 (by decide) (by decide), fun j hj hpj => how (hbk.i1.2 j hj hpj) (by (try dsimp only); omega) (by (try dsimp only); omega)⟩, how hbk.o0 (by decide) (by decide), fun j hj hpj => how (hbk.r0 j hj hpj) (by (try dsimp only); omega) (by (try dsimp only); omega), hbk.len, by rw [hc _ (hq _ hp.px.b)]; exact hbk.cb, hbk.few, hbk.sh⟩, ho.other gb (fun g e => by cases e; exact c11') (by decide), fun g hg' => by rw [hc g (hq g hg')]; exact h.sx.c14 g hg', ?_⟩, fun g hg' => (hc g (Nat.lt_of_lt_of_le hg' h.fr.size)).trans (h.ec g hg'), hx11.set _, h.vl, ?_, (hP _ hp.ne5.1 hp.ne).trans h.x5⟩, hc, fun c v M2 ho2 h1 h2 => how ho2 h1 h2, hP, by simp; exact hg.size, hx11.cell, hx11.frozen⟩
  · refine h.sx.be.trans ⟨hg.os, hg.tape, hg.output, by simp; exact hg.size, fun k hk => hP k (hp.px.lo k hk) (fun e => by have := hp.ne11.2.2; omega)⟩
  · refine h.fr.step hg.os hg.tape hg.output (by simp; exact hg.size) fun g hg' h1 h2 h3 => ?_
    have hlt := Nat.lt_of_lt_of_le hg' h.fr.size
    refine (hk2 g (fun e => by have := hp.h11.1; omega) (Nat.lt_of_lt_of_le hlt hg.size)).trans (hold g hlt ?_)
    rw [h.ec g hg']
    exact hp.n18 g hg'
end
end Go.Proofs.Ytaiccmbhdgecgaa

namespace Go.Proofs.Ytaiccmbhdgecgaa
open Go.RowKit Go.Shelf
set_option maxRecDepth 100000
set_option linter.unusedVariables false
set_option linter.unusedSimpArgs false

/-- the blocks of the range beside those that are no list's -/
def PQ (Pb : Nat → Prop) (Bq n g : Nat) : Prop := Pb g ∨ (Bq ≤ g ∧ g < Bq + n)
structure PrR (w1 W0 : World) (bb : Nat) (P : Nat → Prop) (col0 : Nat → Nat) (b5 b11 b16 : Nat) (DL : List Nat) (Lo B0 Bq n : Nat) : Prop where
  pa : PrA w1 W0 bb P col0 b5 b11
  lt : ∀ g, P g → g < Bq + n
  k : P b16 ∧ b16 ≠ bb ∧ b16 ≠ b11 ∧ b16 ≠ b5 ∧ W0.heap.size ≤ b16 ∧ b16 < Bq
  fr : ∀ g, ((Lo ≤ g ∧ g < B0) ∨ (Bq ≤ g ∧ g < Bq + n)) → P g ∧ g ≠ bb ∧ g ≠ b11 ∧ g ≠ b5 ∧ g ≠ b16 ∧ W0.heap.size ≤ g
  dl : ∀ p, p ∈ DL → P p ∧ p ≠ bb ∧ p ≠ b11 ∧ p ≠ b16 ∧ p < Bq
structure RnA (w1 W0 : World) (bb : Nat) (P : Nat → Prop) (col0 : Nat → Nat) (b5 b11 b16 : Nat) (DL : List Nat) (L : List Int) (nv kk : Nat) (W : World) : Prop where
  an : AN w1 W0 bb P col0 b5 b11 L nv W
  k : IBox W b16 (kk : Int)
  dl : ∀ p, p ∈ DL → W.heap[p]? = some (.deferred (some []))
structure RoA (w1 W0 : World) (bb : Nat) (P : Nat → Prop) (col0 : Nat → Nat) (b5 b11 b16 : Nat) (DL : List Nat) (L : List Int) (nv kk : Nat) (col : Nat → Nat) (X : Nat → List Int) (iv iv0 : Value) (V V0 : List Value) (av : Value) (W : World) : Prop where
  ao : AO w1 W0 bb P col0 b5 b11 L nv col X iv iv0 V V0 av W
  k : IBox W b16 (kk : Int)
  dl : ∀ p, p ∈ DL → W.heap[p]? = some (.deferred (some []))
section
variable {w1 W0 : World} {bb : Nat} {P : Nat → Prop} {col0 : Nat → Nat} {b5 b11 b16 : Nat} {DL : List Nat} {L : List Int} {nv kk : Nat} {col : Nat → Nat} {X : Nat → List Int} {iv iv0 : Value} {V V0 : List Value} {av : Value} {W W' : World} {Lo B0 Bq n : Nat}
theorem RoA.rn (h : RoA w1 W0 bb P col0 b5 b11 b16 DL L nv kk col X iv iv0 V V0 av W) : RnA w1 W0 bb P col0 b5 b11 b16 DL L nv kk W := ⟨h.ao.an, h.k, h.dl⟩
theorem AO.keep (h : AO w1 W0 bb P col0 b5 b11 L nv col X iv iv0 V V0 av W) (Z : Nat → Prop) (hZ : ∀ g, Z g → P g ∧ g ≠ bb ∧ w1.heap.size ≤ g ∧ W0.heap.size ≤ g ∧ g ≠ b5 ∧ g ≠ b11) (ho : W'.os = W.os) (ht : W'.tape = W.tape) (hu : W'.output = W.output) (hz : W.heap.size ≤ W'.heap.size) (hk : ∀ g, g < W.heap.size → ¬ Z g → W'.heap[g]? = W.heap[g]?) : AO w1 W0 bb P col0 b5 b11 L nv col X iv iv0 V V0 av W' :=
  ⟨h.sx.keep Z (fun g z => ⟨(hZ g z).1, (hZ g z).2.1, (hZ g z).2.2.1⟩) ho ht hu hz hk, h.ec, (hk _ h.x11.lt (fun z => (hZ _ z).2.2.2.2.2 rfl)).trans h.x11, h.vl, h.fr.step ho ht hu hz fun g hg _ _ _ => hk g (Nat.lt_of_lt_of_le hg h.fr.size) (fun z => by have := (hZ g z).2.2.2.1; omega), (hk _ h.x5.lt (fun z => (hZ _ z).2.2.2.2.1 rfl)).trans h.x5⟩
theorem RoA.chg {n2 : Nat} (h : RoA w1 W0 bb P col0 b5 b11 b16 DL L nv kk col X iv iv0 V V0 av W) (hp : PrR w1 W0 bb P col0 b5 b11 b16 DL Lo B0 Bq n) (hn : n2 ≤ n) (hb : Chg Bq n2 W W') : RoA w1 W0 bb P col0 b5 b11 b16 DL L nv kk col X iv iv0 V V0 av W' := by
  refine ⟨h.ao.keep (fun g => Bq ≤ g ∧ g < Bq + n2) (fun g z => ?_) hb.os hb.tape hb.output hb.size fun g hg hz => hb.block g hg hz, (hb.block _ h.k.facts.2.2 (by have := hp.k.2.2.2.2.2; omega)).trans h.k, fun p hp' => (hb.block _ (Array.getElem?_eq_some_iff.1 (h.dl p hp')).1 (by have := (hp.dl p hp').2.2.2.2; omega)).trans (h.dl p hp')⟩
  obtain ⟨h1, h2, h3, h4, h5, h6⟩ := hp.fr g (.inr ⟨z.1, by omega⟩)
  exact ⟨h1, h2, by have := hp.pa.w1; omega, h6, h4, h3⟩
theorem RnA.chg {n2 : Nat} (h : RnA w1 W0 bb P col0 b5 b11 b16 DL L nv kk W) (hp : PrR w1 W0 bb P col0 b5 b11 b16 DL Lo B0 Bq n) (hn : n2 ≤ n) (hb : Chg Bq n2 W W') : RnA w1 W0 bb P col0 b5 b11 b16 DL L nv kk W' := by
  obtain ⟨col, X, iv, iv0, V, V0, av, ho⟩ := h.an.ao
  exact (RoA.chg (⟨ho, h.k, h.dl⟩ : RoA w1 W0 bb P col0 b5 b11 b16 DL L nv kk col X iv iv0 V V0 av W) hp hn hb).rn
theorem RoA.later (h : RoA w1 W0 bb P col0 b5 b11 b16 DL L nv kk col X iv iv0 V V0 av W) (hb : Below W.heap.size W W') : RoA w1 W0 bb P col0 b5 b11 b16 DL L nv kk col X iv iv0 V V0 av W' := ⟨h.ao.later hb, h.k.later hb, fun p hp => (hb.block _ (Array.getElem?_eq_some_iff.1 (h.dl p hp)).1).trans (h.dl p hp)⟩
/-- a round begins -/
theorem RnA.enter {A W1 : World} {x : Value} {Lx : List Int} (h : RnA w1 W0 bb P col0 b5 b11 b16 DL L nv kk A) (hp : PrR w1 W0 bb P col0 b5 b11 b16 DL Lo B0 Bq n) (hn : 2 ≤ n) (hz : Bq + n ≤ A.heap.size) (hAW : Below A.heap.size A W1) (hD : OwI W1 A.heap.size x Lx) (hc : Chg Bq 2 W1 W) : ∃ col X iv iv0 V V0 av, RoA w1 W0 bb P col0 b5 b11 b16 DL L nv kk col X iv iv0 V V0 av W ∧ Ow eN 1 3 col (4 * V.length) W w1.heap.size x Lx := by
  obtain ⟨col, X, iv, iv0, V, V0, av, ho⟩ := h.an.ao
  have e : ∀ g, g < A.heap.size → (fun g => if A.heap.size ≤ g then 4 * V.length else col g) g = col g := fun g hg => by
    show (if A.heap.size ≤ g then 4 * V.length else col g) = col g
    rw [if_neg (by omega)]
  have h1 := (ho.recol (fun g hg => Nat.lt_of_lt_of_le (hp.lt g hg) hz) e).later hAW
  have h2 : RoA w1 W0 bb P col0 b5 b11 b16 DL L nv kk _ X iv iv0 V V0 av W1 := ⟨h1, h.k.later hAW, fun p hp => (hAW.block _ (Array.getElem?_eq_some_iff.1 (h.dl p hp)).1).trans (h.dl p hp)⟩
  refine ⟨_, X, iv, iv0, V, V0, av, h2.chg hp hn hc, ?_⟩
  have h3 : Ow eN 1 3 (fun g => if A.heap.size ≤ g then 4 * V.length else col g) (4 * V.length) W1 A.heap.size x Lx := ⟨hD.1, fun g hg => by
    show (if A.heap.size ≤ g then 4 * V.length else col g) = 4 * V.length
    rw [if_pos (hD.lt g hg).1]⟩
  exact (h3.lower ho.sx.be.size).keep fun g hg => hc.block g (hD.lt g hg).2 (by have := (hD.lt g hg).1; omega)
/-- the list goes to the books -/
theorem RoA.give (h : RoA w1 W0 bb P col0 b5 b11 b16 DL L nv kk col X iv iv0 V V0 av W) (hp : PrR w1 W0 bb P col0 b5 b11 b16 DL Lo B0 Bq n) (hz : Bq + n ≤ W.heap.size) (x : Value) (Lx : List Int) (hx : Ow eN 1 3 col (4 * V.length) W w1.heap.size x Lx) (hL : Lx.length ≤ 1000000000000) (hn : nv + 1 ≤ 1000000000000) :
    Calls Try.prog 55 #[.pointer (some ⟨bb, 0, none⟩), x] W fun e W' => e = .returned (.tuple #[]) ∧ (∃ col' X' iv' iv0' V0', RoA w1 W0 bb P col0 b5 b11 b16 DL L (nv + 1) kk col' X' iv' iv0' (V ++ [x]) V0' av W' ∧ Ow eN 1 3 col' (4 * V.length) W' w1.heap.size x Lx) ∧ KpM Lo B0 Bq n W W' := by
  refine (h.ao.give hp.pa (fun g hg => Nat.lt_of_lt_of_le (hp.lt g hg) hz) x Lx hx hL hn).mono ?_
  rintro e W' ⟨rfl, col', X', iv', iv0', V0', h1, h2, h3, h4, h5, h6⟩
  exact ⟨rfl, ⟨col', X', iv', iv0', V0', ⟨h1, (h5 _ hp.k.1 hp.k.2.1).trans h.k, fun p hp' => (h5 _ (hp.dl p hp').1 (hp.dl p hp').2.1).trans (h.dl p hp')⟩, h2⟩, h6, fun g hg => h5 g (hp.fr g hg).1 (hp.fr g hg).2.1⟩
/-- the list grows -/
theorem RoA.app (h : RoA w1 W0 bb P col0 b5 b11 b16 DL L nv kk col X iv iv0 V V0 av W) (hp : PrR w1 W0 bb P col0 b5 b11 b16 DL Lo B0 Bq n) (hz : Bq + n ≤ W.heap.size) (xv : Value) (M : List Int) (hx : (xv = .slice none 0 0 ∧ M = []) ∨ ∃ ad cp, xv = .slice (some ad) M.length cp ∧ ∀ j u, (M.flatMap eN)[j]? = some u → W.cell? (ad.add j) = some u) (hlen : L.length + M.length ≤ 1000000) :
    ∃ vo vn vc w', (apN #[av, xv]).run Try.prog W = .ok (.slice vo vn vc) w' ∧ RnA w1 W0 bb P col0 b5 b11 b16 DL (L ++ M) nv kk (w'.setCell ⟨b11, 0, none⟩ (.slice vo vn vc)) ∧ KpM Lo B0 Bq n W (w'.setCell ⟨b11, 0, none⟩ (.slice vo vn vc)) ∧ w'.cell? ⟨b11, 0, none⟩ = some av ∧ w'.frozen? ⟨b11, 0, none⟩ = false := by
  obtain ⟨vo, vn, vc, w', col', h1, h2, h3, h4, h5, h6, h7, h8⟩ := h.ao.app hp.pa (fun g hg => Nat.lt_of_lt_of_le (hp.lt g hg) hz) xv M hx hlen
  exact ⟨vo, vn, vc, w', h1, ⟨h2.an, (h5 _ hp.k.1 hp.k.2.2.1).trans h.k, fun p hp' => (h5 _ (hp.dl p hp').1 (hp.dl p hp').2.2.1).trans (h.dl p hp')⟩, ⟨h6, fun g hg => h5 g (hp.fr g hg).1 (hp.fr g hg).2.2.1⟩, h7, h8⟩
/-- one more is counted -/
theorem RnA.setk (h : RnA w1 W0 bb P col0 b5 b11 b16 DL L nv kk W) (hp : PrR w1 W0 bb P col0 b5 b11 b16 DL Lo B0 Bq n) (kk' : Nat) : RnA w1 W0 bb P col0 b5 b11 b16 DL L nv kk' (W.setCell ⟨b16, 0, none⟩ (.int .i64 (kk' : Int))) ∧ KpM Lo B0 Bq n W (W.setCell ⟨b16, 0, none⟩ (.int .i64 (kk' : Int))) := by
  have gb := gb_set W b16 0 (.int .i64 (kk' : Int))
  have hk2 : ∀ g, g ≠ b16 → (W.setCell ⟨b16, 0, none⟩ (.int .i64 (kk' : Int))).heap[g]? = W.heap[g]? := fun g hn => by
    by_cases hlt : g < W.heap.size
    · exact gb.block g hlt (fun e => by injection e with e; exact hn e)
    · rw [Array.getElem?_eq_none (by simp; omega), Array.getElem?_eq_none (by omega)]
  obtain ⟨col, X, iv, iv0, V, V0, av, ho⟩ := h.an.ao
  refine ⟨⟨(ho.keep (fun g => g = b16) (fun g z => by subst z; exact ⟨hp.k.1, hp.k.2.1, by have := hp.pa.w1; have := hp.k.2.2.2.2.1; omega, hp.k.2.2.2.2.1, hp.k.2.2.2.1, hp.k.2.2.1⟩) gb.os gb.tape gb.output gb.size fun g _ hz => hk2 g hz).an, h.k.put _, fun p hp' => (hk2 p (hp.dl p hp').2.2.2.1).trans (h.dl p hp')⟩, gb.size, fun g hg => hk2 g (hp.fr g hg).2.2.2.2.1⟩
end
end Go.Proofs.Ytaiccmbhdgecgaa

namespace Go.Proofs.Ytaiccmbhdgecgaa
open Go.RowKit Go.Shelf
set_option maxRecDepth 100000
set_option linter.unusedVariables false
set_option linter.unusedSimpArgs false
attribute [local go_sem] Oper.semAt_some
attribute [local go_sem ↓] apN_op

/-- what is there ahead of a call -/
structure AnP (w1 W0 : World) (bb : Nat) (col0 : Nat → Nat) (nv : Nat) : Prop where
  ex : ∃ X iv iv0 V V0, BkI col0 W0 w1.heap.size bb iv iv0 V V0 X ∧ V.length ≤ nv
  be : Below w1.heap.size w1 W0
  ge : w1.heap.size ≤ bb
  n18 : ∀ g, col0 g ≠ 18
  old : ∀ g, g < w1.heap.size → col0 g = 14
/-- what a call leaves -/
def AnsA (w1 W0 : World) (bb : Nat) (col0 : Nat → Nat) (nv : Nat) (L : List Int) (e : Ending) (W' : World) : Prop :=
  ∃ col v, e = .returned v ∧ AnP w1 W' bb col (nv + 100) ∧ Ow eN 1 3 col 22 W' w1.heap.size v L ∧ FrB col0 bb W0 W' ∧ ∀ g, g < W0.heap.size → col g = col0 g
def P1 (w1 W0 : World) (bb g : Nat) : Prop := g < w1.heap.size ∨ g = bb ∨ (W0.heap.size ≤ g ∧ g < W0.heap.size + 2)
theorem AnP.lt {w1 W0 : World} {bb : Nat} {col0 : Nat → Nat} {nv : Nat} (h : AnP w1 W0 bb col0 nv) : bb < W0.heap.size := by
  obtain ⟨X, iv, iv0, V, V0, hb, _⟩ := h.ex
  exact hb.bb.lt
theorem an_start {w1 W0 : World} {bb : Nat} {col0 : Nat → Nat} {nv : Nat} (h : AnP w1 W0 bb col0 nv) : ∃ col X iv iv0 V V0, AO w1 W0 bb (P1 w1 W0 bb) col0 W0.heap.size (W0.heap.size + 1) [] nv col X iv iv0 V V0 (.slice none 0 0) ((W0.alloc (.cells #[.pointer (some ⟨bb, 0, none⟩)] 55)).alloc (.cells #[.slice none 0 0] 22)) ∧ Below W0.heap.size W0 ((W0.alloc (.cells #[.pointer (some ⟨bb, 0, none⟩)] 55)).alloc (.cells #[.slice none 0 0] 22)) := by
  have hlt := h.lt
  obtain ⟨X, iv, iv0, V, V0, hb, hv⟩ := h.ex
  have hB : Below W0.heap.size W0 ((W0.alloc (.cells #[.pointer (some ⟨bb, 0, none⟩)] 55)).alloc (.cells #[.slice none 0 0] 22)) := ((Below.refl _ _).alloc (Nat.le_refl _) _).alloc (by simp) _
  have e : ∀ g, g < W0.heap.size → (fun g => if W0.heap.size ≤ g then 14 else col0 g) g = col0 g := fun g hg => by
    show (if W0.heap.size ≤ g then 14 else col0 g) = col0 g
    rw [if_neg (by omega)]
  have h1 := heap_alloc_new W0 (.cells #[.pointer (some ⟨bb, 0, none⟩)] 55)
  have h2 := heap_alloc_new (W0.alloc (.cells #[.pointer (some ⟨bb, 0, none⟩)] 55)) (.cells #[.slice none 0 0] 22)
  simp only [World.size_alloc] at h2
  refine ⟨_, X, iv, iv0, V, V0, ⟨⟨(hb.recol e).later hB, Ow.nil _ _ _ _, fun g hg => ?_, h.be.trans (hB.mono h.be.size)⟩, e, h2, hv, ⟨hB.os, hB.tape, hB.output, hB.size, fun g hg _ _ _ => hB.block g hg⟩, (Lib.alloc_old _ _ _ (by simp)).trans h1⟩, hB⟩
  rcases hg with hg | hg | hg
  · exact (e g (by have := h.be.size; omega)).trans (h.old g hg)
  · subst hg
    exact (e _ hlt).trans hb.cb
  · show (if W0.heap.size ≤ g then 14 else col0 g) = 14
    rw [if_pos hg.1]
theorem pra_start {w1 W0 : World} {bb : Nat} {col0 : Nat → Nat} {nv : Nat} (h : AnP w1 W0 bb col0 nv) (P : Nat → Prop) (hP : ∀ g, P1 w1 W0 bb g → P g) (hN : ∀ g, P g → P1 w1 W0 bb g ∨ W0.heap.size ≤ g) : PrA w1 W0 bb P col0 W0.heap.size (W0.heap.size + 1) := by
  have hlt := h.lt
  obtain ⟨X, iv, iv0, V, V0, hb, hv⟩ := h.ex
  refine ⟨⟨fun g hg => hP g (.inl hg), hP _ (.inr (.inl rfl)), h.ge⟩, hlt, ⟨Nat.le_refl _, hP _ (.inr (.inr ⟨Nat.le_refl _, by omega⟩))⟩, ⟨by omega, hP _ (.inr (.inr ⟨by omega, by omega⟩))⟩, by omega, fun g _ => h.n18 g, h.be.size, fun g hg hlt2 hne => ?_⟩
  rcases hN g hg with h1 | h1
  · rcases h1 with h1 | h1 | h1
    · rw [h.old g h1]; decide
    · exact absurd h1 hne
    · omega
  · omega
/-- the two first lists are there: each has its colour -/
theorem AO.two {w1 W0 W2 W3 W4 : World} {bb : Nat} {P : Nat → Prop} {col0 : Nat → Nat} {b5 b11 : Nat} {L : List Int} {nv : Nat} {col : Nat → Nat} {X : Nat → List Int} {iv iv0 : Value} {V V0 : List Value} {av a b : Value} {La Lb : List Int} (h : AO w1 W0 bb P col0 b5 b11 L nv col X iv iv0 V V0 av W2) (hq : ∀ g, P g → g < W2.heap.size) (h23 : Below W2.heap.size W2 W3) (ha : OI W3 W2.heap.size a La) (h34 : Below W3.heap.size W3 W4) (hb : OI W4 W3.heap.size b Lb) :
    ∃ col', AO w1 W0 bb P col0 b5 b11 L nv col' X iv iv0 V V0 av W4 ∧ Ow eN 1 3 col' (4 * V.length) W4 w1.heap.size a La ∧ Ow eN 1 3 col' (4 * (V.length + 1)) W4 w1.heap.size b Lb := by
  have h24 : Below W2.heap.size W2 W4 := h23.trans (h34.mono h23.size)
  have e : ∀ g, g < W2.heap.size → (fun g => if g < W2.heap.size then col g else if g < W3.heap.size then 4 * V.length else 4 * (V.length + 1)) g = col g := fun g hg => by
    show (if g < W2.heap.size then col g else if g < W3.heap.size then 4 * V.length else 4 * (V.length + 1)) = col g
    rw [if_pos hg]
  have oa := oi_ow ha
  have ob := oi_ow hb
  refine ⟨_, (h.recol hq e).later h24, ?_, ?_⟩
  · have h3 : Ow eN 1 3 (fun g => if g < W2.heap.size then col g else if g < W3.heap.size then 4 * V.length else 4 * (V.length + 1)) (4 * V.length) W3 W2.heap.size a La := ⟨oa.1, fun g hg => by
      have := oa.lt g hg
      show (if g < W2.heap.size then col g else if g < W3.heap.size then 4 * V.length else 4 * (V.length + 1)) = 4 * V.length
      rw [if_neg (by omega), if_pos (by omega)]⟩
    exact (h3.later h34).lower h.sx.be.size
  · have h3 : Ow eN 1 3 (fun g => if g < W2.heap.size then col g else if g < W3.heap.size then 4 * V.length else 4 * (V.length + 1)) (4 * (V.length + 1)) W4 W3.heap.size b Lb := ⟨ob.1, fun g hg => by
      have := ob.lt g hg
      have := h23.size
      show (if g < W2.heap.size then col g else if g < W3.heap.size then 4 * V.length else 4 * (V.length + 1)) = 4 * (V.length + 1)
      rw [if_neg (by omega), if_neg (by omega)]⟩
    exact h3.lower (by have := h.sx.be.size; have := h23.size; omega)
theorem PrA.less {w1 W0 : World} {bb : Nat} {P : Nat → Prop} {col0 : Nat → Nat} {b5 b11 : Nat} (h : PrA w1 W0 bb P col0 b5 b11) {P' : Nat → Prop} (h1 : ∀ g, P g → P' g) (h2 : ∀ g, P' g → P g ∨ W0.heap.size ≤ g) : PrA w1 W0 bb P' col0 b5 b11 :=
  ⟨⟨fun g hg => h1 g (h.px.lo g hg), h1 _ h.px.b, h.px.ge⟩, h.bw, ⟨h.h5.1, h1 _ h.h5.2⟩, ⟨h.h11.1, h1 _ h.h11.2⟩, h.ne, h.n18, h.w1, fun g hg hlt hne => by
    rcases h2 g hg with h3 | h3
    · exact h.old g h3 hlt hne
    · omega⟩
/-- the call's end: what was made last is a list like any other -/
theorem AN.end {w1 W0 : World} {bb : Nat} {P : Nat → Prop} {col0 : Nat → Nat} {b5 b11 : Nat} {L : List Int} {nv : Nat} {W : World} {nv0 : Nat} (hp : AnP w1 W0 bb col0 nv0) (h : AN w1 W0 bb P col0 b5 b11 L nv W) (hpa : PrA w1 W0 bb P col0 b5 b11) (hn : nv ≤ nv0 + 100) : ∃ v, W.cell? ⟨b11, 0, none⟩ = some v ∧ ∀ W' e, e = .returned v → (∃ Z : Nat → Prop, (∀ g, Z g → P g ∧ g ≠ bb ∧ w1.heap.size ≤ g ∧ W0.heap.size ≤ g ∧ g ≠ b5 ∧ g ≠ b11) ∧ W'.os = W.os ∧ W'.tape = W.tape ∧ W'.output = W.output ∧ W.heap.size ≤ W'.heap.size ∧ ∀ g, g < W.heap.size → ¬ Z g → W'.heap[g]? = W.heap[g]?) → AnsA w1 W0 bb col0 nv0 L e W' := by
  obtain ⟨col, X, iv, iv0, V, V0, av, ho⟩ := h.ao
  refine ⟨av, ho.x11.cell, ?_⟩
  rintro W' e rfl ⟨Z, hZ, h1, h2, h3, h4, h5⟩
  have hk := ho.keep Z hZ h1 h2 h3 h4 h5
  have hne : ∀ {c : Nat}, c ≠ 18 → ∀ {α : Type} {enc : α → List Value} {k : Nat} {ty : TypeId} {v : Value} {M : List α}, Ow enc k ty col c W' w1.heap.size v M → Ow enc k ty (fun g => if col g = 18 then 22 else col g) c W' w1.heap.size v M := by
    intro c hc α enc k ty v M hw
    refine ⟨hw.1, fun g hg => ?_⟩
    show (if col g = 18 then 22 else col g) = _
    rw [hw.2 g hg, if_neg hc]
  have hbk := hk.sx.bk
  refine ⟨fun g => if col g = 18 then 22 else col g, av, rfl, ⟨⟨X, iv, iv0, V, V0, ⟨hbk.bb, ⟨hne (by decide) hbk.i1.1, fun j hj hpj => hne (by (try dsimp only); omega) (hbk.i1.2 j hj hpj)⟩, hne (by decide) hbk.o0, fun j hj hpj => hne (by (try dsimp only); omega) (hbk.r0 j hj hpj), hbk.len, ?_, hbk.few, hbk.sh⟩, by have := hk.vl; omega⟩, hk.sx.be, hp.ge, fun g => ?_, fun g hg => ?_⟩, ⟨hk.sx.wl.1, fun g hg => ?_⟩, hk.fr, fun g hg => ?_⟩
  · show (if col bb = 18 then 22 else col bb) = 14
    rw [hbk.cb]; rfl
  · show (if col g = 18 then 22 else col g) ≠ 18
    by_cases e : col g = 18
    · rw [if_pos e]; decide
    · rw [if_neg e]; exact e
  · show (if col g = 18 then 22 else col g) = 14
    rw [hk.sx.c14 g (hpa.px.lo g hg)]; rfl
  · show (if col g = 18 then 22 else col g) = 22
    rw [hk.sx.wl.2 g hg]; rfl
  · show (if col g = 18 then 22 else col g) = col0 g
    rw [hk.ec g hg, if_neg (hp.n18 g)]
end Go.Proofs.Ytaiccmbhdgecgaa

namespace Go.Proofs.Ytaiccmbhdgecgaa
open Go.RowKit Go.Shelf
set_option maxRecDepth 100000
set_option linter.unusedVariables false
set_option linter.unusedSimpArgs false

structure SqO (f : Nat → List Int) (n gf : Nat) (lb : Array Value) (c Lo B0 : Nat) (w0 : World) : Prop where
  eg : ∀ args w, (callFunc gf args).run Try.prog w = .ok (.enter gf args) w
  sq : SeqC gf lb c Lo B0 n (fun k A v W => OwI W A.heap.size v (f k)) w0
theorem SqO.of_few {R : List Int} {mo : Int} {w w' : World} {e : Ending} (h : FwQ R mo w w' e) : ∃ gf lb c, e = .returned (.func (.func gf) #[] lb) ∧ SqO (fun k => iN ((GL R mo).getD k [])) (GL R mo).length gf lb c w.heap.size w'.heap.size w' := by
  obtain ⟨gf, lb, c, he, hg, hs⟩ := h
  exact ⟨gf, lb, c, he, hg, hs.mono fun k A v W hk hD => oi_ow hD⟩
theorem SqO.of_all {w w' : World} {e : Ending} (hA : AlF 3 3 w w' e) : ∃ gf lb c, e = .returned (.func (.func gf) #[] lb) ∧ SqO (fun k => dig 3 k 3) 27 gf lb c w.heap.size w'.heap.size w' := by
  rcases hA with ⟨hok, g1, g2, g3, rfl, x1, x2, x3, y1, y2, y3⟩ | ⟨hok, rfl⟩
  · refine ⟨_, _, 0, rfl, enters_of Try.func43 (by kernel_rfl) rfl, ?_⟩
    exact all_seqC g1 g2 g3 w.heap.size w'.heap.size 3 3 w' (by omega) (by omega) (by decide) ⟨y1, x1.facts.2.2⟩ ⟨y2, x2.facts.2.2⟩ ⟨y3, x3.facts.2.2⟩ x1 x2 x3
  · exact absurd hok (by decide)
theorem dig_fits (k : Nat) : (dig 3 k 3).length = 3 := dig_len 3 3 k
/-- the blocks that are no list's: the call's own boxes, k and what the three sequences hold, the deferred calls -/
def PD (w1 W0 : World) (bb K E : Nat) (DL : List Nat) (g : Nat) : Prop := P1 w1 W0 bb g ∨ (K ≤ g ∧ g < E) ∨ g ∈ DL
theorem pd_pra {w1 W0 : World} {bb : Nat} {col0 : Nat → Nat} {nv : Nat} (h : AnP w1 W0 bb col0 nv) {K E : Nat} {DL : List Nat} (hK : W0.heap.size + 2 ≤ K) (hD : ∀ p, p ∈ DL → K ≤ p) (Bq n : Nat) (hB : K ≤ Bq) : PrA w1 W0 bb (PQ (PD w1 W0 bb K E DL) Bq n) col0 W0.heap.size (W0.heap.size + 1) := by
  refine pra_start h _ (fun g hg => .inl (.inl hg)) fun g hg => ?_
  rcases hg with (hg | hg | hg) | hg
  · exact .inl hg
  · exact .inr (by omega)
  · exact .inr (by have := hD g hg; omega)
  · exact .inr (by omega)
theorem pd_prr {w1 W0 : World} {bb : Nat} {col0 : Nat → Nat} {nv : Nat} (h : AnP w1 W0 bb col0 nv) {K E : Nat} {DL : List Nat} (hK : W0.heap.size + 2 ≤ K) (hKE : K < E) {Bq : Nat} (hE : E ≤ Bq) (hD : ∀ p, p ∈ DL → E ≤ p ∧ p < Bq) {Lo B0 : Nat} (hLo : K < Lo) (hB0 : B0 ≤ E) (n : Nat) :
    PrR w1 W0 bb (PQ (PD w1 W0 bb K E DL) Bq n) col0 W0.heap.size (W0.heap.size + 1) K DL Lo B0 Bq n := by
  have hlt := h.lt
  have hbe := h.be.size
  refine ⟨pd_pra h hK (fun p hp => by have := (hD p hp).1; omega) Bq n (by omega), ?_, ⟨.inl (.inr (.inl ⟨Nat.le_refl _, hKE⟩)), by omega, by omega, by omega, by omega, by omega⟩, ?_, ?_⟩
  · rintro g ((hg | hg | hg) | hg)
    · unfold P1 at hg
      omega
    · omega
    · have := (hD g hg).2
      omega
    · omega
  · rintro g (hg | hg)
    · exact ⟨.inl (.inr (.inl ⟨by omega, by omega⟩)), by omega, by omega, by omega, by omega, by omega⟩
    · exact ⟨.inr hg, by omega, by omega, by omega, by omega, by omega⟩
  · intro p hp
    have := hD p hp
    exact ⟨.inl (.inr (.inr hp)), by omega, by omega, by omega, by omega⟩
theorem pd_lt {w1 W0 : World} {bb : Nat} {col0 : Nat → Nat} {nv : Nat} (h : AnP w1 W0 bb col0 nv) {K E : Nat} {DL : List Nat} (hK : W0.heap.size + 2 ≤ K) {Bq : Nat} (hE : E ≤ Bq) (hKB : K ≤ Bq) (hD : ∀ p, p ∈ DL → p < Bq) : ∀ g, PD w1 W0 bb K E DL g → g < Bq := by
  have hlt := h.lt
  have hbe := h.be.size
  rintro g (hg | hg | hg)
  · unfold P1 at hg
    omega
  · omega
  · exact hD g hg
/-- ahead of the first range -/
theorem AN.begin {w1 W0 W10 W : World} {bb : Nat} {col0 : Nat → Nat} {L : List Int} {nv nv0 : Nat} (h : AN w1 W0 bb (P1 w1 W0 bb) col0 W0.heap.size (W0.heap.size + 1) L nv W10) (hp : AnP w1 W0 bb col0 nv0) (hq : ∀ g, P1 w1 W0 bb g → g < W10.heap.size) (hz : W0.heap.size + 2 ≤ W10.heap.size) (hb : Below W10.heap.size W10 W) (hk : IBox W W10.heap.size (0 : Nat)) :
    RnA w1 W0 bb (PD w1 W0 bb W10.heap.size W.heap.size []) col0 W0.heap.size (W0.heap.size + 1) W10.heap.size [] L nv 0 W := by
  have h1 := h.ext (P' := PD w1 W0 bb W10.heap.size W.heap.size []) (pra_start hp (P1 w1 W0 bb) (fun g h => h) (fun g h => .inl h)) hq (fun g hg => by
    rcases hg with hg | hg | hg
    · exact .inl hg
    · exact .inr hg.1
    · cases hg)
  have hpa : PrA w1 W0 bb (PD w1 W0 bb W10.heap.size W.heap.size []) col0 W0.heap.size (W0.heap.size + 1) := pra_start hp _ (fun g hg => .inl hg) fun g hg => by
    rcases hg with hg | hg | hg
    · exact .inl hg
    · exact .inr (by omega)
    · cases hg
  exact ⟨h1.later hpa hb, hk, fun p hp => by cases hp⟩
theorem RnA.open {w1 W0 : World} {bb : Nat} {col0 : Nat → Nat} {K E : Nat} {DL : List Nat} {L : List Int} {nv nv0 kk : Nat} {W : World} (h : RnA w1 W0 bb (PD w1 W0 bb K E DL) col0 W0.heap.size (W0.heap.size + 1) K DL L nv kk W) (hp : AnP w1 W0 bb col0 nv0) (hK : W0.heap.size + 2 ≤ K) (hKE : K < E) (hE : E ≤ W.heap.size) (hD : ∀ p, p ∈ DL → E ≤ p ∧ p < W.heap.size) (n : Nat) :
    RnA w1 W0 bb (PQ (PD w1 W0 bb K E DL) W.heap.size n) col0 W0.heap.size (W0.heap.size + 1) K DL L nv kk W := by
  have hpa : PrA w1 W0 bb (PD w1 W0 bb K E DL) col0 W0.heap.size (W0.heap.size + 1) := pra_start hp _ (fun g hg => .inl hg) fun g hg => by
    rcases hg with hg | hg | hg
    · exact .inl hg
    · exact .inr (by omega)
    · exact .inr (by have := (hD g hg).1; omega)
  exact ⟨h.an.ext hpa (pd_lt hp hK hE (by omega) (fun p hp => (hD p hp).2)) (fun g hg => by
    rcases hg with hg | hg
    · exact .inl hg
    · exact .inr hg.1), h.k, h.dl⟩
theorem RnA.close {w1 W0 : World} {bb : Nat} {col0 : Nat → Nat} {K E : Nat} {DL : List Nat} {L : List Int} {nv kk Bq n : Nat} {W : World} (h : RnA w1 W0 bb (PQ (PD w1 W0 bb K E DL) Bq n) col0 W0.heap.size (W0.heap.size + 1) K DL L nv kk W) (hn : 0 < n) (hk : W.heap[Bq]? = some (.deferred (some []))) :
    RnA w1 W0 bb (PD w1 W0 bb K E (Bq :: DL)) col0 W0.heap.size (W0.heap.size + 1) K (Bq :: DL) L nv kk W :=
  ⟨h.an.less (fun g hg => by
    rcases hg with hg | hg | hg
    · exact .inl (.inl hg)
    · exact .inl (.inr (.inl hg))
    · rcases List.mem_cons.1 hg with rfl | hg
      · exact .inr ⟨Nat.le_refl _, by omega⟩
      · exact .inl (.inr (.inr hg))), h.k, fun p hp => by
    rcases List.mem_cons.1 hp with rfl | hp
    · exact hk
    · exact h.dl p hp⟩
theorem FrB.later {col0 : Nat → Nat} {b : Nat} {W0 W W' : World} (h : FrB col0 b W0 W) (hb : Below W.heap.size W W') : FrB col0 b W0 W' := h.step hb.os hb.tape hb.output hb.size fun g hg _ _ _ => hb.block g (Nat.lt_of_lt_of_le hg h.size)
theorem KpM.part {Lo B0 Lo' B0' B n : Nat} {A A' : World} (h : KpM Lo B0 B n A A') (h1 : Lo ≤ Lo') (h2 : B0' ≤ B0) : KpM Lo' B0' B n A A' := ⟨h.size, fun k hk => h.block k (by omega)⟩
theorem KpM.kpl {Lo B0 B n : Nat} {A A' : World} (h : KpM Lo B0 B n A A') : KpL Lo B0 A A' := fun k h1 h2 => h.block k (.inl ⟨h1, h2⟩)
theorem KpL.chg {Lo B0 B n : Nat} {w A A' : World} (h : KpL Lo B0 w A) (hB : B0 ≤ B) (hz : B0 ≤ A.heap.size) (hc : Chg B n A A') : KpL Lo B0 w A' := fun k h1 h2 => (hc.block k (by omega) (by omega)).trans (h k h1 h2)
theorem KpL.part {Lo B0 Lo' B0' : Nat} {A A' : World} (h : KpL Lo B0 A A') (h1 : Lo ≤ Lo') (h2 : B0' ≤ B0) : KpL Lo' B0' A A' := fun k a b => h k (by omega) (by omega)
/-- between two rounds: j of the lists F are given -/
structure RF (w1 W0 Wz : World) (bb : Nat) (P : Nat → Prop) (col0 : Nat → Nat) (K E : Nat) (DL : List Nat) (L : List Int) (nv kk : Nat) (W : World) : Prop where
  rn : RnA w1 W0 bb P col0 W0.heap.size (W0.heap.size + 1) K DL L nv kk W
  kp : KpL (K + 1) E Wz W
  sz : E ≤ W.heap.size
section
variable {w1 W0 Wz : World} {bb : Nat} {P : Nat → Prop} {col0 : Nat → Nat} {K E : Nat} {DL : List Nat} {L : List Int} {nv kk Bq n : Nat} {W W' : World}
theorem RF.chg {n2 : Nat} (h : RF w1 W0 Wz bb P col0 K E DL L nv kk W) (hp : PrR w1 W0 bb P col0 W0.heap.size (W0.heap.size + 1) K DL (K + 1) E Bq n) (hn : n2 ≤ n) (hE : E ≤ Bq) (hb : Chg Bq n2 W W') : RF w1 W0 Wz bb P col0 K E DL L nv kk W' :=
  ⟨h.rn.chg hp hn hb, h.kp.chg hE h.sz hb, Nat.le_trans h.sz hb.size⟩
end
/-- the ranges with a limit -/
def R1a (w1 W0 Wz : World) (bb : Nat) (P : Nat → Prop) (col0 : Nat → Nat) (K E : Nat) (DL : List Nat) (L : List Int) (G : List (List Nat)) (nv kk lim : Nat) (k : Nat) (W : World) : Prop := RF w1 W0 Wz bb P col0 K E DL (L ++ tkF G k) (nv + k) (kk + k) W ∧ k < lim
def R1x (w1 W0 Wz : World) (bb : Nat) (P : Nat → Prop) (col0 : Nat → Nat) (K E : Nat) (DL : List Nat) (L : List Int) (G : List (List Nat)) (nv kk lim : Nat) (W : World) : Prop := RF w1 W0 Wz bb P col0 K E DL (L ++ tkF G lim) (nv + lim) (kk + lim) W ∧ lim ≤ G.length
def R1g (w1 W0 Wz : World) (bb : Nat) (P : Nat → Prop) (col0 : Nat → Nat) (K E : Nat) (DL : List Nat) (L : List Int) (G : List (List Nat)) (nv kk lim : Nat) (W : World) : Prop := RF w1 W0 Wz bb P col0 K E DL (L ++ tkF G (min lim G.length)) (nv + min lim G.length) (kk + min lim G.length) W
section
variable {w1 W0 Wz : World} {bb : Nat} {P : Nat → Prop} {col0 : Nat → Nat} {K E : Nat} {DL : List Nat} {L : List Int} {G : List (List Nat)} {nv kk lim k : Nat} {W W' : World}
theorem R1a.g (h : R1a w1 W0 Wz bb P col0 K E DL L G nv kk lim G.length W) : R1g w1 W0 Wz bb P col0 K E DL L G nv kk lim W := by
  unfold R1g
  rw [show min lim G.length = G.length by have := h.2; omega]
  exact h.1
theorem R1x.g (h : R1x w1 W0 Wz bb P col0 K E DL L G nv kk lim W) : R1g w1 W0 Wz bb P col0 K E DL L G nv kk lim W := by
  unfold R1g
  rw [show min lim G.length = lim by have := h.2; omega]
  exact h.1
theorem R1a.start (h : RF w1 W0 Wz bb P col0 K E DL L nv kk W) (hl : 0 < lim) : R1a w1 W0 Wz bb P col0 K E DL L G nv kk lim 0 W := by
  refine ⟨?_, hl⟩
  rw [tkF_zero, List.append_nil]
  exact h
theorem R1x.of (h : RF w1 W0 Wz bb P col0 K E DL (L ++ tkF G (k + 1)) (nv + (k + 1)) (kk + (k + 1)) W) (e : k + 1 = lim) (hk : k < G.length) : R1x w1 W0 Wz bb P col0 K E DL L G nv kk lim W := by
  subst e
  exact ⟨h, hk⟩
theorem tkF_min (m : Nat) : tkF G m = tkF G (min m G.length) := by
  rcases Nat.le_total G.length m with h | h
  · rw [tkF_all G m h, Nat.min_eq_right h]
  · rw [Nat.min_eq_left h]
theorem ansL_is (R : List Int) (n : Int) (Kp : List Int) (Pk : List Pr) : ansL R n Kp Pk = (([] ++ nthL R n ++ [-1] ++ leL Kp Pk) ++ tkF (GL R 24) (min 5 (GL R 24).length)) ++ tkF (GL R 1) (min (10 - min 5 (GL R 24).length) (GL R 1).length) := by
  rw [← tkF_min, ← tkF_min]
  rfl
/-- a round is over -/
theorem R1.over (hn : RnA w1 W0 bb P col0 W0.heap.size (W0.heap.size + 1) K DL ((L ++ tkF G k) ++ iN (G.getD k [])) (nv + k + 1) (kk + k + 1) W') (hkp : KpL (K + 1) E Wz W') (hsz : E ≤ W'.heap.size) (hk : k < G.length) : RF w1 W0 Wz bb P col0 K E DL (L ++ tkF G (k + 1)) (nv + (k + 1)) (kk + (k + 1)) W' := by
  rw [tkF_succ _ k hk, ← List.append_assoc]
  exact ⟨hn, hkp, hsz⟩
end
theorem range_c4 {g : Operand} {p q : Tmp} {assign body : Code} {Q : Exit → Act → World → Prop} {a : Act} {w w0 : World} {gf : Nat} {lb : Array Value} {c Lo B0 n : Nat} {D : Nat → World → Value → World → Prop}
    (hg : a.eval g = .func (.func gf) #[] lb) (eg : ∀ args w, (callFunc gf args).run Try.prog w = .ok (.enter gf args) w) (hseq : SeqC gf lb c Lo B0 n D w0) (hkp : KpL Lo B0 w0 w) (hB0 : B0 ≤ w.heap.size)
    (I : Nat → World → Prop) (hI : ∀ k A A', I k A → Chg w.heap.size (c + 2) A A' → I k A') (h0 : I 0 w)
    (hassign : ∀ (l : Nat) (x : Value) (W : World) (K : Act → World → Prop), K { tmps := (a.tmps.setIfInBounds p x).setIfInBounds q x, defers := [] } W → assign.wpIn (Fence.wide.inRound l) 3 Try.prog (Exit.then K (fun _ _ _ => False)) { tmps := a.tmps.setIfInBounds p x, defers := [] } W)
    (hbody : ∀ (l k : Nat) (x : Value) (A W1 W : World), I k A → k < n → Below A.heap.size A W1 → D k A x W1 → Chg w.heap.size 2 W1 W → W.heap.size = W1.heap.size → w.heap.size + 2 + c ≤ A.heap.size → body.wpIn (Fence.wide.inRound l) 3 Try.prog (endC 0 c Lo B0 w.heap.size I (fun _ _ => False) (k + 1) W) { tmps := (a.tmps.setIfInBounds p x).setIfInBounds q x, defers := [] } W)
    (hdone : ∀ W, I n W → W.heap[w.heap.size]? = some (.deferred (some [])) → Q .normal { a with defers := { target := .collected w.heap.size, args := #[] } :: a.defers } W) :
    (Code.rangeFunc g #[p] assign body).wpIn Fence.wide 5 Try.prog Q a w :=
  range_c hg eg hseq hkp hB0 I (fun _ _ => False) hI (fun _ _ _ h _ => h) h0 (fun x => { tmps := (a.tmps.setIfInBounds p x).setIfInBounds q x, defers := [] }) hassign hbody hdone (fun _ _ h => h.elim)
end Go.Proofs.Ytaiccmbhdgecgaa

namespace Go.Proofs.Ytaiccmbhdgecgaa
open Go.RowKit Go.Shelf
set_option maxRecDepth 100000
set_option linter.unusedVariables false
set_option linter.unusedSimpArgs false
attribute [local go_sem] Oper.semAt_some
attribute [local go_sem ↓] apN_op

theorem drop_defer {Z : Nat → Prop} {W WF : World} (h : WF.os = W.os ∧ WF.tape = W.tape ∧ WF.output = W.output ∧ W.heap.size ≤ WF.heap.size ∧ ∀ g, g < W.heap.size → ¬ Z g → WF.heap[g]? = W.heap[g]?) (p : Nat) (hp : Z p) : (WF.putObj p (.deferred none)).os = W.os ∧ (WF.putObj p (.deferred none)).tape = W.tape ∧ (WF.putObj p (.deferred none)).output = W.output ∧ W.heap.size ≤ (WF.putObj p (.deferred none)).heap.size ∧ ∀ g, g < W.heap.size → ¬ Z g → (WF.putObj p (.deferred none)).heap[g]? = W.heap[g]? :=
  ⟨h.1, h.2.1, h.2.2.1, by simp; exact h.2.2.2.1, fun g hg hz => (World.putObj_heap_other (fun e => hz (by rw [e]; exact hp))).trans (h.2.2.2.2 g hg hz)⟩
set_option maxHeartbeats 20000000 in
theorem answers_any (w1 W0 : World) (bb : Nat) (col0 : Nat → Nat) (nv : Nat) (sv pv qv : Value) (R K : List Int) (Pk : List Pr) (n : Int) (hp : AnP w1 W0 bb col0 nv) (hnv : nv ≤ 1000000) (hR : ∀ W, FrB col0 bb W0 W → RI W sv R) (hK : ∀ W, FrB col0 bb W0 W → RI W pv K) (hQ : ∀ W, FrB col0 bb W0 W → PL W qv Pk) (hRl : R.length ≤ 9223372036854775807) (hKl : K.length ≤ 9223372036854775807) (hQl : Pk.length ≤ 9223372036854775807) (hn : -9223372036854775808 ≤ n ∧ n ≤ 9223372036854775807) :
    Calls Try.prog 27 #[.pointer (some ⟨bb, 0, none⟩), sv, .int .i64 n, pv, qv] W0 fun e W' => AnsA w1 W0 bb col0 nv (ansL R n K Pk) e W' := by
  have HNt := hid (fun W (h : FrB col0 bb W0 W) => nthR_any sv R n W (hR W h) hRl hn)
  have HLt := hid (fun W (h : FrB col0 bb W0 W) => least_any pv qv K Pk W (hK W h) (hQ W h) hKl hQl)
  have HMx := hid (fun W (h : FrB col0 bb W0 W) => mixes_any sv R W (hR W h) hRl)
  have HFe := hid (fun W (h : FrB col0 bb W0 W) => few_any sv R 1 W (hR W h) hRl (by decide))
  have HAl := hid (fun W => allF_any 3 3 W)
  have HWh := hid (fun gf lb W => whole_any gf lb W)
  obtain ⟨so, sl, sc, hsv⟩ : ∃ so sl sc, sv = .slice so sl sc := by
    obtain ⟨a, c, h⟩ := (hR W0 ⟨rfl, rfl, rfl, Nat.le_refl _, fun _ _ _ _ _ => rfl⟩).len0
    exact ⟨a, _, c, h⟩
  obtain ⟨po, pl, pc, hpv⟩ : ∃ so sl sc, pv = .slice so sl sc := by
    obtain ⟨a, c, h⟩ := (hK W0 ⟨rfl, rfl, rfl, Nat.le_refl _, fun _ _ _ _ _ => rfl⟩).len0
    exact ⟨a, _, c, h⟩
  obtain ⟨qo, ql, qc, hqv⟩ : ∃ so sl sc, qv = .slice so sl sc := by
    obtain ⟨a, c, h, _⟩ := hQ W0 ⟨rfl, rfl, rfl, Nat.le_refl _, fun _ _ _ _ _ => rfl⟩
    exact ⟨a, _, c, h⟩
  subst hsv hpv hqv
  clear hR hK hQ
  have HAP := hid hp
  obtain ⟨col, X, iv, iv0, V, V0, hao, hb2⟩ := an_start hp
  obtain ⟨W2, hW2⟩ : ∃ W2, ((W0.alloc (.cells #[.pointer (some ⟨bb, 0, none⟩)] 55)).alloc (.cells #[.slice none 0 0] 22)) = W2 := ⟨_, rfl⟩
  rw [hW2] at hao hb2
  have HZ2 := hid (show W2.heap.size = W0.heap.size + 2 by rw [← hW2]; simp)
  have HA2 := hid hao
  have HP1 := hid (pra_start hp (P1 w1 W0 bb) (fun g h => h) (fun g h => .inl h))
  have HQ1 := hid (show ∀ W : World, W2.heap.size ≤ W.heap.size → ∀ g, P1 w1 W0 bb g → g < W.heap.size from fun W hz g hg => by
    have h1 := HZ2.out
    have h2 := hp.lt
    have h3 := hp.be.size
    unfold P1 at hg
    omega)
  clear hao hb2 hp
  refine (callsIn_wide (n := 5)).1 ?_
  refine callsIn_of_wp_marks Try.func27 rfl trivial ?_ rfl
  simp only [Try.ntmps27, List.size_toArray, List.length_cons, List.length_nil, Nat.reduceAdd, Nat.reduceSub, Array.replicate_succ, Array.replicate_zero, List.push_toArray, List.append_toArray, List.nil_append, List.cons_append]
  gi_wp2_with fail
  refine ⟨trivial, (callsIn_wide.2 (HNt.out W2 HA2.out.fr)).mono ?_⟩
  rintro e W3 ⟨hN, hb3⟩
  obtain ⟨a, er, rfl, hoa, hla⟩ := nthA_is hN
  have HA3 := hid (HA2.out.later hb3)
  have HB3 := hid hb3
  obtain ⟨ao, ac, hav⟩ := hoa.reads.len0
  have HOa := hid hoa
  have HLa := hid hla
  generalize hna : (nthL R n).length = an at hav
  subst hav
  clear hN hb3 hoa hla hna HNt hW2
  gi_wp2_with fail
  refine ⟨trivial, (callsIn_wide.2 (HLt.out W3 HA3.out.fr)).mono ?_⟩
  obtain ⟨el, hel⟩ : ∃ el, leE K Pk = el := ⟨_, rfl⟩
  rw [hel]
  clear hel
  rintro e W4 ⟨⟨b, rfl, hob⟩, hb4⟩
  have HB4 := hid hb4
  obtain ⟨bo, bc, hbv⟩ := hob.reads.len0
  generalize hnb : (leL K Pk).length = bn at hbv
  subst hbv
  obtain ⟨col4, ho4, hxa4, hxb4⟩ := HA2.out.two (HQ1.out W2 (Nat.le_refl _)) HB3.out HOa.out hb4 hob
  have HZ4 := hid (Nat.le_trans HB3.out.size hb4.size)
  have y5 := ho4.x5.cell
  have HG5 := hid (ho4.give HP1.out (HQ1.out W4 HZ4.out) _ _ hxa4 (by have := HLa.out; omega) (by omega))
  have HXb4 := hid hxb4
  clear hb4 hob hnb hxa4 hxb4 HLt HA3 HA2 HOa HB3 HB4
  gi_wp2_with fail
  refine ⟨trivial, (callsIn_wide.2 HG5.out).mono ?_⟩
  rintro e W5 ⟨rfl, col5, X5, iv5, iv05, V05, ho5, hxa5, hc5, hk5, hf5, hz5⟩
  have hxb5 := hk5 _ _ _ HXb4.out (by omega) (by omega) (by omega)
  have HZ5 := hid (Nat.le_trans HZ4.out hz5)
  have y6 := ho5.x5.cell
  have hVl : (V ++ [Value.slice ao an ac]).length = V.length + 1 := by simp
  have HG6 := hid (ho5.give HP1.out (HQ1.out W5 HZ5.out) (.slice bo bn bc) (leL K Pk) (by rw [hVl]; exact hxb5) (by have := leL_512 K Pk; omega) (by omega))
  have HXa5 := hid hxa5
  clear ho4 ho5 hxa5 hxb5 hc5 hk5 hf5 hz5 HXb4 HG5 y5
  gi_wp2_with fail
  refine ⟨trivial, (callsIn_wide.2 HG6.out).mono ?_⟩
  rintro e W6 ⟨rfl, col6, X6, iv6, iv06, V06, ho6, hxb6, hc6, hk6, hf6, hz6⟩
  rw [hVl] at hxb6
  have hxa6 := hk6 _ _ _ HXa5.out (by omega) (by omega) (by omega)
  have HZ6 := hid (Nat.le_trans HZ5.out hz6)
  -- append(all, a...)
  have y7 := ho6.x11.cell
  obtain ⟨vo7, vn7, vc7, w7, col7, hap7, ho7, hc7, hk7, hf7, hz7, e7, f7⟩ := ho6.app HP1.out (HQ1.out W6 HZ6.out) (.slice ao an ac) (nthL R n) hxa6.srcI (by have := HLa.out; simp; omega)
  have hxb7 := hk7 _ _ _ hxb6 (by omega) (by omega)
  obtain ⟨W7, hW7⟩ : ∃ W7, w7.setCell ⟨W0.heap.size + 1, 0, none⟩ (.slice vo7 vn7 vc7) = W7 := ⟨_, rfl⟩
  rw [hW7] at ho7 hxb7 hz7
  have HZ7 := hid (Nat.le_trans HZ6.out hz7)
  -- append(all, -1)
  have y8 := ho7.x11.cell
  have hb8 : Below W7.heap.size W7 (W7.alloc (.cells #[.int .i64 (-1)] 3)) := alloc_below _ _
  have ho8 := ho7.later hb8
  have y9 := ho8.x11.cell
  have hxb8 : Ow eN 1 3 col7 (4 * (V.length + 1)) (W7.alloc (.cells #[.int .i64 (-1)] 3)) w1.heap.size (.slice bo bn bc) (leL K Pk) := hxb7.later hb8
  obtain ⟨vo9, vn9, vc9, w9, col9, hap9, ho9, hc9, hk9, hf9, hz9, e9, f9⟩ := ho8.app HP1.out (HQ1.out _ (Nat.le_trans HZ7.out hb8.size)) (.slice (some ⟨W7.heap.size, 0, none⟩) 1 1) [-1] (.inr ⟨_, 1, rfl, cell_new W7 (.int .i64 (-1)) 3 eN (-1) rfl⟩) (by have := HLa.out; simp; omega)
  have hxb9 := hk9 _ _ _ hxb8 (by omega) (by omega)
  obtain ⟨W9, hW9⟩ : ∃ W9, w9.setCell ⟨W0.heap.size + 1, 0, none⟩ (.slice vo9 vn9 vc9) = W9 := ⟨_, rfl⟩
  rw [hW9] at ho9 hxb9 hz9
  have HZ9 := hid (Nat.le_trans (Nat.le_trans HZ7.out hb8.size) hz9)
  -- append(all, b...)
  have y10 := ho9.x11.cell
  obtain ⟨vo10, vn10, vc10, w10, col10, hap10, ho10, hc10, hk10, hf10, hz10, e10, f10⟩ := ho9.app HP1.out (HQ1.out W9 HZ9.out) (.slice bo bn bc) (leL K Pk) hxb9.srcI (by have := HLa.out; have := leL_512 K Pk; simp; omega)
  obtain ⟨W10, hW10⟩ : ∃ W10, w10.setCell ⟨W0.heap.size + 1, 0, none⟩ (.slice vo10 vn10 vc10) = W10 := ⟨_, rfl⟩
  rw [hW10] at ho10 hz10
  have HZ10 := hid (Nat.le_trans HZ9.out hz10)
  have HA10 := hid ho10.an
  clear ho6 hxb6 hc6 hk6 hf6 hz6 hxa6 ho7 hxb7 hc7 hk7 hf7 hz7 ho8 hxb8 hb8 ho9 hxb9 hc9 hk9 hf9 hz9 ho10 hc10 hk10 hf10 hz10 HG6 HXa5
  obtain ⟨L0, hL0⟩ : ∃ L0, (([] ++ nthL R n) ++ [-1]) ++ leL K Pk = L0 := ⟨_, rfl⟩
  have HLe := hid (ansL_is R n K Pk)
  have HLn := hid (show L0.length ≤ 600 by rw [← hL0]; have := HLa.out; have := leL_512 K Pk; simp; omega)
  rw [hL0] at HA10 HLe
  clear hL0
  gi_wp2_with fail
  obtain ⟨W11, hW11⟩ : ∃ W11, W10.alloc (.cells #[.int .i64 0] 3) = W11 := ⟨_, rfl⟩
  have HB11 := hid (show Below W10.heap.size W10 W11 by rw [← hW11]; exact alloc_below _ _)
  have HK11 := hid (show IBox W11 W10.heap.size ((0 : Nat) : Int) by rw [← hW11]; exact heap_alloc_new _ _)
  have HZ11 := hid (show W11.heap.size = W10.heap.size + 1 by rw [← hW11]; simp)
  have HFr11 := hid (HA10.out.fr.later HB11.out)
  rw [hW11]
  refine ⟨trivial, (callsIn_wide.2 (HMx.out W11 HFr11.out)).mono ?_⟩
  rintro e W12 ⟨hq, hb12⟩
  obtain ⟨g1, l1, c1, rfl, hS1⟩ := SqO.of_few hq
  have HS1 := hid hS1
  have HB12 := hid hb12
  have HFr12 := hid (HFr11.out.later hb12)
  clear hq hS1 hb12 HMx hW11
  gi_wp2_with fail
  refine ⟨trivial, (callsIn_wide.2 (HFe.out W12 HFr12.out)).mono ?_⟩
  rintro e W13 ⟨hq, hb13⟩
  obtain ⟨g2, l2, c2, rfl, hS2⟩ := SqO.of_few hq
  have HS2 := hid hS2
  have HB13 := hid hb13
  clear hq hS2 hb13 HFe HFr11 HFr12
  gi_wp2_with fail
  refine ⟨trivial, (callsIn_wide.2 (HAl.out W13)).mono ?_⟩
  rintro e W14 ⟨hq, hb14⟩
  obtain ⟨g3, l3, c3, rfl, hS3⟩ := SqO.of_all hq
  have HS3 := hid hS3
  have HB14 := hid hb14
  clear hq hS3 hb14 HAl
  obtain ⟨Kz, hKz⟩ : ∃ Kz, W10.heap.size = Kz := ⟨_, rfl⟩
  obtain ⟨Ez, hEz⟩ : ∃ Ez, W14.heap.size = Ez := ⟨_, rfl⟩
  have HSz := hid (show W0.heap.size + 2 ≤ Kz ∧ Kz + 1 = W11.heap.size ∧ W11.heap.size ≤ W12.heap.size ∧ W12.heap.size ≤ W13.heap.size ∧ W13.heap.size ≤ Ez from ⟨by have := HZ10.out; have := HZ2.out; omega, by have := HZ11.out; omega, HB12.out.size, HB13.out.size, by have := HB14.out.size; omega⟩)
  have HRn := hid (show RnA w1 W0 bb (PD w1 W0 bb Kz Ez []) col0 W0.heap.size (W0.heap.size + 1) Kz [] L0 (nv + 1 + 1) 0 W14 by
    have hb : Below W11.heap.size W11 W14 := (HB12.out.trans (HB13.out.mono HB12.out.size)).trans (HB14.out.mono (Nat.le_trans HB12.out.size HB13.out.size))
    have := AN.begin HA10.out HAP.out (HQ1.out W10 HZ10.out) (by have := HZ10.out; have := HZ2.out; omega) (HB11.out.trans (hb.mono (by have := HZ11.out; omega))) ((hb.block _ (by have := HZ11.out; omega)).trans HK11.out)
    rw [hKz, hEz] at this
    exact this)
  have HKw := hid (show KpL W11.heap.size W12.heap.size W12 W14 ∧ KpL W12.heap.size W13.heap.size W13 W14 ∧ KpL W13.heap.size W14.heap.size W14 W14 from ⟨(KpL.of_below HB13.out (Nat.le_refl _)).trans (KpL.of_below HB14.out HB13.out.size), KpL.of_below HB14.out (Nat.le_refl _), KpL.refl _ _ _⟩)
  have HEz := hid hEz
  rw [hKz]
  clear hKz hEz HA10 HZ10 HZ2 HZ11 HK11 HB11 HB12 HB13 HB14 HQ1
  have HKv1 := hid (KpL.refl (Kz + 1) Ez W14)
  gi_wp2_with fail
  refine ⟨trivial, (callsIn_wide.2 (HWh.out _ _ _)).mono ?_⟩
  rintro e wz ⟨rfl, hwz⟩
  replace hwz := hwz.symm
  subst hwz
  have HQ1 := hid (show Kz < Ez ∧ Ez ≤ W14.heap.size ∧ (∀ p, p ∈ [] → Ez ≤ p ∧ p < W14.heap.size) from ⟨by have := HSz.out; omega, by rw [HEz.out]; exact Nat.le_refl _, fun p hp => by cases hp⟩)
  have HP1 := hid (pd_prr HAP.out HSz.out.1 HQ1.out.1 HQ1.out.2.1 HQ1.out.2.2 (Nat.lt_succ_self Kz) (Nat.le_refl Ez) (c1 + 2))
  have HF1 := hid (show RF w1 W0 W14 bb (PQ (PD w1 W0 bb Kz Ez []) W14.heap.size (c1 + 2)) col0 Kz Ez [] L0 (nv + 1 + 1) (0) W14 from ⟨HRn.out.open HAP.out HSz.out.1 HQ1.out.1 HQ1.out.2.1 HQ1.out.2.2 _, HKv1.out, HQ1.out.2.1⟩)
  have HKq1 := hid (show KpL W11.heap.size W12.heap.size W12 W14 from HKw.out.1)
  have HBz1 := hid (show W12.heap.size ≤ W14.heap.size by have := HSz.out; have := HQ1.out; omega)
  have HLim1 := hid (show 0 < 5 ∧ 0 + 5 ≤ 10 ∧ nv + 1 + 1 ≤ 1000050 ∧ (L0).length ≤ 800 from ⟨by decide, by decide, by omega, by have := HLn.out; omega⟩)
  gi_wp2_with fail
  refine range_c3 (q := 20) (w0 := W12) (gf := g1) (lb := l1) (c := c1) (Lo := W11.heap.size) (B0 := W12.heap.size) (n := (GL R 24).length) (D := fun k A v W => OwI W A.heap.size v (iN ((GL R 24).getD k []))) rfl HS1.out.eg HS1.out.sq HKq1.out HBz1.out (fun k W => R1a w1 W0 W14 bb (PQ (PD w1 W0 bb Kz Ez []) W14.heap.size (c1 + 2)) col0 Kz Ez [] L0 (GL R 24) (nv + 1 + 1) (0) (5) k W) (fun _ W => R1x w1 W0 W14 bb (PQ (PD w1 W0 bb Kz Ez []) W14.heap.size (c1 + 2)) col0 Kz Ez [] L0 (GL R 24) (nv + 1 + 1) (0) (5) W) ?hI1 ?hIx1 (R1a.start HF1.out HLim1.out.1) ?assign1 ?body1 (fun W => R1g w1 W0 W14 bb (PQ (PD w1 W0 bb Kz Ez []) W14.heap.size (c1 + 2)) col0 Kz Ez [] L0 (GL R 24) (nv + 1 + 1) (0) (5) W) ?hd1 ?hs1 ?go1
  case hI1 =>
    rintro k X X' ⟨h1, h2⟩ hc
    exact ⟨h1.chg HP1.out (Nat.le_refl _) HQ1.out.2.1 hc, h2⟩
  case hIx1 =>
    rintro k X X' ⟨h1, h2⟩ hc
    exact ⟨h1.chg HP1.out (Nat.le_refl _) HQ1.out.2.1 hc, h2⟩
  case hd1 => exact fun W h => R1a.g h
  case hs1 => exact fun k W h => R1x.g h
  case assign1 =>
    intro l x W K hK
    have HKK := hid hK
    clear hK
    gi_wp2
    exact HKK.out
  case body1 =>
    intro l k x Aw W1 W hI hk hAW hD hc hz hsz
    obtain ⟨hI, hlim⟩ := hI
    have hzA : W14.heap.size + (c1 + 2) ≤ Aw.heap.size := by omega
    obtain ⟨col, X, iv, iv0, V, V0, av, ho, hx⟩ := hI.rn.enter HP1.out (by omega) hzA hAW hD hc
    obtain ⟨xo, xc, hxv⟩ := hx.sl
    have hl24 := gl_len R 24 k
    have htk := tkF_len R 24 k
    generalize hxn : (iN ((GL R 24).getD k [])).length = xn at hxv
    subst hxv
    have HKP := hid (show KpL (Kz + 1) Ez W14 W from (hI.kp.trans (KpL.of_below hAW hI.sz)).chg HQ1.out.2.1 (Nat.le_trans hI.sz hAW.size) hc)
    have HZ := hid (show W14.heap.size + (c1 + 2) ≤ W.heap.size by have := hAW.size; omega)
    have y5 := ho.ao.x5.cell
    have HGv := hid (ho.give HP1.out HZ.out _ _ hx (by omega) (by have := HLim1.out; omega))
    have HLk := hid hlim
    have HKl := hid hk
    have HLx := hid hl24
    have HTk := hid htk
    clear hI hk hAW hD hc hz hsz hzA ho hx hlim hl24 htk hxn
    simp only [List.setIfInBounds_toArray, List.set_cons_succ, List.set_cons_zero]
    gi_wp2_with fail
    refine ⟨trivial, ((callsIn_wide.2 HGv.out).inRound l).mono ?_⟩
    rintro e W5 ⟨rfl, ⟨col5, X5, iv5, iv05, V05, hr5, hx5⟩, hk5⟩
    have y6 := hr5.ao.x11.cell
    have hz5 : W14.heap.size + (c1 + 2) ≤ W5.heap.size := Nat.le_trans HZ.out hk5.size
    obtain ⟨vo, vn, vc, w6, hap, hn6, hk6, e6, f6⟩ := hr5.app HP1.out hz5 (.slice xo xn xc) (iN ((GL R 24).getD k [])) hx5.srcI (by have h9 := HLim1.out; have := HTk.out; have := HLx.out; have := HLk.out; simp only [List.length_append] at h9 ⊢; omega)
    generalize hw6 : w6.setCell ⟨W0.heap.size + 1, 0, none⟩ (.slice vo vn vc) = W6 at *
    obtain ⟨q, hq⟩ : ∃ q, 0 + k = q := ⟨_, rfl⟩
    have ek : ((q + 1 : Nat) : Int) = (q : Int) + 1 := by omega
    have hqI : (q : Int) ≤ 10 := by have := HLim1.out; have := HLk.out; omega
    have y7 := hn6.k.facts.1
    have y8 := hn6.k.facts.2.1
    have hs := hn6.setk HP1.out (0 + k + 1)
    rw [hq] at y7 hs
    rw [ek] at hs
    have y9 := hs.1.k.facts.1
    rw [ek] at y9
    have hkk := (hk5.trans hk6).trans hs.2
    generalize hw7 : W6.setCell ⟨Kz, 0, none⟩ (.int .i64 ((q : Int) + 1)) = W7 at *
    have HR7 := hid (R1.over (k := k) (G := GL R 24) (show RnA w1 W0 bb (PQ (PD w1 W0 bb Kz Ez []) W14.heap.size (c1 + 2)) col0 W0.heap.size (W0.heap.size + 1) Kz [] ((L0 ++ tkF (GL R 24) k) ++ iN ((GL R 24).getD k [])) (nv + 1 + 1 + k + 1) (0 + k + 1) W7 by rw [hq]; exact hs.1) (HKP.out.trans hkk.kpl) (Nat.le_trans (Nat.le_trans HQ1.out.2.1 (Nat.le_trans (Nat.le_add_right _ _) HZ.out)) hkk.size) HKl.out)
    have HM7 := hid (hkk.part (show Kz + 1 ≤ W11.heap.size by have := HSz.out; omega) (show W12.heap.size ≤ Ez by have := HSz.out; omega))
    have HQq := hid hq
    have HEK := hid ek
    clear hr5 hx5 hk5 hn6 hk6 hs hkk hq ek HGv HKP y5 hz5
    by_cases hb : (q : Int) + 1 = 5
    · have hd : ((q : Int) + 1 == 5) = true := by simpa using hb
      have HB := hid hb
      clear hb
      gi_wp2_with fail
      exact .inr ⟨rfl, HM7.out, R1x.of HR7.out (by have := HB.out; have := HQq.out; have := HLk.out; have := HLim1.out; omega) HKl.out⟩
    · have hd : ((q : Int) + 1 == 5) = false := by simpa using hb
      have HB := hid hb
      clear hb
      gi_wp2_with fail
      exact .inl ⟨rfl, HM7.out, HR7.out, by have := HB.out; have := HQq.out; have := HLk.out; have := HLim1.out; omega⟩
  case go1 =>
    intro V1 hG hK
    have HV1 := hid (RnA.close (show RF _ _ _ _ _ _ _ _ _ _ _ _ _ from hG).rn (Nat.zero_lt_succ _) hK)
    have HKv2 := hid (show KpL (Kz + 1) Ez W14 V1 from hG.kp)
    have HD1 := hid (show W14.heap.size < V1.heap.size from (Array.getElem?_eq_some_iff.1 hK).1)
    clear hG hK
    obtain ⟨m, hm⟩ : ∃ m, min 5 (GL R 24).length = m := ⟨_, rfl⟩
    have HMm := hid (show m ≤ 5 by omega)
    have HT1 := hid (show (tkF (GL R 24) m).length ≤ 24 * m from tkF_len R 24 m)
    rw [hm] at HV1 HLe
    clear hm
    gi_wp2_with fail
    refine ⟨trivial, (callsIn_wide.2 (HWh.out _ _ _)).mono ?_⟩
    rintro e wz ⟨rfl, hwz⟩
    replace hwz := hwz.symm
    subst hwz
    have HQ2 := hid (show Kz < Ez ∧ Ez ≤ V1.heap.size ∧ (∀ p, p ∈ [W14.heap.size] → Ez ≤ p ∧ p < V1.heap.size) from ⟨HQ1.out.1, by have := HD1.out; have := HQ1.out; omega, fun p hp => by rcases List.mem_cons.1 hp with rfl | hp; exact ⟨HQ1.out.2.1, HD1.out⟩; cases hp⟩)
    have HP2 := hid (pd_prr HAP.out HSz.out.1 HQ2.out.1 HQ2.out.2.1 HQ2.out.2.2 (Nat.lt_succ_self Kz) (Nat.le_refl Ez) (c2 + 2))
    have HF2 := hid (show RF w1 W0 W14 bb (PQ (PD w1 W0 bb Kz Ez [W14.heap.size]) V1.heap.size (c2 + 2)) col0 Kz Ez [W14.heap.size] (L0 ++ tkF (GL R 24) m) (nv + 1 + 1 + m) (0 + m) V1 from ⟨HV1.out.open HAP.out HSz.out.1 HQ2.out.1 HQ2.out.2.1 HQ2.out.2.2 _, HKv2.out, HQ2.out.2.1⟩)
    have HKq2 := hid (show KpL W12.heap.size W13.heap.size W13 V1 from HKw.out.2.1.trans (HKv2.out.part (by have := HSz.out; omega) (by have := HSz.out; omega)))
    have HBz2 := hid (show W13.heap.size ≤ V1.heap.size by have := HSz.out; have := HQ2.out; omega)
    have HLim2 := hid (show 0 < 10 - m ∧ 0 + m + 10 - m ≤ 10 ∧ nv + 1 + 1 + m ≤ 1000050 ∧ ((L0 ++ tkF (GL R 24) m)).length ≤ 1200 from ⟨by have := HMm.out; omega, by have := HMm.out; omega, by have := HMm.out; omega, by have := HMm.out; have := HT1.out; have := HLn.out; simp only [List.length_append]; omega⟩)
    gi_wp2_with fail
    refine range_c3 (q := 21) (w0 := W13) (gf := g2) (lb := l2) (c := c2) (Lo := W12.heap.size) (B0 := W13.heap.size) (n := (GL R 1).length) (D := fun k A v W => OwI W A.heap.size v (iN ((GL R 1).getD k []))) rfl HS2.out.eg HS2.out.sq HKq2.out HBz2.out (fun k W => R1a w1 W0 W14 bb (PQ (PD w1 W0 bb Kz Ez [W14.heap.size]) V1.heap.size (c2 + 2)) col0 Kz Ez [W14.heap.size] (L0 ++ tkF (GL R 24) m) (GL R 1) (nv + 1 + 1 + m) (0 + m) (10 - m) k W) (fun _ W => R1x w1 W0 W14 bb (PQ (PD w1 W0 bb Kz Ez [W14.heap.size]) V1.heap.size (c2 + 2)) col0 Kz Ez [W14.heap.size] (L0 ++ tkF (GL R 24) m) (GL R 1) (nv + 1 + 1 + m) (0 + m) (10 - m) W) ?hI2 ?hIx2 (R1a.start HF2.out HLim2.out.1) ?assign2 ?body2 (fun W => R1g w1 W0 W14 bb (PQ (PD w1 W0 bb Kz Ez [W14.heap.size]) V1.heap.size (c2 + 2)) col0 Kz Ez [W14.heap.size] (L0 ++ tkF (GL R 24) m) (GL R 1) (nv + 1 + 1 + m) (0 + m) (10 - m) W) ?hd2 ?hs2 ?go2
    case hI2 =>
      rintro k X X' ⟨h1, h2⟩ hc
      exact ⟨h1.chg HP2.out (Nat.le_refl _) HQ2.out.2.1 hc, h2⟩
    case hIx2 =>
      rintro k X X' ⟨h1, h2⟩ hc
      exact ⟨h1.chg HP2.out (Nat.le_refl _) HQ2.out.2.1 hc, h2⟩
    case hd2 => exact fun W h => R1a.g h
    case hs2 => exact fun k W h => R1x.g h
    case assign2 =>
      intro l x W K hK
      have HKK := hid hK
      clear hK
      gi_wp2
      exact HKK.out
    case body2 =>
      intro l k x Aw W1 W hI hk hAW hD hc hz hsz
      obtain ⟨hI, hlim⟩ := hI
      have hzA : V1.heap.size + (c2 + 2) ≤ Aw.heap.size := by omega
      obtain ⟨col, X, iv, iv0, V, V0, av, ho, hx⟩ := hI.rn.enter HP2.out (by omega) hzA hAW hD hc
      obtain ⟨xo, xc, hxv⟩ := hx.sl
      have hl24 := gl_len R 1 k
      have htk := tkF_len R 1 k
      generalize hxn : (iN ((GL R 1).getD k [])).length = xn at hxv
      subst hxv
      have HKP := hid (show KpL (Kz + 1) Ez W14 W from (hI.kp.trans (KpL.of_below hAW hI.sz)).chg HQ2.out.2.1 (Nat.le_trans hI.sz hAW.size) hc)
      have HZ := hid (show V1.heap.size + (c2 + 2) ≤ W.heap.size by have := hAW.size; omega)
      have y5 := ho.ao.x5.cell
      have HGv := hid (ho.give HP2.out HZ.out _ _ hx (by omega) (by have := HLim2.out; omega))
      have HLk := hid hlim
      have HKl := hid hk
      have HLx := hid hl24
      have HTk := hid htk
      clear hI hk hAW hD hc hz hsz hzA ho hx hlim hl24 htk hxn
      simp only [List.setIfInBounds_toArray, List.set_cons_succ, List.set_cons_zero]
      gi_wp2_with fail
      refine ⟨trivial, ((callsIn_wide.2 HGv.out).inRound l).mono ?_⟩
      rintro e W5 ⟨rfl, ⟨col5, X5, iv5, iv05, V05, hr5, hx5⟩, hk5⟩
      have y6 := hr5.ao.x11.cell
      have hz5 : V1.heap.size + (c2 + 2) ≤ W5.heap.size := Nat.le_trans HZ.out hk5.size
      obtain ⟨vo, vn, vc, w6, hap, hn6, hk6, e6, f6⟩ := hr5.app HP2.out hz5 (.slice xo xn xc) (iN ((GL R 1).getD k [])) hx5.srcI (by have h9 := HLim2.out; have := HTk.out; have := HLx.out; have := HLk.out; simp only [List.length_append] at h9 ⊢; omega)
      generalize hw6 : w6.setCell ⟨W0.heap.size + 1, 0, none⟩ (.slice vo vn vc) = W6 at *
      obtain ⟨q, hq⟩ : ∃ q, 0 + m + k = q := ⟨_, rfl⟩
      have ek : ((q + 1 : Nat) : Int) = (q : Int) + 1 := by omega
      have hqI : (q : Int) ≤ 10 := by have := HLim2.out; have := HLk.out; omega
      have y7 := hn6.k.facts.1
      have y8 := hn6.k.facts.2.1
      have hs := hn6.setk HP2.out (0 + m + k + 1)
      rw [hq] at y7 hs
      rw [ek] at hs
      have y9 := hs.1.k.facts.1
      rw [ek] at y9
      have hkk := (hk5.trans hk6).trans hs.2
      generalize hw7 : W6.setCell ⟨Kz, 0, none⟩ (.int .i64 ((q : Int) + 1)) = W7 at *
      have HR7 := hid (R1.over (k := k) (G := GL R 1) (show RnA w1 W0 bb (PQ (PD w1 W0 bb Kz Ez [W14.heap.size]) V1.heap.size (c2 + 2)) col0 W0.heap.size (W0.heap.size + 1) Kz [W14.heap.size] (((L0 ++ tkF (GL R 24) m) ++ tkF (GL R 1) k) ++ iN ((GL R 1).getD k [])) (nv + 1 + 1 + m + k + 1) (0 + m + k + 1) W7 by rw [hq]; exact hs.1) (HKP.out.trans hkk.kpl) (Nat.le_trans (Nat.le_trans HQ2.out.2.1 (Nat.le_trans (Nat.le_add_right _ _) HZ.out)) hkk.size) HKl.out)
      have HM7 := hid (hkk.part (show Kz + 1 ≤ W12.heap.size by have := HSz.out; omega) (show W13.heap.size ≤ Ez by have := HSz.out; omega))
      have HQq := hid hq
      have HEK := hid ek
      clear hr5 hx5 hk5 hn6 hk6 hs hkk hq ek HGv HKP y5 hz5
      by_cases hb : 10 ≤ (q : Int) + 1
      · have hd : decide (10 ≤ (q : Int) + 1) = true := by exact decide_eq_true hb
        have HB := hid hb
        clear hb
        gi_wp2_with fail
        exact .inr ⟨rfl, HM7.out, R1x.of HR7.out (by have := HB.out; have := HQq.out; have := HLk.out; have := HLim2.out; omega) HKl.out⟩
      · have hd : decide (10 ≤ (q : Int) + 1) = false := by exact decide_eq_false hb
        have HB := hid hb
        clear hb
        gi_wp2_with fail
        exact .inl ⟨rfl, HM7.out, HR7.out, by have := HB.out; have := HQq.out; have := HLk.out; have := HLim2.out; omega⟩
    case go2 =>
      intro V2 hG hK
      have HV2 := hid (RnA.close (show RF _ _ _ _ _ _ _ _ _ _ _ _ _ from hG).rn (Nat.zero_lt_succ _) hK)
      have HKv3 := hid (show KpL (Kz + 1) Ez W14 V2 from hG.kp)
      have HD2 := hid (show V1.heap.size < V2.heap.size from (Array.getElem?_eq_some_iff.1 hK).1)
      clear hG hK
      obtain ⟨m2, hm2⟩ : ∃ m2, min (10 - m) (GL R 1).length = m2 := ⟨_, rfl⟩
      have HM2 := hid (show m2 ≤ 10 - m by omega)
      rw [hm2] at HV2 HLe
      clear hm2
      obtain ⟨L3, hL3⟩ : ∃ L3, L0 ++ tkF (GL R 24) m ++ tkF (GL R 1) m2 = L3 := ⟨_, rfl⟩
      rw [hL3] at HV2 HLe
      clear hL3
      gi_wp2_with fail
      refine ⟨trivial, (callsIn_wide.2 (HWh.out _ _ _)).mono ?_⟩
      rintro e wz ⟨rfl, hwz⟩
      replace hwz := hwz.symm
      subst hwz
      have HQ3 := hid (show Kz < Ez ∧ Ez ≤ V2.heap.size ∧ (∀ p, p ∈ [V1.heap.size, W14.heap.size] → Ez ≤ p ∧ p < V2.heap.size) from ⟨HQ1.out.1, by have := HD2.out; have := HQ2.out.2.1; omega, fun p hp => by
        rcases List.mem_cons.1 hp with rfl | hp
        · exact ⟨HQ2.out.2.1, HD2.out⟩
        · rcases List.mem_cons.1 hp with rfl | hp
          · exact ⟨HQ1.out.2.1, by have := HD2.out; have := HD1.out; omega⟩
          · cases hp⟩)
      have HP3 := hid (pd_prr HAP.out HSz.out.1 HQ3.out.1 HQ3.out.2.1 HQ3.out.2.2 (Nat.lt_succ_self Kz) (Nat.le_refl Ez) (c3 + 2))
      have HF3 := hid (show RF w1 W0 W14 bb (PQ (PD w1 W0 bb Kz Ez [V1.heap.size, W14.heap.size]) V2.heap.size (c3 + 2)) col0 Kz Ez [V1.heap.size, W14.heap.size] L3 (nv + 1 + 1 + m + m2 + 0) (0 + m + m2) V2 from ⟨HV2.out.open HAP.out HSz.out.1 HQ3.out.1 HQ3.out.2.1 HQ3.out.2.2 _, HKv3.out, HQ3.out.2.1⟩)
      have HKq3 := hid (show KpL W13.heap.size W14.heap.size W14 V2 from HKv3.out.part (by have := HSz.out; omega) (by rw [HEz.out]; exact Nat.le_refl _))
      have HBz3 := hid (show W14.heap.size ≤ V2.heap.size by have := HEz.out; have := HQ3.out.2.1; omega)
      gi_wp2_with fail
      refine range_c4 (q := 22) (w0 := W14) (gf := g3) (lb := l3) (c := c3) (Lo := W13.heap.size) (B0 := W14.heap.size) (n := 27) (D := fun k A v W => OwI W A.heap.size v (dig 3 k 3)) rfl HS3.out.eg HS3.out.sq HKq3.out HBz3.out (fun k W => RF w1 W0 W14 bb (PQ (PD w1 W0 bb Kz Ez [V1.heap.size, W14.heap.size]) V2.heap.size (c3 + 2)) col0 Kz Ez [V1.heap.size, W14.heap.size] L3 (nv + 1 + 1 + m + m2 + k) (0 + m + m2) W) ?hI3 HF3.out ?assign3 ?body3 ?hd3
      case hI3 => exact fun k X X' h hc => h.chg HP3.out (Nat.le_refl _) HQ3.out.2.1 hc
      case assign3 =>
        intro l x W K hK
        have HKK := hid hK
        clear hK
        gi_wp2
        exact HKK.out
      case body3 =>
        intro l k x Aw W1 W hI hk hAW hD hc hz hsz
        have hzA : V2.heap.size + (c3 + 2) ≤ Aw.heap.size := by omega
        obtain ⟨col, X, iv, iv0, V, V0, av, ho, hx⟩ := hI.rn.enter HP3.out (by omega) hzA hAW hD hc
        obtain ⟨xo, xc, hxv⟩ := hx.sl
        generalize hxn : (dig 3 k 3).length = xn at hxv
        subst hxv
        have hd3 : xn = 3 := hxn.symm.trans (dig_len 3 3 k)
        have HKP := hid (show KpL (Kz + 1) Ez W14 W from (hI.kp.trans (KpL.of_below hAW hI.sz)).chg HQ3.out.2.1 (Nat.le_trans hI.sz hAW.size) hc)
        have HZ := hid (show V2.heap.size + (c3 + 2) ≤ W.heap.size by have := hAW.size; omega)
        have y5 := ho.ao.x5.cell
        have HGv := hid (ho.give HP3.out HZ.out _ _ hx (by omega) (by have := HMm.out; have := HM2.out; omega))
        clear hI hk hAW hD hc hz hsz hzA ho hx hxn hd3
        simp only [List.setIfInBounds_toArray, List.set_cons_succ, List.set_cons_zero]
        gi_wp2_with fail
        refine ⟨trivial, ((callsIn_wide.2 HGv.out).inRound l).mono ?_⟩
        rintro e W5 ⟨rfl, ⟨col5, X5, iv5, iv05, V05, hr5, hx5⟩, hk5⟩
        have HR5 := hid (show RF w1 W0 W14 bb (PQ (PD w1 W0 bb Kz Ez [V1.heap.size, W14.heap.size]) V2.heap.size (c3 + 2)) col0 Kz Ez [V1.heap.size, W14.heap.size] L3 (nv + 1 + 1 + m + m2 + (k + 1)) (0 + m + m2) W5 from ⟨hr5.rn, HKP.out.trans hk5.kpl, Nat.le_trans (Nat.le_trans HQ3.out.2.1 (Nat.le_trans (Nat.le_add_right _ _) HZ.out)) hk5.size⟩)
        have HM5 := hid (hk5.part (show Kz + 1 ≤ W13.heap.size by have := HSz.out; omega) (show W14.heap.size ≤ Ez by rw [HEz.out]; exact Nat.le_refl _))
        clear hr5 hx5 hk5 HGv HKP y5
        gi_wp2_with fail
        exact .inl ⟨rfl, HM5.out, HR5.out⟩
      case hd3 =>
        intro V3 hG hK
        obtain ⟨v, hv, hend⟩ := AN.end HAP.out hG.rn.an HP3.out.pa (by have := HMm.out; have := HM2.out; omega)
        rw [← HLe.out] at hend
        have hend2 := hend (((V3.putObj V2.heap.size (.deferred none)).putObj V1.heap.size (.deferred none)).putObj W14.heap.size (.deferred none)) _ rfl
        have o1 : W14.heap.size < V1.heap.size := HD1.out
        have o2 : V1.heap.size < V2.heap.size := HD2.out
        have HKa := hid hK
        have k2 := hG.rn.dl V1.heap.size (by simp)
        have k3 := hG.rn.dl W14.heap.size (by simp)
        have HKb := hid (show (V3.putObj V2.heap.size (.deferred none)).heap[V1.heap.size]? = some (.deferred (some [])) from (World.putObj_heap_other (by omega)).trans k2)
        have HKc := hid (show ((V3.putObj V2.heap.size (.deferred none)).putObj V1.heap.size (.deferred none)).heap[W14.heap.size]? = some (.deferred (some [])) from (World.putObj_heap_other (by omega)).trans ((World.putObj_heap_other (by omega)).trans k3))
        have HZZ := hid (drop_defer (Z := fun g => g = V2.heap.size ∨ g = V1.heap.size ∨ g = W14.heap.size) (drop_defer (drop_defer (W := V3) (WF := V3) ⟨rfl, rfl, rfl, Nat.le_refl _, fun _ _ _ => rfl⟩ V2.heap.size (.inl rfl)) V1.heap.size (.inr (.inl rfl))) W14.heap.size (.inr (.inr rfl)))
        have HZ0 := hid (show ∀ g, (g = V2.heap.size ∨ g = V1.heap.size ∨ g = W14.heap.size) → PQ (PD w1 W0 bb Kz Ez [V1.heap.size, W14.heap.size]) V2.heap.size (c3 + 2) g ∧ g ≠ bb ∧ w1.heap.size ≤ g ∧ W0.heap.size ≤ g ∧ g ≠ W0.heap.size ∧ g ≠ W0.heap.size + 1 from fun g hg => by
          have h1 := HAP.out.lt
          have h2 := HAP.out.be.size
          have h3 := HSz.out
          have h4 := HQ1.out.2.1
          refine ⟨?_, by omega, by omega, by omega, by omega, by omega⟩
          rcases hg with rfl | rfl | rfl
          · exact .inr ⟨Nat.le_refl _, by omega⟩
          · exact .inl (.inr (.inr (by simp)))
          · exact .inl (.inr (.inr (by simp))))
        have HEd := hid (hend2 ⟨_, HZ0.out, HZZ.out⟩)
        clear hend hend2 hG hK k2 k3 o1 o2 HV2 HF3 HS3
        gi_wp2_with fail
        refine ⟨by simp, .inl ⟨_, _, rfl, run_takeDeferred HKa.out, ?_⟩⟩
        refine ⟨by simp, .inl ⟨_, _, rfl, run_takeDeferred HKb.out, ?_⟩⟩
        refine ⟨by simp, .inl ⟨_, _, rfl, run_takeDeferred HKc.out, ?_⟩⟩
        refine ⟨_, results_tmp (t := 10) rfl _ _ _, ?_⟩
        exact HEd.out
end Go.Proofs.Ytaiccmbhdgecgaa

namespace Go.Proofs.Ytaiccmbhdgecgaa
open Go.RowKit Go.Shelf
set_option maxRecDepth 100000
set_option linter.unusedVariables false
set_option linter.unusedSimpArgs false
attribute [local go_sem] Oper.semAt_some

def zBo : Array Value := #[.slice none 0 0, .slice none 0 0, .slice none 0 0, .slice none 0 0, .slice none 0 0, .slice none 0 0, .slice none 0 0, .slice none 0 0, .slice none 0 0, .slice none 0 0, .slice none 0 0, .slice none 0 0, .slice none 0 0, .slice none 0 0]
theorem anp_start (w1 : World) : AnP w1 (w1.alloc (.cells zBo 53)) w1.heap.size (fun _ => 14) 0 := by
  refine ⟨⟨fun _ => [], .slice none 0 0, .slice none 0 0, [], [], ⟨heap_alloc_new w1 _, ⟨Ow.nil _ _ _ _, RwG.nil _ _ _ _ _ _ _ _ _⟩, Ow.nil _ _ _ _, RwG.nil _ _ _ _ _ _ _ _ _, rfl, rfl, by simp, fun j => by simp⟩, by simp⟩, alloc_below _ _, Nat.le_refl _, fun g => by decide, fun g hg => rfl⟩
theorem AnP.bel {w1 W0 W : World} {bb : Nat} {col : Nat → Nat} {nv : Nat} (h : AnP w1 W0 bb col nv) (hf : FrB col bb W0 W) : Below w1.heap.size w1 W :=
  h.be.trans ⟨hf.os, hf.tape, hf.output, hf.size, fun g hg => hf.block g (Nat.lt_of_lt_of_le hg h.be.size) (fun e => by have := h.ge; omega) (by rw [h.old g hg]; decide) (by rw [h.old g hg]; decide)⟩
/-- a call with what came in -/
theorem ans_old {w1 W0 : World} {bb : Nat} {col : Nat → Nat} {nv : Nat} {sv pv qv : Value} {R K : List Int} {Pk : List Pr} {n : Int} (hp : AnP w1 W0 bb col nv) (hnv : nv ≤ 1000000) (hR : RI w1 sv R) (hK : RI w1 pv K) (hQ : PL w1 qv Pk) (hRl : R.length ≤ 9223372036854775807) (hKl : K.length ≤ 9223372036854775807) (hQl : Pk.length ≤ 9223372036854775807) (hn : -9223372036854775808 ≤ n ∧ n ≤ 9223372036854775807) :
    Calls Try.prog 27 #[.pointer (some ⟨bb, 0, none⟩), sv, .int .i64 n, pv, qv] W0 fun e W' => AnsA w1 W0 bb col nv (ansL R n K Pk) e W' :=
  answers_any w1 W0 bb col nv sv pv qv R K Pk n hp hnv (fun W h => RI.below (w := w1) hR (hp.bel h)) (fun W h => RI.below (w := w1) hK (hp.bel h)) (fun W h => PL.below (w := w1) hQ (hp.bel h)) hRl hKl hQl hn
/-- a call with two lists of the law's own -/
theorem ans_lit {w1 W0 : World} {bb : Nat} {col : Nat → Nat} {nv : Nat} {qv : Value} {Pk : List Pr} (hp : AnP w1 W0 bb col nv) (hnv : nv ≤ 1000000) (hQ : PL w1 qv Pk) (hQl : Pk.length ≤ 9223372036854775807) :
    Calls Try.prog 27 #[.pointer (some ⟨bb, 0, none⟩), .slice (some ⟨W0.heap.size, 0, none⟩) 3 3, .int .i64 3, .slice (some ⟨W0.heap.size + 1, 0, none⟩) 3 3, qv] ((W0.alloc (.cells #[.int .i64 1, .int .i64 2, .int .i64 1] 3)).alloc (.cells #[.int .i64 1, .int .i64 0, .int .i64 2] 3)) fun e W' => AnsA w1 W0 bb col nv (ansL [1, 2, 1] 3 [1, 0, 2] Pk) e W' := by
  have hlt := hp.lt
  obtain ⟨W, hW⟩ : ∃ W, (W0.alloc (.cells #[.int .i64 1, .int .i64 2, .int .i64 1] 3)).alloc (.cells #[.int .i64 1, .int .i64 0, .int .i64 2] 3) = W := ⟨_, rfl⟩
  have hb : Below W0.heap.size W0 W := by rw [← hW]; exact ((Below.refl _ _).alloc (Nat.le_refl _) _).alloc (by simp) _
  have hz : W.heap.size = W0.heap.size + 2 := by rw [← hW]; simp
  have x1 : W.heap[W0.heap.size]? = some (.cells (ic [1, 2, 1]).toArray 3 (0, 0)) := by
    rw [← hW]
    exact (Lib.alloc_old _ _ _ (by simp)).trans (heap_alloc_new W0 _)
  have x2 : W.heap[W0.heap.size + 1]? = some (.cells (ic [1, 0, 2]).toArray 3 (0, 0)) := by
    rw [← hW]
    have := heap_alloc_new (W0.alloc (.cells #[.int .i64 1, .int .i64 2, .int .i64 1] 3)) (.cells #[.int .i64 1, .int .i64 0, .int .i64 2] 3)
    simp only [World.size_alloc] at this
    exact this
  rw [hW]
  obtain ⟨cl, e, en⟩ : ∃ cl : Nat → Nat, (∀ g, g < W0.heap.size → cl g = col g) ∧ (∀ g, W0.heap.size ≤ g → cl g = 14) := ⟨fun g => if W0.heap.size ≤ g then 14 else col g, fun g hg => if_neg (by omega), fun g hg => if_pos hg⟩
  have hp2 : AnP w1 W bb cl nv := by
    obtain ⟨X, iv, iv0, V, V0, hbk, hv⟩ := hp.ex
    refine ⟨⟨X, iv, iv0, V, V0, (hbk.recol e).later hb, hv⟩, hp.be.trans (hb.mono hp.be.size), hp.ge, fun g => ?_, fun g hg => (e g (Nat.lt_of_lt_of_le hg hp.be.size)).trans (hp.old g hg)⟩
    by_cases hg : W0.heap.size ≤ g
    · rw [en g hg]; decide
    · rw [e g (by omega)]; exact hp.n18 g
  have hlit : ∀ (g : Nat) (L : List Int) (W' : World), W0.heap.size ≤ g → W.heap[g]? = some (.cells (ic L).toArray 3 (0, 0)) → L.length ≤ 3 → FrB cl bb W W' → RI W' (.slice (some ⟨g, 0, none⟩) L.length 3) L := fun g L W' hg hx hl hf =>
    RI.block ((hf.block g (Array.getElem?_eq_some_iff.1 hx).1 (by omega) (by rw [en g hg]; decide) (by rw [en g hg]; decide)).trans hx) hl
  refine (answers_any w1 W bb _ nv _ _ qv [1, 2, 1] [1, 0, 2] Pk 3 hp2 hnv (fun W' h => hlit _ [1, 2, 1] W' (Nat.le_refl _) x1 (by decide) h) (fun W' h => hlit _ [1, 0, 2] W' (by omega) x2 (by decide) h) (fun W' h => PL.below (w := w1) hQ (hp2.bel h)) (by decide) (by decide) hQl (by decide)).mono ?_
  rintro e2 W' ⟨col', v, rfl, h1, h2, h3, h4⟩
  refine ⟨col', v, rfl, h1, h2, ⟨h3.os.trans hb.os, h3.tape.trans hb.tape, h3.output.trans hb.output, Nat.le_trans hb.size h3.size, fun g hg a b c => (h3.block g (by omega) a (by rw [e g hg]; exact b) (by rw [e g hg]; exact c)).trans (hb.block g hg)⟩, fun g hg => (h4 g (by omega)).trans (e g hg)⟩
/-- what was answered earlier stays -/
theorem AnsA.keep {w1 W0 : World} {bb : Nat} {col : Nat → Nat} {nv : Nat} {col' : Nat → Nat} {W' : World} {base : Nat} {v : Value} {M : List Int} (hp : AnP w1 W0 bb col nv) (hf : FrB col bb W0 W') (hc : ∀ g, g < W0.heap.size → col' g = col g) (ho : Ow eN 1 3 col 22 W0 base v M) : Ow eN 1 3 col' 22 W' base v M := by
  have hcb : col bb = 14 := by
    obtain ⟨X, iv, iv0, V, V0, hbk, hv⟩ := hp.ex
    exact hbk.cb
  refine (ho.recol hc).keep fun g hg => ?_
  have hcg := ho.2 g hg
  exact hf.block g (ho.lt g hg).2 (fun e => by rw [e, hcb] at hcg; cases hcg) (by rw [hcg]; decide) (by rw [hcg]; decide)
theorem AnP.apart {w1 W : World} {bb : Nat} {col : Nat → Nat} {nv : Nat} (h : AnP w1 W bb col nv) : Calls Try.prog 28 #[.pointer (some ⟨bb, 0, none⟩)] W fun e w' => e = .returned (.bool true) ∧ Bx w1.heap.size col W w' := by
  obtain ⟨X, iv, iv0, V, V0, hbk, hv⟩ := h.ex
  exact apartI_any W w1.heap.size bb col iv iv0 V V0 X hbk h.be.size
theorem same_yes {v p : Value} {R : List Int} {w : World} (hv : RI w v R) (hp : RI w p R) (hl : R.length ≤ 9223372036854775807) : Calls Try.prog 21 #[v, p] w fun e w' => e = .returned (.bool true) ∧ Below w.heap.size w w' := by
  refine (same_any v p R R w hv hp hl hl).mono ?_
  rintro e w' ⟨⟨b, rfl, hb⟩, h⟩
  obtain rfl : b = true := hb.2 rfl
  exact ⟨rfl, h⟩
theorem ow_le {col : Nat → Nat} {c : Nat} {w : World} {B : Nat} {v : Value} {L : List Int} (h : Ow eN 1 3 col c w B v L) : L.length ≤ 9223372036854775807 := by
  obtain ⟨ao, cap, _, _, hm⟩ := h.len
  unfold maxLen at hm
  omega
set_option maxHeartbeats 8000000 in
theorem own_law (sv pv qv : Value) (R K : List Int) (Pk : List Pr) (n : Int) (w : World) (hR : RI w sv R) (hK : RI w pv K) (hQ : PL w qv Pk) (hRl : R.length ≤ 9223372036854775807) (hKl : K.length ≤ 9223372036854775807) (hQl : Pk.length ≤ 9223372036854775807) (hn : -9223372036854775808 ≤ n ∧ n ≤ 9223372036854775807) :
    Calls Try.prog 7 #[sv, .int .i64 n, pv, qv] w fun e w' => e = .returned (.bool true) ∧ Below w.heap.size w w' := by
  have HLi := hid (lives_any w)
  obtain ⟨so, sl, sc, hsv⟩ : ∃ so sl sc, sv = .slice so sl sc := by
    obtain ⟨a, c, h⟩ := hR.len0
    exact ⟨a, _, c, h⟩
  obtain ⟨po, pl, pc, hpv⟩ : ∃ so sl sc, pv = .slice so sl sc := by
    obtain ⟨a, c, h⟩ := hK.len0
    exact ⟨a, _, c, h⟩
  obtain ⟨qo, ql, qc, hqv⟩ : ∃ so sl sc, qv = .slice so sl sc := by
    obtain ⟨a, c, h, _⟩ := hQ
    exact ⟨a, _, c, h⟩
  subst hsv hpv hqv
  have HOld := hid (fun (w1 W0 : World) (bb : Nat) (col : Nat → Nat) (nv : Nat) (hb : Below w.heap.size w w1) (hp : AnP w1 W0 bb col nv) (hnv : nv ≤ 1000000) => ans_old (n := n) hp hnv (RI.below (w := w) hR hb) (RI.below (w := w) hK hb) (PL.below (w := w) hQ hb) hRl hKl hQl hn)
  have HLit := hid (fun (w1 W0 : World) (bb : Nat) (col : Nat → Nat) (nv : Nat) (hb : Below w.heap.size w w1) (hp : AnP w1 W0 bb col nv) (hnv : nv ≤ 1000000) => ans_lit hp hnv (PL.below (w := w) hQ hb) hQl)
  obtain ⟨L1, hL1⟩ : ∃ L1, ansL R n K Pk = L1 := ⟨_, rfl⟩
  obtain ⟨L2, hL2⟩ : ∃ L2, ansL [1, 2, 1] 3 [1, 0, 2] Pk = L2 := ⟨_, rfl⟩
  rw [hL1] at HOld
  rw [hL2] at HLit
  clear hR hK hQ hL1 hL2
  go_enter Try.func7, Try.ntmps7
  go_wp2_with fail
  refine Calls.mono HLi.out ?_
  rintro e w1 ⟨rfl, hb1⟩
  have HB1 := hid hb1
  have HP1 := hid (anp_start w1)
  clear hb1 HLi
  obtain ⟨W1, hW1⟩ : ∃ W1, w1.alloc (.cells zBo 53) = W1 := ⟨_, rfl⟩
  rw [hW1] at HP1
  unfold zBo at hW1
  have HA1 := hid (HOld.out w1 W1 w1.heap.size _ 0 HB1.out HP1.out (by omega))
  have HW1 := hid hW1
  clear hW1
  go_wp2_with fail
  rw [HW1.out]
  refine Calls.mono HA1.out ?_
  rintro e W2 ⟨col2, v1, rfl, hp2, ho2, hf2, hc2⟩
  obtain ⟨v1o, v1c, hv1⟩ := ho2.sl
  generalize L1.length = v1n at hv1
  subst hv1
  have HO2 := hid ho2
  have HP2 := hid hp2
  have HA2 := hid (HLit.out w1 W2 w1.heap.size _ _ HB1.out hp2 (by omega))
  clear hp2 ho2 hf2 hc2 HA1 HW1 HP1
  go_wp2_with fail
  refine Calls.mono HA2.out ?_
  rintro e W3 ⟨col3, v2, rfl, hp3, ho3, hf3, hc3⟩
  have ho3b := AnsA.keep HP2.out hf3 hc3 HO2.out
  obtain ⟨v2o, v2c, hv2⟩ := ho3.sl
  generalize L2.length = v2n at hv2
  subst hv2
  have HO3 := hid ho3
  have HO3b := hid ho3b
  have HP3 := hid hp3
  have HA3 := hid (HOld.out w1 W3 w1.heap.size _ _ HB1.out hp3 (by omega))
  clear hp3 ho3 ho3b hf3 hc3 HA2 HP2 HO2
  go_wp2_with fail
  refine Calls.mono HA3.out ?_
  rintro e W4 ⟨col4, v3, rfl, hp4, ho4, hf4, hc4⟩
  have ho4b := AnsA.keep HP3.out hf4 hc4 HO3b.out
  have ho4c := AnsA.keep HP3.out hf4 hc4 HO3.out
  obtain ⟨v3o, v3c, hv3⟩ := ho4.sl
  generalize L1.length = v3n at hv3
  subst hv3
  have HO4b := hid ho4b
  have HO4c := hid ho4c
  have HP4 := hid hp4
  have HS4 := hid (same_yes ho4b.ri ho4.ri (ow_le ho4))
  clear hp4 ho4 ho4b ho4c hf4 hc4 HA3 HP3 HO3 HO3b
  go_wp2_with fail
  refine Calls.mono HS4.out ?_
  rintro e W5 ⟨rfl, hb5⟩
  obtain ⟨X, iv, iv0, Vl, V0, hbk, hv⟩ := HP4.out.ex
  have HAp := hid (apartI_any W5 w1.heap.size w1.heap.size col4 iv iv0 Vl V0 X (hbk.later hb5) (Nat.le_trans HP4.out.be.size hb5.size))
  have HO5b := hid (show Ow eN 1 3 col4 22 W5 w1.heap.size (.slice v1o v1n v1c) L1 from HO4b.out.later hb5)
  have HO5c := hid (show Ow eN 1 3 col4 22 W5 w1.heap.size (.slice v2o v2n v2c) L2 from HO4c.out.later hb5)
  have HB5 := hid (HP4.out.be.trans (hb5.mono HP4.out.be.size))
  clear hbk hv hb5 HS4 HP4 HO4b HO4c
  go_wp2_with fail
  refine Calls.mono HAp.out ?_
  rintro e W6 ⟨rfl, hBx⟩
  have hkp : ∀ {v : Value} {L : List Int}, Ow eN 1 3 col4 22 W5 w1.heap.size v L → Ow eN 1 3 col4 22 W6 w1.heap.size v L := fun ho => ho.keep fun g hg => hBx.oth g (ho.lt g hg).2 (by rw [ho.2 g hg]; decide)
  have HO6b := hid (hkp HO5b.out)
  have HO6c := hid (hkp HO5c.out)
  have HB6 := hid (show Below w.heap.size w W6 from HB1.out.trans ((HB5.out.trans hBx.bel).mono HB1.out.size))
  have HP6 := hid (anp_start W6)
  clear hkp hBx HAp HO5b HO5c HB5
  obtain ⟨W7, hW7⟩ : ∃ W7, W6.alloc (.cells zBo 53) = W7 := ⟨_, rfl⟩
  rw [hW7] at HP6
  unfold zBo at hW7
  have HA7 := hid (HOld.out W6 W7 W6.heap.size _ 0 HB6.out HP6.out (by omega))
  have HW7 := hid hW7
  clear hW7
  go_wp2_with fail
  rw [HW7.out]
  refine Calls.mono HA7.out ?_
  rintro e W8 ⟨col8, v4, rfl, hp8, ho8, hf8, hc8⟩
  obtain ⟨v4o, v4c, hv4⟩ := ho8.sl
  generalize L1.length = v4n at hv4
  subst hv4
  have HP8 := hid hp8
  have HS8 := hid (same_yes ho8.ri (RI.below (w := W6) HO6b.out.ri hp8.be) (ow_le ho8))
  clear hp8 ho8 hf8 hc8 HA7 HW7 HP6
  go_wp2_with fail
  refine Calls.mono HS8.out ?_
  rintro e W9 ⟨rfl, hb9⟩
  have hp9 : AnP W6 W9 W6.heap.size col8 (0 + 100) := by
    obtain ⟨X, iv, iv0, Vl, V0, hbk, hv⟩ := HP8.out.ex
    exact ⟨⟨X, iv, iv0, Vl, V0, hbk.later hb9, hv⟩, HP8.out.be.trans (hb9.mono HP8.out.be.size), HP8.out.ge, HP8.out.n18, HP8.out.old⟩
  have HA9 := hid (HLit.out W6 W9 W6.heap.size _ _ HB6.out hp9 (by omega))
  clear hb9 hp9 HS8 HP8
  go_wp2_with fail
  refine Calls.mono HA9.out ?_
  rintro e W10 ⟨col10, v5, rfl, hp10, ho10, hf10, hc10⟩
  obtain ⟨v5o, v5c, hv5⟩ := ho10.sl
  generalize L2.length = v5n at hv5
  subst hv5
  have HP10 := hid hp10
  have HS10 := hid (same_yes ho10.ri (RI.below (w := W6) HO6c.out.ri hp10.be) (ow_le ho10))
  clear hp10 ho10 hf10 hc10 HA9
  go_wp2_with fail
  refine Calls.mono HS10.out ?_
  rintro e W11 ⟨rfl, hb11⟩
  obtain ⟨X, iv, iv0, Vl, V0, hbk, hv⟩ := HP10.out.ex
  have HAp := hid (apartI_any W11 W6.heap.size W6.heap.size col10 iv iv0 Vl V0 X (hbk.later hb11) (Nat.le_trans HP10.out.be.size hb11.size))
  have HB11 := hid (HP10.out.be.trans (hb11.mono HP10.out.be.size))
  clear hbk hv hb11 HS10 HP10
  go_wp2_with fail
  refine Calls.mono HAp.out ?_
  rintro e W12 ⟨rfl, hBx⟩
  have HE := hid (show Below w.heap.size w W12 from HB6.out.trans ((HB11.out.trans hBx.bel).mono HB6.out.size))
  clear hBx
  go_wp2_with fail
  go_ret
  exact ⟨rfl, HE.out⟩
end Go.Proofs.Ytaiccmbhdgecgaa
