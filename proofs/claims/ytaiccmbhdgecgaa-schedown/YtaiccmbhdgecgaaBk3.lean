/-
  Books: Ints holds a list of numbers.
-/
import Derived.Test.YtaiccmbhdgecgaaBk2
namespace Go.Proofs.Ytaiccmbhdgecgaa
open Go.RowKit
set_option maxRecDepth 100000
set_option linter.unusedVariables false
set_option linter.unusedSimpArgs false

/-- all lists of Books, a list ahead of being held beside them -/
structure Bk4 (col : Nat → Nat) (w : World) (B b : Nat) (V V0 : List Value) (X : Nat → List Int) (iv iv0 l : Value) (L : List Int) (n : Nat) : Prop where
  bb : BkB w b iv iv0
  o : Ow eV 1 22 col 2 w B iv V
  r : RwG eN 1 3 (fun j => 4 * j) col w B (fun j => j < n) V X
  o0 : Ow eV 1 22 col 6 w B iv0 V0
  r0 : RwG eN 1 3 (fun j => 4 * j + 1) col w B (fun j => j < n) V0 X
  ol : Ow eN 1 3 col (4 * n) w B l L
  cb : col b = 14
section
variable {col col' : Nat → Nat} {w w' : World} {B b : Nat} {V V0 : List Value} {X : Nat → List Int} {iv iv0 l : Value} {L : List Int} {n : Nat}
theorem Bk4.later (h : Bk4 col w B b V V0 X iv iv0 l L n) (hb : Below w.heap.size w w') : Bk4 col w' B b V V0 X iv iv0 l L n :=
  ⟨h.bb.later hb, h.o.later hb, h.r.later hb, h.o0.later hb, h.r0.later hb, h.ol.later hb, h.cb⟩
theorem Bk4.recol (h : Bk4 col w B b V V0 X iv iv0 l L n) (hc : ∀ g, g < w.heap.size → col' g = col g) : Bk4 col' w B b V V0 X iv iv0 l L n :=
  ⟨h.bb, h.o.recol hc, h.r.recol hc, h.o0.recol hc, h.r0.recol hc, h.ol.recol hc, (hc b h.bb.lt).trans h.cb⟩
end
def apII (a : Array Value) : Sem Value := Builtin.append_ #[48, 48] 48 a
theorem apII_op (a : Array Value) : Builtin.append_ #[48, 48] 48 a = apII a := rfl
def apI (a : Array Value) : Sem Value := Builtin.append_ #[22, 22] 22 a
theorem apI_op (a : Array Value) : Builtin.append_ #[22, 22] 22 a = apI a := rfl
attribute [local go_sem ↓] apII_op apI_op
set_option maxHeartbeats 8000000 in
theorem ints_any (w : World) (B b : Nat) (col : Nat → Nat) (iv iv0 l : Value) (V V0 : List Value) (X : Nat → List Int) (L : List Int) (h : BkI col w B b iv iv0 V V0 X) (hl : Ow eN 1 3 col (4 * V.length) w B l L) (hB : B ≤ w.heap.size) (hL : L.length ≤ 1000000000000) (hn : V.length + 1 ≤ 1000000000000) :
    Calls Try.prog 55 #[.pointer (some ⟨b, 0, none⟩), l] w fun e w' => IntsA col w B b V X l L e w' := by
  obtain ⟨lo, lc, hlv⟩ := hl.sl
  subst hlv
  obtain ⟨io, ic, hiv⟩ := h.i1.1.sl
  subst hiv
  obtain ⟨jo, jc, hjv⟩ := h.o0.sl
  rw [h.len] at hjv
  subst hjv
  have c4 := h.bb.c4
  -- the first append
  obtain ⟨wa, hwa⟩ : ∃ wa, w.alloc (.cells #[.slice lo L.length lc] 22) = wa := ⟨_, rfl⟩
  have ba : Below w.heap.size w wa := by rw [← hwa]; exact (Below.refl _ _).alloc (Nat.le_refl _) _
  have hza : wa.heap.size = w.heap.size + 1 := by rw [← hwa]; simp
  have hna : ∀ j u, (([.slice lo L.length lc] : List Value).flatMap eV)[j]? = some u → wa.cell? ((⟨w.heap.size, 0, none⟩ : Addr).add j) = some u := by rw [← hwa]; exact cell_newV w _ _
  have hBa : B ≤ wa.heap.size := by omega
  obtain ⟨v1, w2, col2, hap1, ho1, hk1, hg1, hr1, hc1⟩ := run_appD siinf Try.underlying48 rfl (by decide) eV_len (h.i1.1.later ba) (.slice (some ⟨w.heap.size, 0, none⟩) 1 1) [.slice lo L.length lc] (.inr ⟨_, 1, rfl, hna⟩) (fun x hx => by simp at hx; subst hx; simp [eV, Value.oneCell']) (by simp; omega) (by unfold maxLen; simp; omega) hBa 48
  have hba := h.bb.later ba
  have hcb1 : col2 b = 14 := (hc1 b hba.lt).trans h.cb
  have hbb2 : BkB w2 b (.slice io V.length ic) (.slice jo V.length jc) := (hg1.block b hba.lt (fun e => (h.i1.1.later ba).neB hba (by decide) e.symm)).trans hba
  have ne14 : ∀ {α : Type} {enc : α → List Value} {k : Nat} {t : TypeId} {cl : Nat → Nat} {c : Nat} {W : World} {v : Value} {M : List α} (o : Nat) (u : Value), cl b = 14 → c ≠ 14 → Ow enc k t cl c W B v M → Ow enc k t cl c (W.setCell ⟨b, o, none⟩ u) B v M := fun o u hcl hne ho => ho.other (gb_set _ b o u) (fun g e => by cases e; exact hcl) hne
  obtain ⟨w3, hw3⟩ : ∃ w3, w2.setCell ⟨b, 4, none⟩ v1 = w3 := ⟨_, rfl⟩
  have H3 : Bk4 col2 w3 B b (V ++ [.slice lo L.length lc]) V0 X v1 (.slice jo V.length jc) (.slice lo L.length lc) L V.length := by
    rw [← hw3]
    refine ⟨hbb2.set4 v1, ne14 4 v1 hcb1 (by decide) ho1, fun j hj hp => ?_, ne14 4 v1 hcb1 (by decide) ((h.o0.later ba).app hg1 hr1 hc1 (by decide)), fun j hj hp => ne14 4 v1 hcb1 (by (try dsimp only); omega) ((h.r0.later ba j hj trivial).app hg1 hr1 hc1 (by (try dsimp only); omega)), ne14 4 v1 hcb1 (by omega) ((hl.later ba).app hg1 hr1 hc1 (by omega)), hcb1⟩
    have hj' : j < V.length := hp
    rw [List.getElem_append_left hj']
    exact ne14 4 v1 hcb1 (by (try dsimp only); omega) ((h.i1.2.later ba j hj' trivial).app hg1 hr1 hc1 (by (try dsimp only); omega))
  have hz2 : w.heap.size + 1 ≤ w2.heap.size := by have := hg1.size; omega
  have hz3 : w3.heap.size = w2.heap.size := by rw [← hw3]; simp
  -- the copy
  obtain ⟨w4, hw4⟩ : ∃ w4, (w3.alloc (.cells #[] 3)).drew = w4 := ⟨_, rfl⟩
  have b4 : Below w3.heap.size w3 w4 := by rw [← hw4]; exact ((Below.refl _ _).alloc (Nat.le_refl _) _).drew
  have hz4 : w4.heap.size = w3.heap.size + 1 := by rw [← hw4]; show (w3.alloc _).heap.size = _; simp
  obtain ⟨col4, hcol4⟩ : ∃ c4, c4 = (fun g => if g = w3.heap.size then 4 * V.length + 1 else col2 g) := ⟨_, rfl⟩
  have hc4 : ∀ g, g < w3.heap.size → col4 g = col2 g := fun g hg => by rw [hcol4]; show (if g = w3.heap.size then _ else col2 g) = col2 g; rw [if_neg (by omega)]
  have H4 := (H3.recol hc4).later b4
  have hE : Ow eN 1 3 col4 (4 * V.length + 1) w4 B (.slice (some ⟨w3.heap.size, 0, none⟩) 0 0) [] := by
    refine ⟨?_, fun g hg => ?_⟩
    · have := World.ownsRow_made (base := B) (e := 3) (size := 1) w3 #[] 0 (by omega) (by unfold maxLen; omega) rfl
      rw [← hw4]
      exact this
    · have : g = w3.heap.size := by simpa [Value.ownBlock] using hg.symm
      subst this
      rw [hcol4]
      show (if w3.heap.size = w3.heap.size then _ else _) = _
      rw [if_pos rfl]
  obtain ⟨v5, w5, col5, hap2, ho5, hk5, hg5, hr5, hc5⟩ := run_appD iinf Try.underlying22 rfl (by decide) eN_len hE (.slice lo L.length lc) L H4.ol.srcI (fun x hx => eN_one x) (by simp; omega) (by unfold maxLen; simp; omega) (by omega) 22
  rw [List.nil_append] at ho5
  have hbb5 : BkB w5 b v1 (.slice jo V.length jc) := (hg5.block b H4.bb.lt (fun e => hE.neB H4.bb (by decide) e.symm)).trans H4.bb
  have H5 : Bk4 col5 w5 B b (V ++ [.slice lo L.length lc]) V0 X v1 (.slice jo V.length jc) (.slice lo L.length lc) L V.length :=
    ⟨hbb5, H4.o.app hg5 hr5 hc5 (by omega), fun j hj hp => (H4.r j hj hp).app hg5 hr5 hc5 (by (try dsimp only); omega), H4.o0.app hg5 hr5 hc5 (by omega), fun j hj hp => (H4.r0 j hj hp).app hg5 hr5 hc5 (by (try dsimp only); have : j < V.length := hp; omega), H4.ol.app hg5 hr5 hc5 (by omega), (hc5 b H4.bb.lt).trans H4.cb⟩
  obtain ⟨o5, c5, hv5⟩ := ho5.sl
  subst hv5
  obtain ⟨w6, hw6⟩ : ∃ w6, w5.alloc (.cells #[.slice o5 L.length c5] 22) = w6 := ⟨_, rfl⟩
  have b6 : Below w5.heap.size w5 w6 := by rw [← hw6]; exact (Below.refl _ _).alloc (Nat.le_refl _) _
  have hz6 : w6.heap.size = w5.heap.size + 1 := by rw [← hw6]; simp
  have hz5 : w4.heap.size ≤ w5.heap.size := hg5.size
  have hn6 : ∀ j u, (([.slice o5 L.length c5] : List Value).flatMap eV)[j]? = some u → w6.cell? ((⟨w5.heap.size, 0, none⟩ : Addr).add j) = some u := by rw [← hw6]; exact cell_newV w5 _ _
  have H6 := H5.later b6
  have ho6 := ho5.later b6
  obtain ⟨v7, w7, col7, hap3, ho7, hk7, hg7, hr7, hc7⟩ := run_appD siinf Try.underlying48 rfl (by decide) eV_len H6.o0 (.slice (some ⟨w5.heap.size, 0, none⟩) 1 1) [.slice o5 L.length c5] (.inr ⟨_, 1, rfl, hn6⟩) (fun x hx => by simp at hx; subst hx; simp [eV, Value.oneCell']) (by have := h.len; simp; omega) (by have := h.len; unfold maxLen; simp; omega) (by omega) 48
  have hbb7 : BkB w7 b v1 (.slice jo V.length jc) := (hg7.block b H6.bb.lt (fun e => H6.o0.neB H6.bb (by decide) e.symm)).trans H6.bb
  have hcb7 : col7 b = 14 := (hc7 b H6.bb.lt).trans H6.cb
  obtain ⟨w8, hw8⟩ : ∃ w8, w7.setCell ⟨b, 5, none⟩ v7 = w8 := ⟨_, rfl⟩
  have HR : BkI col7 w8 B b v1 v7 (V ++ [.slice lo L.length lc]) (V0 ++ [.slice o5 L.length c5]) (fun j => if j = V.length then L else X j) := by
    rw [← hw8]
    have hlen := h.len
    refine ⟨hbb7.set5 v7, ⟨ne14 5 v7 hcb7 (by decide) (H6.o.app hg7 hr7 hc7 (by decide)), fun j hj _ => ?_⟩, ne14 5 v7 hcb7 (by decide) ho7, fun j hj _ => ?_, by simp [hlen], hcb7, by simp; omega, fun j => ?_⟩
    · by_cases e : j = V.length
      · subst e
        have e1 : (V ++ [Value.slice lo L.length lc])[V.length]'hj = .slice lo L.length lc := by simp
        rw [e1]
        show Ow eN 1 3 col7 (4 * V.length) _ B _ (if V.length = V.length then L else X V.length)
        rw [if_pos rfl]
        exact ne14 5 v7 hcb7 (by omega) (H6.ol.app hg7 hr7 hc7 (by omega))
      · have hj' : j < V.length := by simp at hj; omega
        show Ow eN 1 3 col7 (4 * j) _ B _ (if j = V.length then L else X j)
        rw [if_neg e]
        exact ne14 5 v7 hcb7 (by (try dsimp only); omega) ((H6.r j hj hj').app hg7 hr7 hc7 (by (try dsimp only); omega))
    · by_cases e : j = V.length
      · subst e
        have e1 : (V0 ++ [Value.slice o5 L.length c5])[V.length]'hj = .slice o5 L.length c5 := by simp [← hlen]
        rw [e1]
        show Ow eN 1 3 col7 (4 * V.length + 1) _ B _ (if V.length = V.length then L else X V.length)
        rw [if_pos rfl]
        exact ne14 5 v7 hcb7 (by omega) (ho6.app hg7 hr7 hc7 (by omega))
      · have hj' : j < V.length := by simp [hlen] at hj; omega
        have hj0 : j < V0.length := by rw [hlen]; exact hj'
        show Ow eN 1 3 col7 (4 * j + 1) _ B _ (if j = V.length then L else X j)
        rw [if_neg e, List.getElem_append_left hj0]
        exact ne14 5 v7 hcb7 (by (try dsimp only); omega) ((H6.r0 j hj0 hj').app hg7 hr7 hc7 (by (try dsimp only); omega))
    · show (if j = V.length then L else X j).length ≤ _
      split
      · exact hL
      · exact h.sh j
  have HC : ∀ g, g < w.heap.size → col7 g = col g := fun g hg => by rw [hc7 g (by omega), hc5 g (by omega), hc4 g (by omega), hc1 g (by omega)]
  have HF : FrB col b w w8 := by
    refine ⟨?_, ?_, ?_, ?_, fun g hg hgb h2 h6 => ?_⟩
    · rw [← hw8]
      show w7.os = _
      rw [hg7.os, b6.os, hg5.os, b4.os, ← hw3]
      show w2.os = _
      rw [hg1.os, ba.os]
    · rw [← hw8]
      show w7.tape = _
      rw [hg7.tape, b6.tape, hg5.tape, b4.tape, ← hw3]
      show w2.tape = _
      rw [hg1.tape, ba.tape]
    · rw [← hw8]
      show w7.output = _
      rw [hg7.output, b6.output, hg5.output, b4.output, ← hw3]
      show w2.output = _
      rw [hg1.output, ba.output]
    · have : w8.heap.size = w7.heap.size := by rw [← hw8]; simp
      have := hg7.size
      omega
    · have e8 : w8.heap[g]? = w7.heap[g]? := by rw [← hw8]; exact (gb_set w7 b 5 v7).block g (by have := hg7.size; omega) (fun e => by injection e with e; exact hgb e)
      have e7 : w7.heap[g]? = w6.heap[g]? := hg7.block g (by omega) (fun e => by have := (hr7 g e.symm).1; rw [hc5 g (by omega), hc4 g (by omega), hc1 g (by omega)] at this; exact h6 this)
      have e6 : w6.heap[g]? = w5.heap[g]? := b6.block g (by omega)
      have e5 : w5.heap[g]? = w4.heap[g]? := hg5.block g (by omega) (fun e => by have := (Option.some.inj (show some g = some w3.heap.size from by simpa [Value.ownBlock] using e)); omega)
      have e4 : w4.heap[g]? = w3.heap[g]? := b4.block g (by omega)
      have e3 : w3.heap[g]? = w2.heap[g]? := by rw [← hw3]; exact (gb_set w2 b 4 v1).block g (by omega) (fun e => by injection e with e; exact hgb e)
      have e2 : w2.heap[g]? = wa.heap[g]? := hg1.block g (by omega) (fun e => h2 ((hr1 g e.symm).1))
      rw [e8, e7, e6, e5, e4, e3, e2]
      exact ba.block g hg
  have HRes := hib (And.intro HR (And.intro HC HF))
  have f4 := hbb2.fr 4
  have d4 := hbb2.c4
  have k3 : w3.drew.cell? ⟨b, 5, none⟩ = some (.slice jo V.length jc) := H3.bb.c5
  have k4 := H4.bb.c5
  have k5 := H5.bb.c5
  have k6 := H6.bb.c5
  have k7 := hbb7.c5
  have f7 := hbb7.fr 5
  obtain ⟨o1, c1', hv1⟩ := ho1.sl
  subst hv1
  obtain ⟨o7, c7', hv7⟩ := ho7.sl
  subst hv7
  rw [apII_op] at hap1 hap3
  rw [apI_op] at hap2
  generalize (V ++ [Value.slice lo L.length lc]).length = n1 at *
  generalize (V0 ++ [Value.slice o5 L.length c5]).length = n7 at *
  clear h hl HR HC HF ba hza hna hBa ho1 hk1 hg1 hr1 hc1 hba hcb1 hbb2 ne14 H3 hz2 hz3 b4 hz4 hcol4 hc4 H4 hE ho5 hk5 hg5 hr5 hc5 hbb5 H5 b6 hz6 hz5 hn6 H6 ho6 ho7 hk7 hg7 hr7 hc7 hbb7 hcb7
  go_enter Try.func55, Try.ntmps55
  go_wp2_with fail
  go_region
  all_goals go_wp2
  all_goals go_end0
  all_goals exact ⟨col7, _, _, _, rfl, HRes.out.1, HRes.out.2.1, HRes.out.2.2⟩
end Go.Proofs.Ytaiccmbhdgecgaa
