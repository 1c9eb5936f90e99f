/-
  codec, the document's reader: where it stands; whole, text, many from any state.
-/
import Derived.Test.YtagjjcifpdgniaaDx2
namespace Go.Proofs.Ytagjjcifpdgniaa
open Go.RowKit
set_option maxRecDepth 100000

/-- the document's reader in state s: an error and its place, or no error and the next place -/
def XS (w : World) (rb : Nat) (v : Value) (l : List UInt8) (most : Nat) (s : Nat × Nat) : Prop :=
  (s.1 = 0 ∧ ∃ b off cap, v = bv b off cap l.length ∧ RX w rb v s.2 most 0 0 ∧ XB w rb b off cap l ∧ s.2 ≤ l.length) ∨
  (s.1 ≠ 0 ∧ ∃ i, RX w rb v i most s.1 s.2)
theorem XB.keep {w w' : World} {rb b off cap : Nat} {l : List UInt8} (h : XB w rb b off cap l) (hk : ∀ k, k < rb → w'.heap[k]? = w.heap[k]?) : XB w' rb b off cap l :=
  ⟨h.room, h.lt, h.few, fun j hj => (World.cell?_of_block (hk b h.lt)).trans (h.bytes j hj)⟩
theorem XS.keep {w w' : World} {rb most : Nat} {v : Value} {l : List UInt8} {s : Nat × Nat} (h : XS w rb v l most s) (hk : ∀ k, k ≤ rb → w'.heap[k]? = w.heap[k]?) : XS w' rb v l most s := by
  rcases h with ⟨h0, b, off, cap, hv, hr, hx, hi⟩ | ⟨h0, i, hr⟩
  · exact .inl ⟨h0, b, off, cap, hv, (hk rb (Nat.le_refl _)).trans hr, hx.keep (fun k hk2 => hk k (by omega)), hi⟩
  · exact .inr ⟨h0, i, (hk rb (Nat.le_refl _)).trans hr⟩
theorem XS.lt {w : World} {rb most : Nat} {v : Value} {l : List UInt8} {s : Nat × Nat} (h : XS w rb v l most s) : rb < w.heap.size := by
  rcases h with ⟨h0, b, off, cap, hv, hr, hx, hi⟩ | ⟨h0, i, hr⟩
  · exact (Array.getElem?_eq_some_iff.1 hr).1
  · exact (Array.getElem?_eq_some_iff.1 hr).1
theorem XS.e {w : World} {rb most : Nat} {v : Value} {l : List UInt8} {s : Nat × Nat} (h : XS w rb v l most s) : w.cell? ⟨rb, 3, none⟩ = some (.int .i64 (s.1 : Int)) := by
  rcases h with ⟨h0, b, off, cap, hv, hr, hx, hi⟩ | ⟨h0, i, hr⟩
  · rw [h0]; exact hr.c.2.2.2.1
  · exact hr.c.2.2.2.1
theorem XS.below {w w' : World} {rb most : Nat} {v : Value} {l : List UInt8} {s : Nat × Nat} (h : XS w rb v l most s) (hb : Below w.heap.size w w') : XS w' rb v l most s := h.keep (fun k hk => hb.block k (by have := h.lt; omega))
theorem XS.set {w : World} {rb most g j : Nat} {u : Value} {v : Value} {l : List UInt8} {s : Nat × Nat} (h : XS w rb v l most s) (hg : rb < g) : XS (w.setCell ⟨g, j, none⟩ u) rb v l most s := h.keep (fun k hk => heap_setCell_other w ⟨g, j, none⟩ k u (by show k ≠ g; omega))
theorem Xp.st {w w' : World} {rb b off cap i most err took : Nat} {u z : Value} {l : List UInt8} {e : Ending} (h : Xp rb i err took u z w e w') (hr : RX w rb (bv b off cap l.length) i most 0 0) (hx : XB w rb b off cap l) (hi : i + took ≤ l.length) :
    e = .returned (if err = 0 then u else z) ∧ XS w' rb (bv b off cap l.length) l most (err, i + took) ∧ Tb rb rb w w' := by
  obtain ⟨q, ⟨h0, rfl, rfl⟩ | ⟨h0, rfl, rfl⟩⟩ := h
  · refine ⟨by rw [if_pos h0], .inl ⟨h0, b, off, cap, rfl, (hr.drewN q).on (i + took), hx.keep (fun k hk => heap_setCell_other (w.drewN q) ⟨rb, 1, none⟩ k _ (by show k ≠ rb; omega)), hi⟩, (Tb.drewN rb rb w q).trans (Tb.set _ ⟨rb, 1, none⟩ _ (.inl rfl))⟩
  · refine ⟨by rw [if_neg h0], .inr ⟨h0, i, (hr.drewN q).stop err (i + took)⟩, ((Tb.drewN rb rb w q).trans (Tb.set _ ⟨rb, 3, none⟩ _ (.inl rfl))).trans (Tb.set _ ⟨rb, 4, none⟩ _ (.inl rfl))⟩
set_option maxHeartbeats 400000 in
theorem xwhole_no (w : World) {rb i most er pl : Nat} {v : Value} (h : RX w rb v i most er pl) (he : er ≠ 0) :
    Calls Try.prog 64 #[.pointer (some ⟨rb, 0, none⟩)] w fun e w' => e = .returned (.int .i64 0) ∧ w' = w := by
  obtain ⟨c0, c1, c2, c3, c4⟩ := h.c
  have hb : ((er : Int) == 0) = false := by simp; omega
  clear h
  go_enter Try.func64, Try.ntmps64
  go_wp2
  go_ret
  exact ⟨rfl, rfl⟩
set_option maxHeartbeats 400000 in
theorem xtext_no (w : World) {rb i most er pl : Nat} {v : Value} (h : RX w rb v i most er pl) (he : er ≠ 0) :
    Calls Try.prog 63 #[.pointer (some ⟨rb, 0, none⟩)] w fun e w' => e = .returned (.string ⟨#[]⟩) ∧ w' = w := by
  obtain ⟨c0, c1, c2, c3, c4⟩ := h.c
  have hb : ((er : Int) == 0) = false := by simp; omega
  clear h
  go_enter Try.func63, Try.ntmps63
  go_wp2
  go_ret
  exact ⟨rfl, rfl⟩
set_option maxHeartbeats 400000 in
theorem xmany_no (w : World) {rb i most er pl : Nat} {v : Value} (h : RX w rb v i most er pl) (he : er ≠ 0) :
    Calls Try.prog 86 #[.pointer (some ⟨rb, 0, none⟩)] w fun e w' => e = .returned (.int .i64 0) ∧ w' = w := by
  obtain ⟨c0, c1, c2, c3, c4⟩ := h.c
  have hb : ((er : Int) == 0) = false := by simp; omega
  clear h
  go_enter Try.func86, Try.ntmps86
  go_wp2
  go_ret
  exact ⟨rfl, rfl⟩
/-- the state behind an int, a text, a list's number; what is answered -/
def sI (l : List UInt8) (s : Nat × Nat) : Nat × Nat := if s.1 ≠ 0 then s else ((fIn l s.2).1, (fIn l s.2).2.1)
def vI (l : List UInt8) (s : Nat × Nat) : Int := if s.1 ≠ 0 then 0 else if (fIn l s.2).1 = 0 then (fIn l s.2).2.2 else 0
def sT (l : List UInt8) (most : Nat) (s : Nat × Nat) : Nat × Nat := if s.1 ≠ 0 then s else ((fTx l most s.2).1, (fTx l most s.2).2.1)
def vT (l : List UInt8) (most : Nat) (s : Nat × Nat) : ByteArray := if s.1 ≠ 0 then ⟨#[]⟩ else if (fTx l most s.2).1 = 0 then (fTx l most s.2).2.2 else ⟨#[]⟩
def sC (l : List UInt8) (most : Nat) (s : Nat × Nat) : Nat × Nat := if s.1 ≠ 0 then s else ((ct (l.drop s.2) most).2.2, s.2 + (ct (l.drop s.2) most).2.1)
def vC (l : List UInt8) (most : Nat) (s : Nat × Nat) : Nat := if s.1 ≠ 0 then 0 else if (ct (l.drop s.2) most).2.2 = 0 then (ct (l.drop s.2) most).1 else 0
theorem sI_ok {l : List UInt8} {s : Nat × Nat} (h : s.1 = 0) : sI l s = ((fIn l s.2).1, (fIn l s.2).2.1) := if_neg (fun e => e h)
theorem sI_no {l : List UInt8} {s : Nat × Nat} (h : s.1 ≠ 0) : sI l s = s := if_pos h
theorem vI_ok {l : List UInt8} {s : Nat × Nat} (h : s.1 = 0) : vI l s = if (fIn l s.2).1 = 0 then (fIn l s.2).2.2 else 0 := if_neg (fun e => e h)
theorem vI_no {l : List UInt8} {s : Nat × Nat} (h : s.1 ≠ 0) : vI l s = 0 := if_pos h
theorem sT_ok {l : List UInt8} {most : Nat} {s : Nat × Nat} (h : s.1 = 0) : sT l most s = ((fTx l most s.2).1, (fTx l most s.2).2.1) := if_neg (fun e => e h)
theorem sT_no {l : List UInt8} {most : Nat} {s : Nat × Nat} (h : s.1 ≠ 0) : sT l most s = s := if_pos h
theorem vT_ok {l : List UInt8} {most : Nat} {s : Nat × Nat} (h : s.1 = 0) : vT l most s = if (fTx l most s.2).1 = 0 then (fTx l most s.2).2.2 else ⟨#[]⟩ := if_neg (fun e => e h)
theorem vT_no {l : List UInt8} {most : Nat} {s : Nat × Nat} (h : s.1 ≠ 0) : vT l most s = ⟨#[]⟩ := if_pos h
theorem sC_ok {l : List UInt8} {most : Nat} {s : Nat × Nat} (h : s.1 = 0) : sC l most s = ((ct (l.drop s.2) most).2.2, s.2 + (ct (l.drop s.2) most).2.1) := if_neg (fun e => e h)
theorem sC_no {l : List UInt8} {most : Nat} {s : Nat × Nat} (h : s.1 ≠ 0) : sC l most s = s := if_pos h
theorem vC_ok {l : List UInt8} {most : Nat} {s : Nat × Nat} (h : s.1 = 0) : vC l most s = if (ct (l.drop s.2) most).2.2 = 0 then (ct (l.drop s.2) most).1 else 0 := if_neg (fun e => e h)
theorem vC_no {l : List UInt8} {most : Nat} {s : Nat × Nat} (h : s.1 ≠ 0) : vC l most s = 0 := if_pos h
theorem ite_int {c : Prop} [Decidable c] (a b : Int) : (if c then (Value.int .i64 a) else .int .i64 b) = .int .i64 (if c then a else b) := by split <;> rfl
theorem ite_str {c : Prop} [Decidable c] (a b : ByteArray) : (if c then (Value.string a) else .string b) = .string (if c then a else b) := by split <;> rfl
theorem xwhole_any (w : World) {rb most : Nat} {v : Value} {l : List UInt8} {s : Nat × Nat} (h : XS w rb v l most s) :
    Calls Try.prog 64 #[.pointer (some ⟨rb, 0, none⟩)] w fun e w' => e = .returned (.int .i64 (vI l s)) ∧ XS w' rb v l most (sI l s) ∧ Tb rb rb w w' := by
  rcases h with ⟨h0, b, off, cap, rfl, hr, hx, hi⟩ | ⟨h0, i, hr⟩
  · refine (xwhole_go w hr hx hi).mono fun e w' hp => ?_
    obtain ⟨h1, h2, h3⟩ := hp.st hr hx (at_le hi (by have := rd_le (l.drop s.2) 0 0; omega))
    rw [vI_ok h0, sI_ok h0]
    exact ⟨h1.trans (by rw [ite_int]; rfl), h2, h3⟩
  · refine (xwhole_no w hr h0).mono fun e w' ⟨h1, h2⟩ => ?_
    subst h2
    rw [vI_no h0, sI_no h0]
    exact ⟨h1, .inr ⟨h0, i, hr⟩, Tb.drewN rb rb w' 0⟩
theorem xtext_any (w : World) {rb most : Nat} {v : Value} {l : List UInt8} {s : Nat × Nat} (h : XS w rb v l most s) (hm : most ≤ 1000000000) :
    Calls Try.prog 63 #[.pointer (some ⟨rb, 0, none⟩)] w fun e w' => e = .returned (.string (vT l most s)) ∧ XS w' rb v l most (sT l most s) ∧ Tb rb rb w w' := by
  rcases h with ⟨h0, b, off, cap, rfl, hr, hx, hi⟩ | ⟨h0, i, hr⟩
  · refine (xtext_go w hr hx hi hm).mono fun e w' hp => ?_
    obtain ⟨h1, h2, h3⟩ := hp.st hr hx (at_le hi (tx_le (l.drop s.2) most))
    rw [vT_ok h0, sT_ok h0]
    exact ⟨h1.trans (by rw [ite_str]; rfl), h2, h3⟩
  · refine (xtext_no w hr h0).mono fun e w' ⟨h1, h2⟩ => ?_
    subst h2
    rw [vT_no h0, sT_no h0]
    exact ⟨h1, .inr ⟨h0, i, hr⟩, Tb.drewN rb rb w' 0⟩
theorem xmany_any (w : World) {rb most : Nat} {v : Value} {l : List UInt8} {s : Nat × Nat} (h : XS w rb v l most s) (hm : most ≤ 1000000000) :
    Calls Try.prog 86 #[.pointer (some ⟨rb, 0, none⟩)] w fun e w' => e = .returned (.int .i64 (vC l most s : Nat)) ∧ XS w' rb v l most (sC l most s) ∧ Tb rb rb w w' := by
  rcases h with ⟨h0, b, off, cap, rfl, hr, hx, hi⟩ | ⟨h0, i, hr⟩
  · refine (xmany_go w hr hx hi hm).mono fun e w' hp => ?_
    obtain ⟨h1, h2, h3⟩ := hp.st hr hx (at_le hi (ct_le (l.drop s.2) most))
    rw [vC_ok h0, sC_ok h0]
    refine ⟨h1.trans ?_, h2, h3⟩
    rw [ite_int]
    split <;> rfl
  · refine (xmany_no w hr h0).mono fun e w' ⟨h1, h2⟩ => ?_
    subst h2
    rw [vC_no h0, sC_no h0]
    exact ⟨h1, .inr ⟨h0, i, hr⟩, Tb.drewN rb rb w' 0⟩
end Go.Proofs.Ytagjjcifpdgniaa
