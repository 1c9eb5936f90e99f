/-
  codec: PutRequest.
-/
import Derived.Test.YtfhicemfhkhjaabCw4
namespace Go.Proofs.Ytfhicemfhkhjaab
open Go.RowKit
set_option maxRecDepth 100000

/-- a request as a value; its lines lie at ao -/
def rqV (r : Rq) (ao : Option Addr) (cap : Nat) : Value := .agg #[.string r.id, .int .i64 r.kind, .slice ao r.lines.length cap, .string r.hold, .int .i64 r.ttl, .int .i64 r.now]
/-- a request that may be -/
structure RqOk (r : Rq) : Prop where
  b0 : r.id.size ≤ 1000000000000 ∧ r.hold.size ≤ 1000000000000 ∧ r.lines.length ≤ 9223372036854775807
  b1 : -9223372036854775808 ≤ r.kind ∧ r.kind ≤ 9223372036854775807
  b2 : -9223372036854775808 ≤ r.ttl ∧ r.ttl ≤ 9223372036854775807
  b3 : -9223372036854775808 ≤ r.now ∧ r.now ≤ 9223372036854775807
theorem LL.below {w w' : World} {B B' : Nat} {ao : Option Addr} {L : List Ln} (h : LL w B ao L) (k : Below w.heap.size w w') (hb : B ≤ B') : LL w' B' ao L := fun i hi => by
  obtain ⟨hb', g, off, ha, hg, c0, c1⟩ := h i hi
  exact ⟨hb', g, off, ha, by omega, below_cells k _ _ c0, below_cells k _ _ c1⟩
/-- what a call that writes the bytes m answers: they, or ErrLong -/
def Wrt (m : List UInt8) (most : Nat) (w : World) (e : Ending) (w' : World) : Prop := ∃ v', e = .returned (.tuple #[v', .int .i64 (if m.length ≤ most then 0 else 1)]) ∧ Owns w' w.heap.size v' (if m.length ≤ most then m else []) ∧ Below w.heap.size w w'
theorem Wrt.yes {m : List UInt8} {most : Nat} {w w' : World} {v' : Value} (hf : m.length ≤ most) (ho : Owns w' w.heap.size v' m) (hb : Below w.heap.size w w') : Wrt m most w (.returned (.tuple #[v', .int .i64 0])) w' := ⟨v', by rw [if_pos hf], by rw [if_pos hf]; exact ho, hb⟩
theorem Wrt.no {m : List UInt8} {most : Nat} {w w' : World} (hf : ¬ m.length ≤ most) (hb : Below w.heap.size w w') : Wrt m most w (.returned (.tuple #[.slice none 0 0, .int .i64 1])) w' := ⟨_, by rw [if_neg hf], by rw [if_neg hf]; exact Owns.nil _ _, hb⟩
theorem O2.below {a b B : Nat} {w w' : World} (h : O2 a b w w') (ha : B ≤ a) (hb : B ≤ b) (hs : B ≤ w.heap.size) : Below B w w' := ⟨h.1, h.2.1, h.2.2.1, h.2.2.2.1, fun k hk => h.2.2.2.2 k (by omega) (by omega) (by omega)⟩
theorem O2.own {a b base : Nat} {w w' : World} {v : Value} {l : List UInt8} (h : O2 a b w w') (ho : Owns w base v l) (ha : a < base) (hb : b < base) : Owns w' base v l := by
  refine ⟨ho.1, ?_⟩
  rcases ho.2 with h2 | ⟨g, cap, cur, hv, hg, hh, r⟩
  · exact .inl h2
  · exact .inr ⟨g, cap, cur, hv, hg, (h.2.2.2.2 g (Array.getElem?_eq_some_iff.1 hh).1 (by omega) (by omega)).trans hh, r⟩
theorem WS.lower {wb B most : Nat} {v v' : Value} {l : List UInt8} {w w' : World} (h : WS wb v w v' w') (hr : WR w wb v l most) (hB : B ≤ wb) : Below B w w' := by
  have := hr.lt
  exact ⟨h.os, h.tape, h.output, h.size, fun k hk => h.block k (by omega) (by omega) (fun e => by have := hr.2.block_ge k e; omega)⟩
set_option maxHeartbeats 2000000 in
theorem putRequest_any (r : Rq) (ao : Option Addr) (cap : Nat) (w : World) (ho : RqOk r) (hL : LL w w.heap.size ao r.lines) :
    Calls Try.prog 8 #[rqV r ao cap] w fun e w' => Wrt (81 :: rqB r) 4096 w e w' := by
  have hmf : ∀ (fn : Fn) (first cap : Array Value) (w : World), (Instr.makeFunc fn first cap).run Try.prog w = .ok (.func fn first cap) w := fun _ _ _ _ => rfl
  unfold rqV
  obtain ⟨W1, hW1⟩ : ∃ W1, w.alloc (.cells #[.string r.id, .int .i64 r.kind, .slice ao r.lines.length cap, .string r.hold, .int .i64 r.ttl, .int .i64 r.now] 24) = W1 := ⟨_, rfl⟩
  obtain ⟨W2, hW2⟩ : ∃ W2, W1.alloc (.cells #[.slice none 0 0] 47) = W2 := ⟨_, rfl⟩
  obtain ⟨W3, hW3⟩ : ∃ W3, W2.alloc (.cells #[.int .i64 0] 25) = W3 := ⟨_, rfl⟩
  obtain ⟨W4, hW4⟩ : ∃ W4, W3.alloc (.cells #[.slice none 0 0, .int .i64 4096] 86) = W4 := ⟨_, rfl⟩
  have z1 : W1.heap.size = w.heap.size + 1 := by rw [← hW1, World.size_alloc]
  have z2 : W2.heap.size = w.heap.size + 2 := by rw [← hW2, World.size_alloc, z1]
  have z3 : W3.heap.size = w.heap.size + 3 := by rw [← hW3, World.size_alloc, z2]
  have hb1 : Below w.heap.size w W1 := by rw [← hW1]; exact (Below.refl _ _).alloc (Nat.le_refl _) _
  have hb2 : Below W1.heap.size W1 W2 := by rw [← hW2]; exact (Below.refl _ _).alloc (Nat.le_refl _) _
  have hb3 : Below W2.heap.size W2 W3 := by rw [← hW3]; exact (Below.refl _ _).alloc (Nat.le_refl _) _
  have hb4 : Below W3.heap.size W3 W4 := by rw [← hW4]; exact (Below.refl _ _).alloc (Nat.le_refl _) _
  have b24 : Below W2.heap.size W2 W4 := hb3.trans (hb4.mono (by omega))
  have b14 : Below W1.heap.size W1 W4 := hb2.trans (b24.mono (by omega))
  have b04 : Below w.heap.size w W4 := hb1.trans (b14.mono (by omega))
  have hrq : W4.heap[w.heap.size]? = some (.cells #[.string r.id, .int .i64 r.kind, .slice ao r.lines.length cap, .string r.hold, .int .i64 r.ttl, .int .i64 r.now] 24 (0, 0)) := (b14.block _ (by omega)).trans (by rw [← hW1]; exact heap_alloc_new w _)
  have HM := hid (show RqM W4 (w.heap.size + 3) w.heap.size 0 r from ⟨by omega, by rw [cell_of_row _ _ _ _ _ _ hrq]; rfl, by rw [cell_of_row _ _ _ _ _ _ hrq]; rfl, ⟨ao, cap, by rw [cell_of_row _ _ _ _ _ _ hrq]; rfl, hL.below b04 (by omega)⟩, by rw [cell_of_row _ _ _ _ _ _ hrq]; rfl, by rw [cell_of_row _ _ _ _ _ _ hrq]; rfl, by rw [cell_of_row _ _ _ _ _ _ hrq]; rfl, ho.b0, ho.b1, ho.b2, ho.b3⟩)
  have HBE := hid (show BE W4 (w.heap.size + 1) (w.heap.size + 2) (.slice none 0 0) 0 from ⟨(b24.block _ (by omega)).trans (by rw [← hW2, ← z1]; exact heap_alloc_new W1 _), (hb4.block _ (by omega)).trans (by rw [← hW3, ← z2]; exact heap_alloc_new W2 _), by omega⟩)
  have HWR := hid (show WR W4 (w.heap.size + 3) (.slice none 0 0) [] 4096 from ⟨by rw [← hW4, ← z3]; exact heap_alloc_new W3 _, Owns.nil _ _⟩)
  have HRe := hid (wrequest_any w.heap.size r W4 HWR.out (by omega) HM.out)
  have B4 := hid b04
  clear hb1 hb2 hb3 hb4 b24 b14 b04 hrq hL ho
  go_enter_defers Try.func8, Try.ntmps8
  go_wp2_with fail
  refine Calls.mono HRe.out ?_
  rintro e w5 ⟨v5, hs, ⟨hf, rfl, hr⟩ | ⟨hf, rfl⟩⟩
  · have hbe : BE w5 (w.heap.size + 1) (w.heap.size + 2) (.slice none 0 0) 0 := ⟨(hs.block _ (Array.getElem?_eq_some_iff.1 HBE.out.1).1 (by omega) (by simp [Value.ownBlock])).trans HBE.out.1, (hs.block _ (Array.getElem?_eq_some_iff.1 HBE.out.2.1).1 (by omega) (by simp [Value.ownBlock])).trans HBE.out.2.1, by omega⟩
    have HB5 := hid hbe
    have HR5 := hid hr
    have HS5 := hid hs
    have c0 : w5.cell? ⟨w.heap.size + 3, 0, none⟩ = some v5 := by rw [Lib.cell_of_heap hr.1]; rfl
    have k0 : w5.cell? ⟨w.heap.size + 1, 0, none⟩ = some (.slice none 0 0) := by rw [Lib.cell_of_heap hbe.1]; rfl
    have k1 : w5.cell? ⟨w.heap.size + 2, 0, none⟩ = some (.int .i64 0) := by rw [Lib.cell_of_heap hbe.2.1]; rfl
    have f0 : w5.frozen? ⟨w.heap.size + 1, 0, none⟩ = false := Lib.frozen_of_heap hbe.1 0
    have f1 : w5.frozen? ⟨w.heap.size + 2, 0, none⟩ = false := Lib.frozen_of_heap hbe.2.1 0
    obtain ⟨ao5, cap5, hv5⟩ := hr.2.reads.form
    clear hbe hr hs HRe
    subst hv5
    go_wp2_with fail
    refine leaves_cons (f := 30) (args := #[.pointer (some ⟨w.heap.size + 1, 0, none⟩), .pointer (some ⟨w.heap.size + 2, 0, none⟩)]) (by simp) (by simp [go_sem]) ?_
    refine (dReq_nil (w.heap.size + 1) (w.heap.size + 2) _ 0 _ (HB5.out.put _ 0) ⟨_, _, _, rfl⟩).mono ?_
    rintro e u' w6 ⟨rfl, rfl, hbe, ho2⟩
    have q0 : w6.cell? ⟨w.heap.size + 1, 0, none⟩ = some (.slice ao5 ((rqB r).length + 1) cap5) := by rw [Lib.cell_of_heap hbe.1]; rfl
    have q1 : w6.cell? ⟨w.heap.size + 2, 0, none⟩ = some (.int .i64 0) := by rw [Lib.cell_of_heap hbe.2.1]; rfl
    have hO5 : Owns w5 (w.heap.size + 4) (.slice ao5 ((rqB r).length + 1) cap5) (81 :: rqB r) := HR5.out.2
    have hO6 := ho2.own (ownsRow_setCell_below (ownsRow_setCell_below hO5 (by show w.heap.size + 1 < _; omega) _) (by show w.heap.size + 2 < _; omega) _) (by omega) (by omega)
    have hz := B4.out.size
    have hz4 := HS5.out.size
    have B5 := B4.out.trans (HS5.out.lower HWR.out (show w.heap.size ≤ w.heap.size + 3 by omega))
    have B6 := ((B5.setCell (show w.heap.size ≤ w.heap.size + 1 by omega) (.slice ao5 ((rqB r).length + 1) cap5)).setCell (show w.heap.size ≤ w.heap.size + 2 by omega) (.int .i64 0)).trans (ho2.below (by omega) (by omega) (by simp; omega))
    have HW := hid (Wrt.yes (m := 81 :: rqB r) (most := 4096) (by simpa using hf) (hO6.mono (by omega)) B6)
    clear hO5 hO6 B5 B6 hbe ho2
    simp [Leaves, settle, results, Try.results8, go_sem, q0, q1]
    exact HW.out
  · have hbe : BE w5 (w.heap.size + 1) (w.heap.size + 2) (.slice none 0 0) 0 := ⟨(hs.block _ (Array.getElem?_eq_some_iff.1 HBE.out.1).1 (by omega) (by simp [Value.ownBlock])).trans HBE.out.1, (hs.block _ (Array.getElem?_eq_some_iff.1 HBE.out.2.1).1 (by omega) (by simp [Value.ownBlock])).trans HBE.out.2.1, by omega⟩
    have HB5 := hid hbe
    have HS5 := hid hs
    clear hbe hs HRe
    go_wp2_with fail
    refine leaves_cons (f := 30) (args := #[.pointer (some ⟨w.heap.size + 1, 0, none⟩), .pointer (some ⟨w.heap.size + 2, 0, none⟩)]) (by simp) (by simp [go_sem]) ?_
    refine (dReq_flt (w.heap.size + 1) (w.heap.size + 2) _ 0 1 0 [] _ HB5.out ⟨_, _, _, rfl⟩).mono ?_
    rintro e u' w6 ⟨rfl, rfl, hbe, ho2⟩
    have q0 : w6.cell? ⟨w.heap.size + 1, 0, none⟩ = some (.slice none 0 0) := by rw [Lib.cell_of_heap hbe.1]; rfl
    have q1 : w6.cell? ⟨w.heap.size + 2, 0, none⟩ = some (.int .i64 1) := by rw [Lib.cell_of_heap hbe.2.1]; rfl
    have hz := B4.out.size
    have hz4 := HS5.out.size
    have B5 := B4.out.trans (HS5.out.lower HWR.out (show w.heap.size ≤ w.heap.size + 3 by omega))
    have B6 := B5.trans (ho2.below (by omega) (by omega) (by omega))
    have HW := hid (Wrt.no (m := 81 :: rqB r) (most := 4096) (by simp at hf ⊢; omega) B6)
    clear B5 B6 hbe ho2
    simp [Leaves, settle, results, Try.results8, go_sem, q0, q1]
    exact HW.out
end Go.Proofs.Ytfhicemfhkhjaab
