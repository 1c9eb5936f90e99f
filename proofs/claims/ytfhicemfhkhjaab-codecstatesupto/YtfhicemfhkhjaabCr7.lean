/-
  codec: Request. Laid by mkcr7.py.
-/
import Derived.Test.YtfhicemfhkhjaabCr6
namespace Go.Proofs.Ytfhicemfhkhjaab
open Go.RowKit
set_option maxRecDepth 100000

/-- what the bytes l are read as: the error, its place, the request -/
def rqs (l : List UInt8) : Nat × Nat × Rq :=
  if 4096 < l.length then (1, 0, rq0)
  else if (fKq 81 l 4096).1 ≠ 0 then ((fKq 81 l 4096).1, (fKq 81 l 4096).2.1, rq0)
  else if (fKq 81 l 4096).2.1 < l.length then (4, (fKq 81 l 4096).2.1, rq0)
  else (0, 0, (fKq 81 l 4096).2.2)
/-- what Request answers -/
def Rdq (l : List UInt8) (w : World) (e : Ending) (w' : World) : Prop :=
  ∃ v', e = .returned (.tuple #[.agg (rqC (rqs l).2.2 v'), .int .i64 ((rqs l).1 : Int), .int .i64 ((rqs l).2.1 : Int)]) ∧ OLn w' w.heap.size v' (rqs l).2.2.lines ∧ Below w.heap.size w w'
theorem Rdq.no {l : List UInt8} {k p : Nat} {w w' : World} (h : rqs l = (k, p, rq0)) (hb : Below w.heap.size w w') : Rdq l w (.returned (.tuple #[.agg #[.string ⟨#[]⟩, .int .i64 0, .slice none 0 0, .string ⟨#[]⟩, .int .i64 0, .int .i64 0], .int .i64 (k : Int), .int .i64 (p : Int)])) w' :=
  ⟨.slice none 0 0, by rw [h]; rfl, by rw [h]; exact World.ownsRow_nil _ _ _ _, hb⟩
theorem Rdq.yes {l : List UInt8} {r : Rq} {v : Value} {w w' : World} (h : rqs l = (0, 0, r)) (ho : OLn w' w.heap.size v r.lines) (hb : Below w.heap.size w w') : Rdq l w (.returned (.tuple #[.agg #[.string r.id, .int .i64 r.kind, v, .string r.hold, .int .i64 r.ttl, .int .i64 r.now], .int .i64 0, .int .i64 0])) w' :=
  ⟨v, by rw [h]; rfl, by rw [h]; exact ho, hb⟩
theorem O3.below {a b c B : Nat} {w w' : World} (h : O3 a b c w w') (ha : B ≤ a) (hb : B ≤ b) (hc : B ≤ c) (hs : B ≤ w.heap.size) : Below B w w' := ⟨h.1, h.2.1, h.2.2.1, h.2.2.2.1, fun k hk => h.2.2.2.2 k (by omega) (by omega) (by omega) (by omega)⟩
theorem O3.own {a b c base : Nat} {w w' : World} {v : Value} {L : List Ln} (h : O3 a b c w w') (ho : OLn w base v L) (ha : a < base) (hb : b < base) (hc : c < base) : OLn w' base v L := by
  refine ⟨ho.1, ?_⟩
  rcases ho.2 with g | ⟨x, y, z, g1, g2, g3, g4⟩
  · exact .inl g
  · exact .inr ⟨x, y, z, g1, g2, (h.2.2.2.2 x (Array.getElem?_eq_some_iff.1 g3).1 (by omega) (by omega) (by omega)).trans g3, g4⟩
theorem Tb.lower {rb g B : Nat} {w w' : World} (h : Tb rb g w w') (h1 : B ≤ rb) (h2 : B ≤ g) (hs : B ≤ w.heap.size) : Below B w w' := ⟨h.os, h.tape, h.output, h.size, fun k hk => h.block k (by omega) (by omega) (by omega)⟩
theorem OLn.lower {w : World} {B B' : Nat} {v : Value} {L : List Ln} (h : OLn w B v L) (hb : B' ≤ B) : OLn w B' v L := by
  refine ⟨h.1, ?_⟩
  rcases h.2 with g | ⟨x, y, z, g1, g2, g3⟩
  · exact .inl g
  · exact .inr ⟨x, y, z, g1, by omega, g3⟩
set_option maxHeartbeats 4000000 in
theorem request_any (l : List UInt8) (v : Value) (w : World) (hr : Reads w v l) :
    Calls Try.prog 13 #[v] w fun e w' => Rdq l w e w' := by
  have hmf : ∀ (fn : Fn) (first cap : Array Value) (w : World), (Instr.makeFunc fn first cap).run Try.prog w = .ok (.func fn first cap) w := fun _ _ _ _ => rfl
  obtain ⟨W1, hW1⟩ : ∃ W1, w.alloc (.cells #[.string ⟨#[]⟩, .int .i64 0, .slice none 0 0, .string ⟨#[]⟩, .int .i64 0, .int .i64 0] 24) = W1 := ⟨_, rfl⟩
  obtain ⟨W2, hW2⟩ : ∃ W2, W1.alloc (.cells #[.int .i64 0] 25) = W2 := ⟨_, rfl⟩
  obtain ⟨W3, hW3⟩ : ∃ W3, W2.alloc (.cells #[.int .i64 0] 3) = W3 := ⟨_, rfl⟩
  have z1 : W1.heap.size = w.heap.size + 1 := by rw [← hW1, World.size_alloc]
  have z2 : W2.heap.size = w.heap.size + 2 := by rw [← hW2, World.size_alloc, z1]
  have z3 : W3.heap.size = w.heap.size + 3 := by rw [← hW3, World.size_alloc, z2]
  have hb1 : Below w.heap.size w W1 := by rw [← hW1]; exact (Below.refl _ _).alloc (Nat.le_refl _) _
  have hb2 : Below W1.heap.size W1 W2 := by rw [← hW2]; exact (Below.refl _ _).alloc (Nat.le_refl _) _
  have hb3 : Below W2.heap.size W2 W3 := by rw [← hW3]; exact (Below.refl _ _).alloc (Nat.le_refl _) _
  have b13 : Below W1.heap.size W1 W3 := hb2.trans (hb3.mono (by omega))
  have b03 : Below w.heap.size w W3 := hb1.trans (b13.mono (by omega))
  have HE := hid (show QE W3 w.heap.size (w.heap.size + 1) (w.heap.size + 2) #[.string ⟨#[]⟩, .int .i64 0, .slice none 0 0, .string ⟨#[]⟩, .int .i64 0, .int .i64 0] 0 0 from ⟨(b13.block _ (by omega)).trans (by rw [← hW1]; exact heap_alloc_new w _), (hb3.block _ (by omega)).trans (by rw [← hW2, ← z1]; exact heap_alloc_new W1 _), by rw [← hW3, ← z2]; exact heap_alloc_new W2 _, by omega, by omega⟩)
  have HB := hid b03
  have HR := hid (hr.below b03)
  have HN := hid (dnew_any v l 4096 W3 HR.out)
  have hwb : ∀ b off c, v = .slice (some ⟨b, off, none⟩) l.length c → 0 < l.length → b < w.heap.size := fun b off c hv h0 => by
    rcases hr with ⟨h1, _⟩ | ⟨b', off', c', h1, h2, h3⟩
    · rw [h1] at h0; exact absurd h0 (by simp)
    · rw [h1] at hv; injection hv with hv; injection hv with hv; injection hv with hv; subst hv; exact World.block_lt_of_cell? _ _ (h3 0 h0)
  have HHR := hid hr
  clear hb1 hb2 hb3 b13 b03 hr
  obtain ⟨aov, capv, rfl⟩ := HHR.out.form
  go_enter_defers Try.func13, Try.ntmps13
  go_wp2_with fail
  refine Calls.mono HN.out ?_
  rintro e w4 (⟨hle, rfl, hw4⟩ | ⟨hle, rfl, rfl⟩)
  rotate_left
  · clear HN
    go_wp2_with fail
    refine leaves_cons (f := 39) (args := #[.pointer (some ⟨w.heap.size, 0, none⟩), .pointer (some ⟨w.heap.size + 1, 0, none⟩), .pointer (some ⟨w.heap.size + 2, 0, none⟩)]) (by simp) (by simp [go_sem]) ?_
    refine (dQ_flt w.heap.size (w.heap.size + 1) (w.heap.size + 2) _ _ _ _ _ 0 0 (1 : Nat) (0 : Nat) _ _ _ [] _ HE.out).mono ?_
    rintro e u' w9 ⟨rfl, rfl, hqe, ho3⟩
    have q0 : w9.cell? ⟨w.heap.size, 0, none⟩ = some (.string ⟨#[]⟩) := by rw [Lib.cell_of_heap hqe.1]; rfl
    have q1 : w9.cell? ⟨w.heap.size, 1, none⟩ = some (.int .i64 0) := by rw [Lib.cell_of_heap hqe.1]; rfl
    have q2 : w9.cell? ⟨w.heap.size, 2, none⟩ = some (.slice none 0 0) := by rw [Lib.cell_of_heap hqe.1]; rfl
    have q3 : w9.cell? ⟨w.heap.size, 3, none⟩ = some (.string ⟨#[]⟩) := by rw [Lib.cell_of_heap hqe.1]; rfl
    have q4 : w9.cell? ⟨w.heap.size, 4, none⟩ = some (.int .i64 0) := by rw [Lib.cell_of_heap hqe.1]; rfl
    have q5 : w9.cell? ⟨w.heap.size, 5, none⟩ = some (.int .i64 0) := by rw [Lib.cell_of_heap hqe.1]; rfl
    have q6 : w9.cell? ⟨w.heap.size + 1, 0, none⟩ = some (.int .i64 ((1 : Nat))) := by rw [Lib.cell_of_heap hqe.2.1]; rfl
    have q7 : w9.cell? ⟨w.heap.size + 2, 0, none⟩ = some (.int .i64 ((0 : Nat))) := by rw [Lib.cell_of_heap hqe.2.2.1]; rfl
    have HW := hid (Rdq.no (l := l) (k := (1 : Nat)) (p := (0 : Nat)) (if_pos hle) (HB.out.trans (ho3.below (Nat.le_refl _) (by omega) (by omega) HB.out.size)))
    clear hqe ho3
    simp [Leaves, settle, results, Try.results13, go_sem, q0, q1, q2, q3, q4, q5, q6, q7]
    exact HW.out

  have z4 : w4.heap.size = w.heap.size + 4 := by rw [hw4, World.size_alloc, z3]
  have hb4 : Below W3.heap.size W3 w4 := by rw [hw4]; exact (Below.refl _ _).alloc (Nat.le_refl _) _
  have HE4 := hid (HE.out.later hb4)
  have HB4 := hid (HB.out.trans (hb4.mono (by omega)))
  have hRN : RN w4 (w.heap.size + 3) (.slice aov l.length capv) 4096 := by unfold RN; rw [hw4, ← z3]; exact heap_alloc_new W3 _
  obtain ⟨bb, off, cap, HQ⟩ : ∃ bb off cap, Hid (Calls Try.prog 32 #[ir (w.heap.size + 3), .pointer (some ⟨w.heap.size, 0, none⟩)] w4 fun e w' => Dq (w.heap.size + 3) bb off cap l 4096 w.heap.size w4 e w') := by
    by_cases h0 : 0 < l.length
    · obtain ⟨b, off, cap, hv, hc, hbs⟩ := (HR.out.below hb4).resolve_left (fun e => by rw [e.1] at h0; exact absurd h0 (by simp))
      have hbw := hwb b off cap hv h0
      injection hv with hv1 hv2 hv3
      subst hv1; subst hv3
      exact ⟨b, off, capv, hid (drequest_any w.heap.size (w.heap.size + 3) b off capv 4096 l w4 hRN hc h0 (by omega) hbs (by omega) (by omega) HE4.out.1 ⟨by omega, by omega⟩)⟩
    · obtain rfl : l = [] := List.eq_nil_of_length_eq_zero (by omega)
      exact ⟨0, 0, capv, hid (drequest_nil aov capv (w.heap.size + 3) 4096 w.heap.size 0 0 w4 hRN HE4.out.1)⟩
  have HZ := hid z4
  clear hRN hw4 hb4 HE HB HN HR HHR
  rw [z3]
  go_wp2_with fail
  refine Calls.mono HQ.out ?_
  rintro e w5 ⟨ht, ⟨he, rfl, hr5, v5, hq5, ho5⟩ | ⟨he, rfl, s0, n0, a9, n9, c9, s1, n1, n2, hq5⟩⟩
  rotate_left
  · have HE := hid (show QE w5 w.heap.size (w.heap.size + 1) (w.heap.size + 2) #[.string s0, .int .i64 n0, .slice a9 n9 c9, .string s1, .int .i64 n1, .int .i64 n2] 0 0 from ⟨hq5, (ht.block _ (by omega) (by omega) (by omega)).trans HE4.out.2.1, (ht.block _ (by omega) (by omega) (by omega)).trans HE4.out.2.2.1, by omega, by omega⟩)
    have HB := hid (HB4.out.trans (ht.lower (show w.heap.size ≤ _ by omega) (Nat.le_refl _) (by omega)))
    clear ht hq5
    go_wp2_with fail
    refine leaves_cons (f := 39) (args := #[.pointer (some ⟨w.heap.size, 0, none⟩), .pointer (some ⟨w.heap.size + 1, 0, none⟩), .pointer (some ⟨w.heap.size + 2, 0, none⟩)]) (by simp) (by simp [go_sem]) ?_
    refine (dQ_flt w.heap.size (w.heap.size + 1) (w.heap.size + 2) _ _ _ _ _ 0 0 ((fKq 81 l 4096).1 : Nat) ((fKq 81 l 4096).2.1 : Nat) _ _ _ [] _ HE.out).mono ?_
    rintro e u' w9 ⟨rfl, rfl, hqe, ho3⟩
    have q0 : w9.cell? ⟨w.heap.size, 0, none⟩ = some (.string ⟨#[]⟩) := by rw [Lib.cell_of_heap hqe.1]; rfl
    have q1 : w9.cell? ⟨w.heap.size, 1, none⟩ = some (.int .i64 0) := by rw [Lib.cell_of_heap hqe.1]; rfl
    have q2 : w9.cell? ⟨w.heap.size, 2, none⟩ = some (.slice none 0 0) := by rw [Lib.cell_of_heap hqe.1]; rfl
    have q3 : w9.cell? ⟨w.heap.size, 3, none⟩ = some (.string ⟨#[]⟩) := by rw [Lib.cell_of_heap hqe.1]; rfl
    have q4 : w9.cell? ⟨w.heap.size, 4, none⟩ = some (.int .i64 0) := by rw [Lib.cell_of_heap hqe.1]; rfl
    have q5 : w9.cell? ⟨w.heap.size, 5, none⟩ = some (.int .i64 0) := by rw [Lib.cell_of_heap hqe.1]; rfl
    have q6 : w9.cell? ⟨w.heap.size + 1, 0, none⟩ = some (.int .i64 (((fKq 81 l 4096).1 : Nat))) := by rw [Lib.cell_of_heap hqe.2.1]; rfl
    have q7 : w9.cell? ⟨w.heap.size + 2, 0, none⟩ = some (.int .i64 (((fKq 81 l 4096).2.1 : Nat))) := by rw [Lib.cell_of_heap hqe.2.2.1]; rfl
    have HW := hid (Rdq.no (l := l) (k := ((fKq 81 l 4096).1 : Nat)) (p := ((fKq 81 l 4096).2.1 : Nat)) ((if_neg (by omega)).trans (if_pos he)) (HB.out.trans (ho3.below (Nat.le_refl _) (by omega) (by omega) HB.out.size)))
    clear hqe ho3
    simp [Leaves, settle, results, Try.results13, go_sem, q0, q1, q2, q3, q4, q5, q6, q7]
    exact HW.out

  obtain ⟨a9, n9, c9, rfl⟩ := ho5.form
  obtain ⟨r9, h9⟩ : ∃ r, (fKq 81 l 4096).2.2 = r := ⟨_, rfl⟩
  rw [h9] at hq5 ho5
  have HE := hid (show QE w5 w.heap.size (w.heap.size + 1) (w.heap.size + 2) #[.string r9.id, .int .i64 r9.kind, .slice a9 n9 c9, .string r9.hold, .int .i64 r9.ttl, .int .i64 r9.now] 0 0 from ⟨hq5, (ht.block _ (by omega) (by omega) (by omega)).trans HE4.out.2.1, (ht.block _ (by omega) (by omega) (by omega)).trans HE4.out.2.2.1, by omega, by omega⟩)
  have HB := hid (HB4.out.trans (ht.lower (show w.heap.size ≤ _ by omega) (Nat.le_refl _) (by omega)))
  have HO := hid (show OLn w5 (w.heap.size + 4) (.slice a9 n9 c9) r9.lines by rw [← z4]; exact ho5)
  have HD := hid (dend_any w5 hr5)
  clear ht hr5 hq5 ho5 HQ HE4 HB4
  go_wp2_with fail
  refine Calls.mono HD.out ?_
  rintro e w6 ⟨q6, ⟨hi, rfl⟩ | ⟨hi, rfl⟩, hw6⟩
  rotate_left
  · replace HE := hid (show QE w6 w.heap.size (w.heap.size + 1) (w.heap.size + 2) #[.string r9.id, .int .i64 r9.kind, .slice a9 n9 c9, .string r9.hold, .int .i64 r9.ttl, .int .i64 r9.now] 0 0 by rw [hw6]; exact HE.out)
    replace HB := hid (show Below w.heap.size w w6 by rw [hw6]; exact ⟨HB.out.os, HB.out.tape, HB.out.output, HB.out.size, HB.out.block⟩)
    clear hw6 HO HD
    go_wp2_with fail
    refine leaves_cons (f := 39) (args := #[.pointer (some ⟨w.heap.size, 0, none⟩), .pointer (some ⟨w.heap.size + 1, 0, none⟩), .pointer (some ⟨w.heap.size + 2, 0, none⟩)]) (by simp) (by simp [go_sem]) ?_
    refine (dQ_flt w.heap.size (w.heap.size + 1) (w.heap.size + 2) _ _ _ _ _ 0 0 (4 : Nat) ((fKq 81 l 4096).2.1 : Nat) _ _ _ [] _ HE.out).mono ?_
    rintro e u' w9 ⟨rfl, rfl, hqe, ho3⟩
    have q0 : w9.cell? ⟨w.heap.size, 0, none⟩ = some (.string ⟨#[]⟩) := by rw [Lib.cell_of_heap hqe.1]; rfl
    have q1 : w9.cell? ⟨w.heap.size, 1, none⟩ = some (.int .i64 0) := by rw [Lib.cell_of_heap hqe.1]; rfl
    have q2 : w9.cell? ⟨w.heap.size, 2, none⟩ = some (.slice none 0 0) := by rw [Lib.cell_of_heap hqe.1]; rfl
    have q3 : w9.cell? ⟨w.heap.size, 3, none⟩ = some (.string ⟨#[]⟩) := by rw [Lib.cell_of_heap hqe.1]; rfl
    have q4 : w9.cell? ⟨w.heap.size, 4, none⟩ = some (.int .i64 0) := by rw [Lib.cell_of_heap hqe.1]; rfl
    have q5 : w9.cell? ⟨w.heap.size, 5, none⟩ = some (.int .i64 0) := by rw [Lib.cell_of_heap hqe.1]; rfl
    have q6 : w9.cell? ⟨w.heap.size + 1, 0, none⟩ = some (.int .i64 ((4 : Nat))) := by rw [Lib.cell_of_heap hqe.2.1]; rfl
    have q7 : w9.cell? ⟨w.heap.size + 2, 0, none⟩ = some (.int .i64 (((fKq 81 l 4096).2.1 : Nat))) := by rw [Lib.cell_of_heap hqe.2.2.1]; rfl
    have HW := hid (Rdq.no (l := l) (k := (4 : Nat)) (p := ((fKq 81 l 4096).2.1 : Nat)) ((if_neg (by omega)).trans ((if_neg (fun e => e he)).trans (if_pos hi))) (HB.out.trans (ho3.below (Nat.le_refl _) (by omega) (by omega) HB.out.size)))
    clear hqe ho3
    simp [Leaves, settle, results, Try.results13, go_sem, q0, q1, q2, q3, q4, q5, q6, q7]
    exact HW.out

  replace HE := hid (show QE w6 w.heap.size (w.heap.size + 1) (w.heap.size + 2) #[.string r9.id, .int .i64 r9.kind, .slice a9 n9 c9, .string r9.hold, .int .i64 r9.ttl, .int .i64 r9.now] 0 0 by rw [hw6]; exact HE.out)
  replace HB := hid (show Below w.heap.size w w6 by rw [hw6]; exact ⟨HB.out.os, HB.out.tape, HB.out.output, HB.out.size, HB.out.block⟩)
  replace HO := hid (show OLn w6 (w.heap.size + 4) (.slice a9 n9 c9) r9.lines by rw [hw6]; exact HO.out)
  clear hw6 HD
  have c0 : w6.cell? ⟨w.heap.size, 0, none⟩ = some (.string r9.id) := by rw [Lib.cell_of_heap HE.out.1]; rfl
  have f0 : w6.frozen? ⟨w.heap.size, 0, none⟩ = false := Lib.frozen_of_heap HE.out.1 0
  have c1 : w6.cell? ⟨w.heap.size, 1, none⟩ = some (.int .i64 r9.kind) := by rw [Lib.cell_of_heap HE.out.1]; rfl
  have f1 : w6.frozen? ⟨w.heap.size, 1, none⟩ = false := Lib.frozen_of_heap HE.out.1 1
  have c2 : w6.cell? ⟨w.heap.size, 2, none⟩ = some (.slice a9 n9 c9) := by rw [Lib.cell_of_heap HE.out.1]; rfl
  have f2 : w6.frozen? ⟨w.heap.size, 2, none⟩ = false := Lib.frozen_of_heap HE.out.1 2
  have c3 : w6.cell? ⟨w.heap.size, 3, none⟩ = some (.string r9.hold) := by rw [Lib.cell_of_heap HE.out.1]; rfl
  have f3 : w6.frozen? ⟨w.heap.size, 3, none⟩ = false := Lib.frozen_of_heap HE.out.1 3
  have c4 : w6.cell? ⟨w.heap.size, 4, none⟩ = some (.int .i64 r9.ttl) := by rw [Lib.cell_of_heap HE.out.1]; rfl
  have f4 : w6.frozen? ⟨w.heap.size, 4, none⟩ = false := Lib.frozen_of_heap HE.out.1 4
  have c5 : w6.cell? ⟨w.heap.size, 5, none⟩ = some (.int .i64 r9.now) := by rw [Lib.cell_of_heap HE.out.1]; rfl
  have f5 : w6.frozen? ⟨w.heap.size, 5, none⟩ = false := Lib.frozen_of_heap HE.out.1 5
  have c6 : w6.cell? ⟨w.heap.size + 1, 0, none⟩ = some (.int .i64 (0)) := by rw [Lib.cell_of_heap HE.out.2.1]; rfl
  have c7 : w6.cell? ⟨w.heap.size + 2, 0, none⟩ = some (.int .i64 (0)) := by rw [Lib.cell_of_heap HE.out.2.2.1]; rfl
  have f6 : w6.frozen? ⟨w.heap.size + 1, 0, none⟩ = false := Lib.frozen_of_heap HE.out.2.1 0
  have f7 : w6.frozen? ⟨w.heap.size + 2, 0, none⟩ = false := Lib.frozen_of_heap HE.out.2.2.1 0

  go_wp2_with fail
  refine leaves_cons (f := 39) (args := #[.pointer (some ⟨w.heap.size, 0, none⟩), .pointer (some ⟨w.heap.size + 1, 0, none⟩), .pointer (some ⟨w.heap.size + 2, 0, none⟩)]) (by simp) (by simp [go_sem]) ?_
  refine (dQ_nil w.heap.size (w.heap.size + 1) (w.heap.size + 2) _ _ _ _ _ 0 0 _ _ _ _ (HE.out.put _ _ _ _ _ _ 0 0)).mono ?_
  rintro e u' w9 ⟨rfl, rfl, hqe, ho3⟩
  have q0 : w9.cell? ⟨w.heap.size, 0, none⟩ = some (.string r9.id) := by rw [Lib.cell_of_heap hqe.1]; rfl
  have q1 : w9.cell? ⟨w.heap.size, 1, none⟩ = some (.int .i64 r9.kind) := by rw [Lib.cell_of_heap hqe.1]; rfl
  have q2 : w9.cell? ⟨w.heap.size, 2, none⟩ = some (.slice a9 n9 c9) := by rw [Lib.cell_of_heap hqe.1]; rfl
  have q3 : w9.cell? ⟨w.heap.size, 3, none⟩ = some (.string r9.hold) := by rw [Lib.cell_of_heap hqe.1]; rfl
  have q4 : w9.cell? ⟨w.heap.size, 4, none⟩ = some (.int .i64 r9.ttl) := by rw [Lib.cell_of_heap hqe.1]; rfl
  have q5 : w9.cell? ⟨w.heap.size, 5, none⟩ = some (.int .i64 r9.now) := by rw [Lib.cell_of_heap hqe.1]; rfl
  have q6 : w9.cell? ⟨w.heap.size + 1, 0, none⟩ = some (.int .i64 (0)) := by rw [Lib.cell_of_heap hqe.2.1]; rfl
  have q7 : w9.cell? ⟨w.heap.size + 2, 0, none⟩ = some (.int .i64 (0)) := by rw [Lib.cell_of_heap hqe.2.2.1]; rfl

  have B6 := QE.o3 (qb := w.heap.size) (eb := w.heap.size + 1) (pb := w.heap.size + 2) (Below.refl w6.heap.size w6) (.string r9.id) (.int .i64 r9.kind) (.slice a9 n9 c9) (.string r9.hold) (.int .i64 r9.ttl) (.int .i64 r9.now) 0 0
  have hO9 := ho3.own (B6.own HO.out (by omega) (by omega) (by omega)) (by omega) (by omega) (by omega)
  have B7 := B6.below (B := w.heap.size) (Nat.le_refl _) (by omega) (by omega) HB.out.size
  have B9 := (HB.out.trans B7).trans (ho3.below (B := w.heap.size) (Nat.le_refl _) (by omega) (by omega) (HB.out.trans B7).size)
  have HW := hid (Rdq.yes (l := l) (r := r9) ((if_neg (by omega)).trans ((if_neg (fun e => e he)).trans ((if_neg (by omega)).trans (by rw [h9])))) (hO9.lower (show w.heap.size ≤ w.heap.size + 4 by omega)) B9)
  clear hO9 B6 B7 B9 hqe ho3
  simp [Leaves, settle, results, Try.results13, go_sem, q0, q1, q2, q3, q4, q5, q6, q7]
  exact HW.out
end Go.Proofs.Ytfhicemfhkhjaab
