/-
  PlanStrongs: the walk.
-/
import Derived.Test.YtgnnopjkbmbjbaaFl4
namespace Go.Proofs.Ytgnnopjkbmbjbaa
open Go.RowKit
set_option maxRecDepth 100000
set_option linter.unusedSimpArgs false

/-- the first k laid -/
def pA (f : Nat → Nat × Nat) (k : Nat) : Array Value := #[if 0 < k then .complex .f64 (f 0).1 (f 0).2 else .complex .f64 0 0, if 1 < k then .complex .f64 (f 1).1 (f 1).2 else .complex .f64 0 0, if 2 < k then .complex .f64 (f 2).1 (f 2).2 else .complex .f64 0 0, if 3 < k then .complex .f64 (f 3).1 (f 3).2 else .complex .f64 0 0]
def qA (f : Nat → Nat × Nat) (k : Nat) : Array Value := #[if 0 < k then .float .f64 (f 0).1 else .float .f64 0, if 0 < k then .float .f64 (f 0).2 else .float .f64 0, if 1 < k then .float .f64 (f 1).1 else .float .f64 0, if 1 < k then .float .f64 (f 1).2 else .float .f64 0, if 2 < k then .float .f64 (f 2).1 else .float .f64 0, if 2 < k then .float .f64 (f 2).2 else .float .f64 0, if 3 < k then .float .f64 (f 3).1 else .float .f64 0, if 3 < k then .float .f64 (f 3).2 else .float .f64 0]
theorem pA_set (f : Nat → Nat × Nat) (k : Nat) (hk : k < 4) : (pA f k).setIfInBounds k (.complex .f64 (f k).1 (f k).2) = pA f (k + 1) := by
  rcases (show k = 0 ∨ k = 1 ∨ k = 2 ∨ k = 3 by omega) with rfl | rfl | rfl | rfl <;> rfl
theorem qA_set (f : Nat → Nat × Nat) (k : Nat) (hk : k < 4) : ((qA f k).setIfInBounds (k * 2) (.float .f64 (f k).1)).setIfInBounds (k * 2 + 1) (.float .f64 (f k).2) = qA f (k + 1) := by
  rcases (show k = 0 ∨ k = 1 ∨ k = 2 ∨ k = 3 by omega) with rfl | rfl | rfl | rfl <;> rfl
theorem pA_size (f : Nat → Nat × Nat) (k : Nat) : (pA f k).size = 4 := rfl
theorem qA_size (f : Nat → Nat × Nat) (k : Nat) : (qA f k).size = 8 := rfl
theorem row4 {w : World} {b : Nat} {a0 a1 a2 a3 : Value} {t : TypeId} (h : w.heap[b]? = some (.cells #[a0, a1, a2, a3] t (0, 0))) (g : Nat → Value) (h0 : g 0 = a0) (h1 : g 1 = a1) (h2 : g 2 = a2) (h3 : g 3 = a3) (k : Nat) (hk : k < 4) : w.cell? ⟨b, k, none⟩ = some (g k) := by
  rw [Lib.cell_of_heap h]
  rcases (show k = 0 ∨ k = 1 ∨ k = 2 ∨ k = 3 by omega) with rfl | rfl | rfl | rfl
  · rw [h0]; rfl
  · rw [h1]; rfl
  · rw [h2]; rfl
  · rw [h3]; rfl
theorem cell_some {w : World} {b j : Nat} {cur : Array Value} {t : TypeId} (h : w.heap[b]? = some (.cells cur t (0, 0))) (hj : j < cur.size) : w.cell? ⟨b, j, none⟩ = some cur[j] := by
  rw [Lib.cell_of_heap h]; exact Array.getElem?_eq_getElem hj
theorem store_ok {w : World} {a : Addr} {u v : Value} (hv : v.oneCell' = true) (hc : w.cell? a = some u) (hf : w.frozen? a = false) : (store a v).run Try.prog w = .ok () (w.setCell a v) := by
  rw [run_store _ _ _ _ _ hv, hc]
  simp [hf]
theorem heap_keep {w w' : World} {b : Nat} {o : Obj} (h : w.heap[b]? = some o) (hb : Below w.heap.size w w') : w'.heap[b]? = some o := (hb.block b (Array.getElem?_eq_some_iff.1 h).1).trans h
theorem heap_oth {w : World} {b g o : Nat} {ob : Obj} (h : w.heap[b]? = some ob) (u : Value) (hne : b ≠ g) : (w.setCell ⟨g, o, none⟩ u).heap[b]? = some ob := (Below.heap_setCell _ _ _ _ (by show b ≠ g; exact hne)).trans h
set_option maxHeartbeats 2000000 in
theorem planStrongs_any (f : Nat → Nat × Nat) (hb : ∀ i, (f i).1 < 18446744073709551616 ∧ (f i).2 < 18446744073709551616) (w : World) :
    Calls Try.prog 6 #[.agg #[.float .f64 (f 0).1, .float .f64 (f 1).1, .float .f64 (f 2).1, .float .f64 (f 3).1], .agg #[.float .f64 (f 0).2, .float .f64 (f 1).2, .float .f64 (f 2).2, .float .f64 (f 3).2]] w fun e w' => e = .returned (.bool true) ∧ Below w.heap.size w w' := by
  have hb0 := hid hb
  clear hb
  obtain ⟨W1, hW1⟩ : ∃ W, w.alloc (.cells #[.float .f64 (f 0).1, .float .f64 (f 1).1, .float .f64 (f 2).1, .float .f64 (f 3).1] 42) = W := ⟨_, rfl⟩
  obtain ⟨W2, hW2⟩ : ∃ W, W1.alloc (.cells #[.float .f64 (f 0).2, .float .f64 (f 1).2, .float .f64 (f 2).2, .float .f64 (f 3).2] 42) = W := ⟨_, rfl⟩
  obtain ⟨W3, hW3⟩ : ∃ W, W2.alloc (.cells #[.complex .f64 0 0, .complex .f64 0 0, .complex .f64 0 0, .complex .f64 0 0] 44) = W := ⟨_, rfl⟩
  obtain ⟨W4, hW4⟩ : ∃ W, W3.alloc (.cells #[.float .f64 0, .float .f64 0, .float .f64 0, .float .f64 0, .float .f64 0, .float .f64 0, .float .f64 0, .float .f64 0] 47) = W := ⟨_, rfl⟩
  have z1 : W1.heap.size = w.heap.size + 1 := by rw [← hW1, World.size_alloc]
  have z2 : W2.heap.size = w.heap.size + 1 + 1 := by rw [← hW2, World.size_alloc, z1]
  have z3 : W3.heap.size = w.heap.size + 1 + 1 + 1 := by rw [← hW3, World.size_alloc, z2]
  have B1 : Below w.heap.size w W1 := by rw [← hW1]; exact alloc_below _ _
  have B2 : Below W1.heap.size W1 W2 := by rw [← hW2]; exact alloc_below _ _
  have B3 : Below W2.heap.size W2 W3 := by rw [← hW3]; exact alloc_below _ _
  have B4 : Below W3.heap.size W3 W4 := by rw [← hW4]; exact alloc_below _ _
  have r1 : W1.heap[w.heap.size]? = some (.cells #[.float .f64 (f 0).1, .float .f64 (f 1).1, .float .f64 (f 2).1, .float .f64 (f 3).1] 42 (0, 0)) := by rw [← hW1]; exact heap_alloc_new w _
  have i2 : W2.heap[w.heap.size + 1]? = some (.cells #[.float .f64 (f 0).2, .float .f64 (f 1).2, .float .f64 (f 2).2, .float .f64 (f 3).2] 42 (0, 0)) := by rw [← hW2, ← z1]; exact heap_alloc_new W1 _
  have p3 : W3.heap[w.heap.size + 1 + 1]? = some (.cells (pA f 0) 44 (0, 0)) := by rw [← hW3, ← z2]; exact heap_alloc_new W2 _
  have q4 : W4.heap[w.heap.size + 1 + 1 + 1]? = some (.cells (qA f 0) 47 (0, 0)) := by rw [← hW4, ← z3]; exact heap_alloc_new W3 _
  have R4 := hid (heap_keep r1 (bel_step B2 (bel_step B3 B4)))
  have I4 := hid (heap_keep i2 (bel_step B3 B4))
  have P4 := hid (heap_keep p3 B4)
  have Q4 := hid q4
  have BB := hid (bel_step B1 (bel_step B2 (bel_step B3 B4)))
  have HW := hid (And.intro hW1 (And.intro hW2 (And.intro hW3 hW4)))
  clear hW1 hW2 hW3 hW4 z1 z2 z3 B1 B2 B3 B4 r1 i2 p3 q4
  go_enter Try.func6, Try.ntmps6
  go_wp2_with fail
  rw [HW.out.1, HW.out.2.1, HW.out.2.2.1, HW.out.2.2.2]
  clear HW
  generalize hqb : w.heap.size + 1 + 1 + 1 = qb at *
  generalize hpb : w.heap.size + 1 + 1 = pb at *
  generalize hib : w.heap.size + 1 = ib at *
  generalize hrb : w.heap.size = rb at *
  have HE := hid (And.intro hqb (And.intro hpb (And.intro hib hrb)))
  clear hqb hpb hib hrb
  go_loopw [7] (fun i wr => ∃ k : Nat, k ≤ 4 ∧ i = .int .i64 (k : Int) ∧ (wr.heap[pb]? = some (.cells (pA f k) 44 (0, 0)) ∧ wr.heap[qb]? = some (.cells (qA f k) 47 (0, 0)) ∧ wr.heap[rb]? = some (.cells #[.float .f64 (f 0).1, .float .f64 (f 1).1, .float .f64 (f 2).1, .float .f64 (f 3).1] 42 (0, 0)) ∧ wr.heap[ib]? = some (.cells #[.float .f64 (f 0).2, .float .f64 (f 1).2, .float .f64 (f 2).2, .float .f64 (f 3).2] 42 (0, 0))) ∧ Below rb w wr) (fun i _ => 4 - (intOf i).toNat)
  case atStart => exact ⟨0, by omega, rfl, ⟨P4.out, Q4.out, R4.out, I4.out⟩, BB.out⟩
  case round =>
    obtain ⟨k, hk, rfl, ⟨hp, hq, hr, hi⟩, hbl⟩ := hrel
    have NE := hid (show qb ≠ pb ∧ rb ≠ pb ∧ ib ≠ pb ∧ rb ≠ qb ∧ ib ≠ qb ∧ pb ≠ qb ∧ rb ≤ pb ∧ rb ≤ qb by have := HE.out; omega)
    have HH := hid (And.intro hp (And.intro hq (And.intro hr hi)))
    have HB := hid hbl
    by_cases hlt : k < 4
    · have hI : (k : Int) < 4 := by omega
      have hI0 : (0 : Int) ≤ (k : Int) := by omega
      have HP := hid (pA_set f k hlt)
      have HQ := hid (qA_set f k hlt)
      have c1 : wr.drew.cell? ⟨rb, k, none⟩ = some (.float .f64 (f k).1) := row4 (w := wr) hr (fun i => .float .f64 (f i).1) rfl rfl rfl rfl k hlt
      have c2 : wr.drew.cell? ⟨ib, k, none⟩ = some (.float .f64 (f k).2) := row4 (w := wr) hi (fun i => .float .f64 (f i).2) rfl rfl rfl rfl k hlt
      have c3 : wr.drew.cell? ⟨pb, k, none⟩ = some _ := cell_some (w := wr) hp (by rw [pA_size]; exact hlt)
      have c4 : wr.drew.frozen? ⟨pb, k, none⟩ = false := Lib.frozen_of_heap hp k
      have N1 : wr.drew.heap[pb]? = some (.cells (pA f k) 44 (0, 0)) := hp
      have N2 : wr.drew.heap[qb]? = some (.cells (qA f k) 47 (0, 0)) := hq
      have N3 : wr.drew.heap[rb]? = some _ := hr
      have N4 : wr.drew.heap[ib]? = some _ := hi
      have NN := hid (And.intro N1 (And.intro N2 (And.intro N3 N4)))
      have BD := hid (show Below rb w wr.drew from hbl.drew)
      clear hp hq hr hi hbl N1 N2 N3 N4 HH HB
      generalize (pA f k)[k]'(by rw [pA_size]; exact hlt) = u0 at *
      have st1 := store_ok (v := .complex .f64 (f k).1 (f k).2) rfl c3 c4
      go_wp2_with fail
      go_region
      obtain ⟨W, hW⟩ : ∃ W, (wr.setCell ⟨pb, k, none⟩ (.complex .f64 (f k).1 (f k).2)).drew = W := ⟨_, rfl⟩
      have m1 : W.heap[pb]? = some (.cells (pA f (k + 1)) 44 (0, 0)) := by rw [← hW, ← HP.out]; exact Lib.heap_setCell_same NN.out.1 _
      have m2 : W.heap[qb]? = some (.cells (qA f k) 47 (0, 0)) := by rw [← hW]; exact heap_oth NN.out.2.1 _ NE.out.1
      have m3 : (wr.setCell ⟨pb, k, none⟩ (.complex .f64 (f k).1 (f k).2)).drew.heap[rb]? = some _ := heap_oth (g := pb) (o := k) NN.out.2.2.1 (.complex .f64 (f k).1 (f k).2) NE.out.2.1
      have m4 : (wr.setCell ⟨pb, k, none⟩ (.complex .f64 (f k).1 (f k).2)).drew.heap[ib]? = some _ := heap_oth (g := pb) (o := k) NN.out.2.2.2 (.complex .f64 (f k).1 (f k).2) NE.out.2.2.1
      have BW := hid (show Below rb w W by rw [← hW]; exact Below.setCell BD.out (p := ⟨pb, k, none⟩) NE.out.2.2.2.2.2.2.1 _)
      rw [hW] at m3 m4
      have HW := hid hW
      have MM := hid (And.intro m1 (And.intro m2 (And.intro m3 m4)))
      clear c1 c2 c3 c4 hW NN BD
      have c1 : W.drew.cell? ⟨rb, k, none⟩ = some (.float .f64 (f k).1) := row4 (w := W) m3 (fun i => .float .f64 (f i).1) rfl rfl rfl rfl k hlt
      have c2 : W.drew.cell? ⟨ib, k, none⟩ = some (.float .f64 (f k).2) := row4 (w := W) m4 (fun i => .float .f64 (f i).2) rfl rfl rfl rfl k hlt
      have c3 : W.drew.cell? ⟨qb, k * 2, none⟩ = some _ := cell_some (w := W) m2 (by rw [qA_size]; omega)
      have c4 : W.drew.cell? ⟨qb, k * 2 + 1, none⟩ = some _ := cell_some (w := W) m2 (by rw [qA_size]; omega)
      have c5 : ∀ o, W.drew.frozen? ⟨qb, o, none⟩ = false := fun o => Lib.frozen_of_heap m2 o
      clear m1 m2 m3 m4
      rw [HW.out]
      clear HW
      generalize (qA f k)[k * 2]'(by rw [qA_size]; omega) = u1 at *
      generalize (qA f k)[k * 2 + 1]'(by rw [qA_size]; omega) = u2 at *
      have st2 := store_ok (v := .float .f64 (f k).1) rfl c3 (c5 _)
      have st3 : (store ⟨qb, k * 2 + 1, none⟩ (.float .f64 (f k).2)).run Try.prog (W.setCell ⟨qb, k * 2, none⟩ (.float .f64 (f k).1)).drew = .ok () ((W.setCell ⟨qb, k * 2, none⟩ (.float .f64 (f k).1)).drew.setCell ⟨qb, k * 2 + 1, none⟩ (.float .f64 (f k).2)) := store_ok (u := u2) rfl (show (W.drew.setCell ⟨qb, k * 2, none⟩ (.float .f64 (f k).1)).cell? _ = _ by rw [World.cell?_setCell_other _ _ _ _ (by simp)]; exact c4) (show (W.drew.setCell ⟨qb, k * 2, none⟩ (.float .f64 (f k).1)).frozen? _ = false from Lib.frozen_of_heap (Lib.heap_setCell_same (w := W.drew) (i := k * 2) MM.out.2.1 (.float .f64 (f k).1)) _)
      go_wp2_with fail
      go_region
      have X2 := Lib.heap_setCell_same (w := W.drew.setCell ⟨qb, k * 2, none⟩ (.float .f64 (f k).1)) (i := k * 2 + 1) (Lib.heap_setCell_same (w := W.drew) (i := k * 2) MM.out.2.1 (.float .f64 (f k).1)) (.float .f64 (f k).2)
      rw [HQ.out] at X2
      have X1 := heap_oth (w := W.drew.setCell ⟨qb, k * 2, none⟩ (.float .f64 (f k).1)) (g := qb) (o := k * 2 + 1) (heap_oth (w := W.drew) (g := qb) (o := k * 2) MM.out.1 (.float .f64 (f k).1) NE.out.2.2.2.2.2.1) (.float .f64 (f k).2) NE.out.2.2.2.2.2.1
      have X3 := heap_oth (w := W.drew.setCell ⟨qb, k * 2, none⟩ (.float .f64 (f k).1)) (g := qb) (o := k * 2 + 1) (heap_oth (w := W.drew) (g := qb) (o := k * 2) MM.out.2.2.1 (.float .f64 (f k).1) NE.out.2.2.2.1) (.float .f64 (f k).2) NE.out.2.2.2.1
      have X4 := heap_oth (w := W.drew.setCell ⟨qb, k * 2, none⟩ (.float .f64 (f k).1)) (g := qb) (o := k * 2 + 1) (heap_oth (w := W.drew) (g := qb) (o := k * 2) MM.out.2.2.2 (.float .f64 (f k).1) NE.out.2.2.2.2.1) (.float .f64 (f k).2) NE.out.2.2.2.2.1
      have X5 : Below rb w ((W.drew.setCell ⟨qb, k * 2, none⟩ (.float .f64 (f k).1)).setCell ⟨qb, k * 2 + 1, none⟩ (.float .f64 (f k).2)) := Below.setCell (Below.setCell BW.out.drew (p := ⟨qb, k * 2, none⟩) NE.out.2.2.2.2.2.2.2 _) (p := ⟨qb, k * 2 + 1, none⟩) NE.out.2.2.2.2.2.2.2 _
      have XX := hid (And.intro (And.intro X1 (And.intro X2 (And.intro X3 X4))) X5)
      clear X1 X2 X3 X4 X5 st1 st2 st3 c1 c2 c3 c4 c5
      go_wp2_with fail
      go_roundw
      case rel => exact ⟨k + 1, by omega, by go_num, XX.out.1, XX.out.2⟩
      case measure => simp [intOf]; omega
    · obtain rfl : k = 4 := by omega
      have p0 : wr.cell? ⟨pb, 0, none⟩ = some (.complex .f64 (f 0).1 (f 0).2) := by rw [Lib.cell_of_heap hp]; rfl
      have p1 : wr.cell? ⟨pb, 1, none⟩ = some (.complex .f64 (f 1).1 (f 1).2) := by rw [Lib.cell_of_heap hp]; rfl
      have p2 : wr.cell? ⟨pb, 2, none⟩ = some (.complex .f64 (f 2).1 (f 2).2) := by rw [Lib.cell_of_heap hp]; rfl
      have p3 : wr.cell? ⟨pb, 3, none⟩ = some (.complex .f64 (f 3).1 (f 3).2) := by rw [Lib.cell_of_heap hp]; rfl
      have HQ := hid hq
      have S1 := hid (strong_any f hb0.out wr)
      have S2 := hid (fun wx => rstrong_any f wx)
      clear hp hq hr hi hbl HH
      go_wp2_with fail
      refine Calls.mono S1.out ?_
      rintro e w1 ⟨rfl, s1⟩
      have hq := heap_keep HQ.out s1
      have B1 := hid (show Below rb w w1 from HB.out.trans (s1.mono (by have := HE.out; have := HB.out.size; omega)))
      obtain ⟨kk, r, er, hV, hn⟩ := stV_form f
      have HV := hid hV
      rw [hV]
      have q0 : w1.cell? ⟨qb, 0, none⟩ = some (.float .f64 (f 0).1) := by rw [Lib.cell_of_heap hq]; rfl
      have q1 : w1.cell? ⟨qb, 1, none⟩ = some (.float .f64 (f 0).2) := by rw [Lib.cell_of_heap hq]; rfl
      have q2 : w1.cell? ⟨qb, 2, none⟩ = some (.float .f64 (f 1).1) := by rw [Lib.cell_of_heap hq]; rfl
      have q3 : w1.cell? ⟨qb, 3, none⟩ = some (.float .f64 (f 1).2) := by rw [Lib.cell_of_heap hq]; rfl
      have q4 : w1.cell? ⟨qb, 4, none⟩ = some (.float .f64 (f 2).1) := by rw [Lib.cell_of_heap hq]; rfl
      have q5 : w1.cell? ⟨qb, 5, none⟩ = some (.float .f64 (f 2).2) := by rw [Lib.cell_of_heap hq]; rfl
      have q6 : w1.cell? ⟨qb, 6, none⟩ = some (.float .f64 (f 3).1) := by rw [Lib.cell_of_heap hq]; rfl
      have q7 : w1.cell? ⟨qb, 7, none⟩ = some (.float .f64 (f 3).2) := by rw [Lib.cell_of_heap hq]; rfl
      have NS := hid (fun wx => number_same r hn wx)
      clear hq s1 p0 p1 p2 p3 hV hn HQ HB
      go_wp2_with fail
      refine Calls.mono (S2.out _) ?_
      rintro e w2 ⟨rfl, s2⟩
      have B2 := hid (show Below rb w w2 from B1.out.trans (s2.mono (by have := HE.out; have := B1.out.size; omega)))
      rw [HV.out]
      clear s2 B1 q0 q1 q2 q3 q4 q5 q6 q7
      go_wp2_with fail
      refine Calls.mono (NS.out _) ?_
      rintro e w3 ⟨rfl, rfl⟩
      go_wp2
      go_ret
      exact ⟨rfl, by rw [HE.out.2.2.2]; exact B2.out⟩
end Go.Proofs.Ytgnnopjkbmbjbaa
