/-
  Steps of few picks: beginning, take.
-/
import Derived.Test.YtaiccmbhdgecgaaNt2
import Derived.Test.YtaiccmbhdgecgaaLe3
import Derived.Deep.QuietTactic
import Derived.BigQuiet
namespace Go.Proofs.Ytaiccmbhdgecgaa
open Go.RowKit
set_option maxRecDepth 100000

set_option maxHeartbeats 400000 in
theorem div64_small (x y : Nat) (w : World) (hx : x < 18446744073709551616) (hy0 : 1 ≤ y) (hy : y < 18446744073709551616) :
    Calls Try.prog 69 #[.int .u64 0, .int .u64 (x : Int), .int .u64 (y : Int)] w fun e w' => e = .returned (.tuple #[.int .u64 ((x / y : Nat) : Int), .int .u64 ((x % y : Nat) : Int)]) ∧ ∃ n, w' = w.drewN n := by
  have hz : ((y : Int) == 0) = false := by simp; omega
  have hz2 : (y : Int) ≠ 0 := by omega
  have hz3 : ¬ (y : Int) ≤ 0 := by omega
  go_enter Try.func69, Try.ntmps69
  go_wp2
  go_quiet (fail)
  go_wp2
  go_ret2
  refine ⟨?_, _, rfl⟩
  show Ending.returned (.tuple #[.int .u64 (IntKind.u64.wrap ((x : Int) / (y : Int))), .int .u64 ((x : Int) % (y : Int))]) = _
  have e : IntKind.u64.wrap ((x : Int) / (y : Int)) = ((x / y : Nat) : Int) := by
    rw [show (x : Int) / (y : Int) = ((x / y : Nat) : Int) from rfl, IntKind.wrap_u64]
    have := Nat.div_le_self x y
    generalize x / y = q at *
    omega
  rw [e]
  rfl
/-- what is left to be picked, in block rb: its steps lie in block g -/
def RB (w : World) (rb g n c p m : Nat) (row : Array Value) : Prop := w.heap[rb]? = some (.cells #[.slice (some ⟨g, 0, none⟩) n c, .int .i64 (p : Int), .int .i64 (m : Int)] 63 (0, 0)) ∧ w.heap[g]? = some (.cells row 3 (0, 0))
set_option maxHeartbeats 400000 in
theorem beg_any (rb g n c p m h l : Nat) (row : Array Value) (w : World) (hr : RB w rb g n c p m row) (hl : row[h]? = some (.int .i64 (l : Int))) (hh : h < n) (hp : 1 ≤ p) (hp2 : p ≤ 3) (hm : m ≤ 3) (hl3 : l ≤ 3) :
    Calls Try.prog 35 #[.pointer (some ⟨rb, 0, none⟩), .int .i64 (h : Int)] w fun e w' => e = .returned (.int .i64 ((m * l / p : Nat) : Int)) ∧ ∃ nn, w' = w.drewN nn := by
  obtain ⟨h1, h2⟩ := hr
  have c0 : w.cell? ⟨rb, 0, none⟩ = some (.slice (some ⟨g, 0, none⟩) n c) := by rw [Lib.cell_of_heap h1]; rfl
  have c1 : w.cell? ⟨rb, 1, none⟩ = some (.int .i64 (p : Int)) := by rw [Lib.cell_of_heap h1]; rfl
  have c2 : w.cell? ⟨rb, 2, none⟩ = some (.int .i64 (m : Int)) := by rw [Lib.cell_of_heap h1]; rfl
  have d0 : w.cell? ⟨g, h, none⟩ = some (.int .i64 (l : Int)) := by rw [Lib.cell_of_heap h2]; exact hl
  have hhI : (h : Int) < (n : Int) := by omega
  have HMu := hid (fun w => Try.bits_Mul64 m l (by omega) (by omega) w)
  have hml : m * l ≤ 3 * 3 := Nat.mul_le_mul hm hl3
  have e1 : m * l / 18446744073709551616 = 0 := Nat.div_eq_of_lt (by omega)
  have e2 : m * l % 18446744073709551616 = m * l := Nat.mod_eq_of_lt (by omega)
  rw [e1, e2] at HMu
  have HDv := hid (fun w => div64_small (m * l) p w (by omega) hp (by omega))
  clear e1 e2 h1 h2 hl
  have hq : m * l / p ≤ 9 := Nat.le_trans (Nat.div_le_self _ _) hml
  generalize m * l = z at *
  generalize z / p = q at *
  go_enter Try.func35, Try.ntmps35
  go_wp2_with fail
  go_quiet (first | (go_at_call 68; exact Calls.quiet_of_same (HMu.out _)))
  go_wp2_with fail
  refine Calls.mono (HDv.out _) ?_
  rintro e w2 ⟨rfl, n2, rfl⟩
  go_wp2
  go_ret
  exact ⟨rfl, nq + n2, by first | rfl | rw [World.drewN_drewN]⟩
/-- nothing but the blocks a and b has turned -/
def Of2 (a b : Nat) (w w' : World) : Prop := w'.os = w.os ∧ w'.tape = w.tape ∧ w'.output = w.output ∧ w'.heap.size = w.heap.size ∧ ∀ k, k ≠ a → k ≠ b → w'.heap[k]? = w.heap[k]?
theorem Of2.below {a b B : Nat} {w w' : World} (h : Of2 a b w w') (ha : B ≤ a) (hb : B ≤ b) : Below B w w' :=
  ⟨h.1, h.2.1, h.2.2.1, by rw [h.2.2.2.1]; exact Nat.le_refl _, fun k hk => h.2.2.2.2 k (by omega) (by omega)⟩
theorem OI.of2 {a b base : Nat} {w w' : World} {v : Value} {R : List Int} (h : OI w base v R) (k : Of2 a b w w') (ha : a < base) (hb : b < base) : OI w' base v R := by
  refine ⟨h.1, ?_⟩
  rcases h.2 with h2 | ⟨g, cap, cur, hv, hg, hh, r⟩
  · exact .inl h2
  · exact .inr ⟨g, cap, cur, hv, hg, (k.2.2.2.2 g (by omega) (by omega)).trans hh, r⟩
set_option maxHeartbeats 400000 in
theorem take_any (rb g n c p m h l : Nat) (row : Array Value) (w : World) (hr : RB w rb g n c p m row) (hg : g ≠ rb) (hl : row[h]? = some (.int .i64 (l : Int))) (hh : h < n) (hp : 1 ≤ p) (hp2 : p ≤ 3) (hm : m ≤ 3) (hl3 : l ≤ 3) (hl1 : 1 ≤ l) :
    Calls Try.prog 36 #[.pointer (some ⟨rb, 0, none⟩), .int .i64 (h : Int)] w fun e w' => e = .returned (.tuple #[]) ∧ RB w' rb g n c (p - 1) (m * l / p) (row.setIfInBounds h (.int .i64 ((l - 1 : Nat) : Int))) ∧ Of2 rb g w w' := by
  have HBg := hid (beg_any rb g n c p m h l row w hr hl hh hp hp2 hm hl3)
  obtain ⟨h1, h2⟩ := hr
  have H1 := hid h1
  have H2 := hid h2
  have c0 : w.cell? ⟨rb, 0, none⟩ = some (.slice (some ⟨g, 0, none⟩) n c) := by rw [Lib.cell_of_heap h1]; rfl
  have c1 : w.cell? ⟨rb, 1, none⟩ = some (.int .i64 (p : Int)) := by rw [Lib.cell_of_heap h1]; rfl
  have c2 : w.cell? ⟨rb, 2, none⟩ = some (.int .i64 (m : Int)) := by rw [Lib.cell_of_heap h1]; rfl
  have d0 : w.cell? ⟨g, h, none⟩ = some (.int .i64 (l : Int)) := by rw [Lib.cell_of_heap h2]; exact hl
  have f1 : w.frozen? ⟨rb, 1, none⟩ = false := Lib.frozen_of_heap h1 1
  have f2 : w.frozen? ⟨rb, 2, none⟩ = false := Lib.frozen_of_heap h1 2
  have f3 : w.frozen? ⟨g, h, none⟩ = false := Lib.frozen_of_heap h2 h
  have hhI : (h : Int) < (n : Int) := by omega
  have hgn : ¬ rb = g := fun e => hg e.symm
  have e1 : ((l - 1 : Nat) : Int) = (l : Int) - 1 := by omega
  have e2 : ((p - 1 : Nat) : Int) = (p : Int) - 1 := by omega
  have E1 := hid e1
  have E2 := hid e2
  have hml : m * l ≤ 3 * 3 := Nat.mul_le_mul hm hl3
  have hq : m * l / p ≤ 9 := Nat.le_trans (Nat.div_le_self _ _) hml
  clear h1 h2 hl e1 e2 hml
  unfold RB
  generalize m * l / p = q at *
  go_enter Try.func36, Try.ntmps36
  go_wp2_with fail
  refine Calls.mono HBg.out ?_
  rintro e w2 ⟨rfl, n2, rfl⟩
  go_wp2
  go_end0
  have g0 : (w.drewN n2).heap[rb]? = w.heap[rb]? := rfl
  have g1 : (w.drewN n2).heap[g]? = w.heap[g]? := rfl
  have k1 := heap_setCell_same (w.drewN n2) rb 2 _ _ (.int .i64 (q : Int)) (g0.trans H1.out)
  have k2 := (heap_setCell_other (w.drewN n2) ⟨rb, 2, none⟩ g (.int .i64 (q : Int)) hg).trans (g1.trans H2.out)
  have k3 := (heap_setCell_other _ ⟨g, h, none⟩ rb (.int .i64 ((l : Int) - 1)) hgn).trans k1
  have k4 := heap_setCell_same _ g h _ _ (.int .i64 ((l : Int) - 1)) k2
  have k5 := heap_setCell_same _ rb 1 _ _ (.int .i64 ((p : Int) - 1)) k3
  have k6 := (heap_setCell_other _ ⟨rb, 1, none⟩ g (.int .i64 ((p : Int) - 1)) hg).trans k4
  refine ⟨rfl, ⟨?_, ?_⟩, ?_⟩
  · rw [E2.out]
    exact k5
  · rw [E1.out]
    exact k6
  · refine ⟨rfl, rfl, rfl, by simp, fun k ha hb => ?_⟩
    rw [heap_setCell_other _ ⟨rb, 1, none⟩ k _ ha, heap_setCell_other _ ⟨g, h, none⟩ k _ hb, heap_setCell_other _ ⟨rb, 2, none⟩ k _ ha]
    rfl
end Go.Proofs.Ytaiccmbhdgecgaa
