/-
  beginning, take: of any rest.
-/
import Derived.Test.YtaiccmbhdgecgaaMn2
import Derived.Test.YtaiccmbhdgecgaaDv7
import Derived.Test.YtaiccmbhdgecgaaNt3
namespace Go.Proofs.Ytaiccmbhdgecgaa
open Go.RowKit
set_option maxRecDepth 100000

theorem div64_any (x y : Nat) (w : World) (hy0 : 1 ≤ y) (hy : y ≤ 24) (hx : x < y * 18446744073709551616) :
    Calls Try.prog 69 #[.int .u64 ((x / 18446744073709551616 : Nat) : Int), .int .u64 ((x % 18446744073709551616 : Nat) : Int), .int .u64 (y : Int)] w fun e w' => (∃ r, e = .returned (.tuple #[.int .u64 ((x / y : Nat) : Int), r])) ∧ ∃ n, w' = w.drewN n := by
  have hm : x % 18446744073709551616 < 18446744073709551616 := Nat.mod_lt _ (by decide)
  rcases Nat.eq_zero_or_pos (x / 18446744073709551616) with h | h
  · have hx2 : x % 18446744073709551616 = x := Nat.mod_eq_of_lt (Nat.lt_of_div_eq_zero (by decide) h)
    rw [h, hx2]
    rw [hx2] at hm
    exact (div64_small x y w hm hy0 (by omega)).mono fun e w' g => ⟨⟨_, g.1⟩, g.2⟩
  · have h2 : x / 18446744073709551616 < y := Nat.div_lt_of_lt_mul (by rw [Nat.mul_comm]; exact hx)
    have h3 := div64_hi (x / 18446744073709551616) (x % 18446744073709551616) y w h h2 hy hm
    have e1 : x / 18446744073709551616 * 18446744073709551616 + x % 18446744073709551616 = x := by
      rw [Nat.mul_comm]
      exact Nat.div_add_mod x 18446744073709551616
    rw [e1] at h3
    exact h3
set_option maxHeartbeats 400000 in
theorem beg24 (rb g n c p m h l : Nat) (row : Array Value) (w : World) (hr : RB w rb g n c p m row) (hl : row[h]? = some (.int .i64 (l : Int))) (hh : h < n) (hp : 1 ≤ p) (hp2 : p ≤ 24) (hm : m ≤ 4611686018427387904) (hlp : l ≤ p) :
    Calls Try.prog 35 #[.pointer (some ⟨rb, 0, none⟩), .int .i64 (h : Int)] w fun e w' => e = .returned (.int .i64 ((m * l / p : Nat) : Int)) ∧ ∃ nn, w' = w.drewN nn := by
  obtain ⟨h1, h2⟩ := hr
  have c0 : w.cell? ⟨rb, 0, none⟩ = some (.slice (some ⟨g, 0, none⟩) n c) := by rw [Lib.cell_of_heap h1]; rfl
  have c1 : w.cell? ⟨rb, 1, none⟩ = some (.int .i64 (p : Int)) := by rw [Lib.cell_of_heap h1]; rfl
  have c2 : w.cell? ⟨rb, 2, none⟩ = some (.int .i64 (m : Int)) := by rw [Lib.cell_of_heap h1]; rfl
  have d0 : w.cell? ⟨g, h, none⟩ = some (.int .i64 (l : Int)) := by rw [Lib.cell_of_heap h2]; exact hl
  have hhI : (h : Int) < (n : Int) := by omega
  have hmI : (m : Int) ≤ 4611686018427387904 := Int.ofNat_le.2 hm
  have hl24 : (l : Int) ≤ 24 := by omega
  have hpI : (p : Int) ≤ 24 := by omega
  have HMu := hid (fun w => Try.bits_Mul64 m l (Nat.lt_of_le_of_lt hm (by decide)) (Nat.lt_of_le_of_lt (Nat.le_trans hlp hp2) (by decide)) w)
  have hml : m * l ≤ 4611686018427387904 * p := Nat.mul_le_mul hm hlp
  have hml2 : m * l < p * 18446744073709551616 := by
    rw [Nat.mul_comm p]
    exact Nat.lt_of_le_of_lt hml (Nat.mul_lt_mul_of_pos_right (by decide) hp)
  have HDv := hid (fun w => div64_any (m * l) p w hp hp2 hml2)
  have hq : m * l / p ≤ 4611686018427387904 := by
    apply Nat.div_le_of_le_mul
    rw [Nat.mul_comm p]
    exact hml
  have hqI : ((m * l / p : Nat) : Int) ≤ 4611686018427387904 := Int.ofNat_le.2 hq
  obtain ⟨X, hX⟩ : ∃ X, m * l / 18446744073709551616 = X := ⟨_, rfl⟩
  obtain ⟨Y, hY⟩ : ∃ Y, m * l % 18446744073709551616 = Y := ⟨_, rfl⟩
  rw [hX, hY] at HMu HDv
  obtain ⟨q, hqe⟩ : ∃ q, m * l / p = q := ⟨_, rfl⟩
  rw [hqe] at HDv hqI ⊢
  have hYI : (Y : Int) < 18446744073709551616 := Int.ofNat_lt.2 (by rw [← hY]; exact Nat.mod_lt _ (by decide))
  clear h1 h2 hl hX hY hqe hml hml2 hm hq
  go_enter Try.func35, Try.ntmps35
  go_wp2_with fail
  go_quiet (first | (go_at_call 68; exact Calls.quiet_of_same (HMu.out _)))
  go_wp2_with fail
  refine Calls.mono (HDv.out _) ?_
  rintro e w2 ⟨⟨rr, rfl⟩, n2, rfl⟩
  go_wp2
  go_ret
  exact ⟨rfl, nq + n2, by first | rfl | rw [World.drewN_drewN]⟩
set_option maxHeartbeats 400000 in
theorem take24 (rb g n c p m h l : Nat) (row : Array Value) (w : World) (hr : RB w rb g n c p m row) (hg : g ≠ rb) (hl : row[h]? = some (.int .i64 (l : Int))) (hh : h < n) (hp : 1 ≤ p) (hp2 : p ≤ 24) (hm : m ≤ 4611686018427387904) (hlp : l ≤ p) (hl1 : 1 ≤ l) :
    Calls Try.prog 36 #[.pointer (some ⟨rb, 0, none⟩), .int .i64 (h : Int)] w fun e w' => e = .returned (.tuple #[]) ∧ RB w' rb g n c (p - 1) (m * l / p) (row.setIfInBounds h (.int .i64 ((l - 1 : Nat) : Int))) ∧ Of2 rb g w w' := by
  have HBg := hid (beg24 rb g n c p m h l row w hr hl hh hp hp2 hm hlp)
  obtain ⟨h1, h2⟩ := hr
  have H1 := hid h1
  have H2 := hid h2
  have c0 : w.cell? ⟨rb, 0, none⟩ = some (.slice (some ⟨g, 0, none⟩) n c) := by rw [Lib.cell_of_heap h1]; rfl
  have c1 : w.cell? ⟨rb, 1, none⟩ = some (.int .i64 (p : Int)) := by rw [Lib.cell_of_heap h1]; rfl
  have c2 : w.cell? ⟨rb, 2, none⟩ = some (.int .i64 (m : Int)) := by rw [Lib.cell_of_heap h1]; rfl
  have d0 : w.cell? ⟨g, h, none⟩ = some (.int .i64 (l : Int)) := by rw [Lib.cell_of_heap h2]; exact hl
  have f1 : w.frozen? ⟨rb, 1, none⟩ = false := Lib.frozen_of_heap h1 1
  have f2 : w.frozen? ⟨rb, 2, none⟩ = false := Lib.frozen_of_heap h1 2
  have f3 : w.frozen? ⟨g, h, none⟩ = false := Lib.frozen_of_heap h2 h
  have hhI : (h : Int) < (n : Int) := by omega
  have hgn : ¬ rb = g := fun e => hg e.symm
  have e1 : ((l - 1 : Nat) : Int) = (l : Int) - 1 := by omega
  have e2 : ((p - 1 : Nat) : Int) = (p : Int) - 1 := by omega
  have E1 := hid e1
  have E2 := hid e2
  have hl24 : (l : Int) ≤ 24 := by omega
  have hpI : (p : Int) ≤ 24 := by omega
  clear h1 h2 hl e1 e2 hm
  unfold RB
  generalize m * l / p = q at *
  go_enter Try.func36, Try.ntmps36
  go_wp2_with fail
  refine Calls.mono HBg.out ?_
  rintro e w2 ⟨rfl, n2, rfl⟩
  go_wp2
  go_end0
  have g0 : (w.drewN n2).heap[rb]? = w.heap[rb]? := rfl
  have g1 : (w.drewN n2).heap[g]? = w.heap[g]? := rfl
  have k1 := heap_setCell_same (w.drewN n2) rb 2 _ _ (.int .i64 (q : Int)) (g0.trans H1.out)
  have k2 := (heap_setCell_other (w.drewN n2) ⟨rb, 2, none⟩ g (.int .i64 (q : Int)) hg).trans (g1.trans H2.out)
  have k3 := (heap_setCell_other _ ⟨g, h, none⟩ rb (.int .i64 ((l : Int) - 1)) hgn).trans k1
  have k4 := heap_setCell_same _ g h _ _ (.int .i64 ((l : Int) - 1)) k2
  have k5 := heap_setCell_same _ rb 1 _ _ (.int .i64 ((p : Int) - 1)) k3
  have k6 := (heap_setCell_other _ ⟨rb, 1, none⟩ g (.int .i64 ((p : Int) - 1)) hg).trans k4
  refine ⟨rfl, ⟨?_, ?_⟩, ?_⟩
  · rw [E2.out]
    exact k5
  · rw [E1.out]
    exact k6
  · refine ⟨rfl, rfl, rfl, by simp, fun k ha hb => ?_⟩
    rw [heap_setCell_other _ ⟨rb, 1, none⟩ k _ ha, heap_setCell_other _ ⟨g, h, none⟩ k _ hb, heap_setCell_other _ ⟨rb, 2, none⟩ k _ ha]
    rfl
end Go.Proofs.Ytaiccmbhdgecgaa
