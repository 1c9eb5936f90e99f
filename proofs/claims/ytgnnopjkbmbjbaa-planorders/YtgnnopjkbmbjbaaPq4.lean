/-
  plan: the law's within; a Restock of one item.
-/
import Derived.Test.YtgnnopjkbmbjbaaPq3
namespace Go.Proofs.Ytgnnopjkbmbjbaa
open Go.RowKit
set_option maxRecDepth 100000
set_option linter.unusedSimpArgs false

set_option maxHeartbeats 1000000 in
theorem lwithin_any (x lo hi : Int) (w : World) (hx : I64 x) (h1 : 0 ≤ lo) (h2 : lo ≤ hi) (h3 : hi ≤ 1099511627776) :
    Calls Try.prog 8 #[.int .i64 x, .int .i64 lo, .int .i64 hi] w fun e w' => ∃ r : Int, e = .returned (.int .i64 r) ∧ (lo ≤ r ∧ r ≤ hi) ∧ w' = w := by
  obtain ⟨x1, x2⟩ := hx
  have hm : 0 < hi - lo + 1 := by omega
  have hm0 : ¬ hi - lo + 1 = 0 := by omega
  by_cases hn : x < 0
  · have e1 : (-(x + 1)).tmod (hi - lo + 1) = (-(x + 1)) % (hi - lo + 1) := Int.tmod_eq_emod_of_nonneg (by omega)
    have b1 := Int.emod_nonneg (-(x + 1)) hm0
    have b2 := Int.emod_lt_of_pos (-(x + 1)) hm
    generalize (-(x + 1)) % (hi - lo + 1) = r at *
    go_enter Try.func8, Try.ntmps8
    go_wp2
    go_ret
    exact ⟨_, rfl, ⟨by omega, by omega⟩, rfl⟩
  · have e1 : x.tmod (hi - lo + 1) = x % (hi - lo + 1) := Int.tmod_eq_emod_of_nonneg (by omega)
    have b1 := Int.emod_nonneg x hm0
    have b2 := Int.emod_lt_of_pos x hm
    generalize x % (hi - lo + 1) = r at *
    go_enter Try.func8, Try.ntmps8
    go_wp2
    go_ret
    exact ⟨_, rfl, ⟨by omega, by omega⟩, rfl⟩
/-- one item that may be: no error, its line -/
theorem restock_one (v : Value) (x : It) (w : World) (h : RL itC 6 w v [x]) (ok : itOk x ⟨#[]⟩ = true) :
    Calls Try.prog 9 #[v] w fun e w' => (∃ u, e = .returned (.tuple #[u, .int .i64 0, .int .i64 0]) ∧ OL lnC 2 31 w' w.heap.size u (rs1 x)) ∧ Below w.heap.size w w' := by
  refine (restock_any v [x] w h (by simp)).mono ?_
  rintro e w' ⟨⟨u, M, er, n, rfl, hA, hO⟩, hb⟩
  rcases hA with ⟨h1, _⟩ | ⟨_, k, hk, _, hn, _⟩ | ⟨_, _, rfl, rfl, rfl⟩
  · simp at h1
  · obtain rfl : k = 0 := by simp at hk; omega
    simp only [List.getElem_cons_zero, ahd_zero] at hn
    rw [ok] at hn; cases hn
  · refine ⟨⟨u, rfl, ?_⟩, hb⟩
    simpa [rsL] using hO
theorem rs1_yes {x : It} (hp : 1 ≤ x.pack) (h1 : x.have_ + x.coming ≤ x.point) (h2 : x.have_ + x.coming < x.upto) :
    ∃ q, rs1 x = [(x.code, q)] ∧ 0 < q ∧ q % x.pack = 0 ∧ x.upto ≤ x.have_ + x.coming + q ∧ x.have_ + x.coming + q - x.pack < x.upto := by
  refine ⟨wan x, if_pos ((wan_pos x hp).2 ⟨h1, h2⟩), (wan_pos x hp).2 ⟨h1, h2⟩, ?_⟩
  have e : wan x = (x.upto - (x.have_ + x.coming) + x.pack - 1) / x.pack * x.pack := if_neg (by omega)
  have a1 := Int.mul_ediv_add_emod (x.upto - (x.have_ + x.coming) + x.pack - 1) x.pack
  have a2 := Int.emod_nonneg (x.upto - (x.have_ + x.coming) + x.pack - 1) (show x.pack ≠ 0 by omega)
  have a3 := Int.emod_lt_of_pos (x.upto - (x.have_ + x.coming) + x.pack - 1) (show 0 < x.pack by omega)
  rw [Int.mul_comm] at a1
  rw [e]
  refine ⟨by simp, ?_, ?_⟩ <;> generalize (x.upto - (x.have_ + x.coming) + x.pack - 1) / x.pack * x.pack = q at * <;> omega
theorem rs1_no {x : It} (hp : 1 ≤ x.pack) (h : x.point < x.have_ + x.coming ∨ x.upto ≤ x.have_ + x.coming) : rs1 x = [] := if_neg (by rw [wan_pos x hp]; omega)
theorem one_line {w : World} {base : Nat} {u : Value} {y : Ln} (h : OL lnC 2 31 w base u [y]) : ∃ b off c, u = .slice (some ⟨b, off, none⟩) 1 c ∧ 1 ≤ c ∧ w.cell? ⟨b, off, none⟩ = some (.string y.1) ∧ w.cell? ⟨b, off + 1, none⟩ = some (.int .i64 y.2) := by
  obtain ⟨g, off, c, hv, hc, hr⟩ := (OL.reads lnC_len h).form (by simp)
  exact ⟨g, off, c, hv, hc, by simpa using hr 0 (by simp) 0 _ rfl, by simpa using hr 0 (by simp) 1 _ rfl⟩
end Go.Proofs.Ytgnnopjkbmbjbaa
