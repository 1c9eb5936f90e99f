/-
  Lists of days in memory.
-/
import Derived.Test.YtjmainmidacmfaaDoorWalked
import Derived.Test.YtjmainmidacmfaaDoorAt
namespace Go.Proofs.YtjmainmidacmfaaDoor
open Go.RowKit
set_option maxRecDepth 100000

/-- the slice v reads as the n days f 0, f 1, .. -/
def RD (w : World) (v : Value) (n : Nat) (f : Nat → Int) : Prop :=
  (n = 0 ∧ ∃ ao cap, v = .slice ao 0 cap) ∨ ∃ g cap, v = .slice (some ⟨g, 0, none⟩) n cap ∧ n ≤ cap ∧ ∀ j, j < n → w.cell? ⟨g, j * 3, none⟩ = some (.int .i64 (dY (f j))) ∧ w.cell? ⟨g, j * 3 + 1, none⟩ = some (.int .i64 (dM (f j))) ∧ w.cell? ⟨g, j * 3 + 2, none⟩ = some (.int .i64 (dD (f j)))
theorem RD.below {w w' : World} {v : Value} {n : Nat} {f : Nat → Int} (h : RD w v n f) (hb : Below w.heap.size w w') : RD w' v n f := by
  rcases h with h | ⟨g, cap, hv, hc, hcell⟩
  · exact .inl h
  · exact .inr ⟨g, cap, hv, hc, fun j hj => ⟨cell_old (hcell j hj).1 hb, cell_old (hcell j hj).2.1 hb, cell_old (hcell j hj).2.2 hb⟩⟩

theorem dc_at (L : List Int) (j : Nat) (x : Int) (h : L[j]? = some x) : (dc L)[j * 3]? = some (.int .i64 (dY x)) ∧ (dc L)[j * 3 + 1]? = some (.int .i64 (dM x)) ∧ (dc L)[j * 3 + 2]? = some (.int .i64 (dD x)) := by
  induction L generalizing j with
  | nil => simp at h
  | cons y t ih =>
    cases j with
    | zero => simp at h; subst h; simp [dc, dcE]
    | succ j =>
      have := ih j (by simpa using h)
      have e : (j + 1) * 3 = j * 3 + 3 := by omega
      rw [e]
      simpa [dc, dcE] using this

theorem RD.of_row {w : World} {base : Nat} {v : Value} {n : Nat} {a s : Int} (h : w.ownsRow base 36 3 v n (dc (upE a s n))) : RD w v n (fun j => a + (j : Int) * s) := by
  have hc := fun g hg j u hu => World.ownsRow.cells h (g := g) hg j u hu
  rcases h.2 with ⟨rfl, h0⟩ | ⟨g, cap, cur, rfl, _, _, hn, _⟩
  · subst h0
    exact .inl ⟨rfl, none, 0, rfl⟩
  · refine .inr ⟨g, cap, rfl, hn, fun j hj => ?_⟩
    have e := dc_at (upE a s n) j (a + (j : Int) * s) (upE_at a s n j hj)
    have q := hc g rfl
    have q0 := q _ _ e.1
    have q1 := q _ _ e.2.1
    have q2 := q _ _ e.2.2
    rw [Addr.add_lit] at q0 q1 q2
    simp only [Nat.zero_add] at q0 q1 q2
    exact ⟨q0, q1, q2⟩

theorem at_good (k : Int) (h0 : 0 ≤ k) (h1 : k ≤ 3652424) (w : World) (hA : HasAh w) :
    Calls Tryd.prog 14 #[.int .i64 k] w fun e w' => e = .returned (dV (dY k) (dM k) (dD k)) ∧ Below w.heap.size w w' := by
  have h := at_anyE k (by omega) w hA
  rw [wi_self k 3652424 h0 h1] at h
  exact h
theorem dn_dt (k : Int) (h0 : 0 ≤ k) (h1 : k ≤ 3652424) : dn (dY k) (dM k) (dD k) = k := by
  obtain ⟨hv, hn⟩ := dt_is k (by omega)
  unfold dn
  rw [if_pos hv, hn]
theorem stE_dt (p q s : Int) (h0 : 0 ≤ p ∧ p ≤ 3652424) (h1 : 0 ≤ q ∧ q ≤ 3652424) (hs : -3652425 ≤ s ∧ s ≤ 3652425) : stE (dY p) (dM p) (dD p) (dY q) (dM q) (dD q) s = s := by
  obtain ⟨hv, _⟩ := dt_is p (by omega)
  obtain ⟨hv', _⟩ := dt_is q (by omega)
  unfold stE clS
  rw [if_pos ⟨hv, hv'⟩]
  omega
theorem walked_dt (p q s most : Int) (n : Nat) (h0 : 0 ≤ p ∧ p ≤ 3652424) (h1 : 0 ≤ q ∧ q ≤ 3652424) (hs : -3652425 ≤ s ∧ s ≤ 3652425) (hn : wkK (cnE p q s) most = n) (w : World) (hA : HasAh w) :
    Calls Tryd.prog 19 #[dV (dY p) (dM p) (dD p), dV (dY q) (dM q) (dD q), .int .i64 s, .int .i64 most] w fun e w' => (∃ v, e = .returned v ∧ RD w' v n (fun j => p + (j : Int) * s)) ∧ Below w.heap.size w w' := by
  refine (walked_any _ _ _ _ _ _ s most w hA).mono ?_
  rintro e w' ⟨v, rfl, hr, hb⟩
  rw [dn_dt p h0.1 h0.2, dn_dt q h1.1 h1.2, stE_dt p q s h0 h1 hs, hn] at hr
  exact ⟨⟨v, rfl, RD.of_row hr⟩, hb⟩
end Go.Proofs.YtjmainmidacmfaaDoor
