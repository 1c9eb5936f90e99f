/-
  same; areBelow, isCount, slices.Min.
-/
import Derived.Test.YtaiccmbhdgecgaaSb
namespace Go.Proofs.Ytaiccmbhdgecgaa
open Go.RowKit
set_option maxRecDepth 100000

/-- so many handlers may be -/
def okN (n : Int) : Bool := decide (1 ≤ n ∧ n ≤ 16)
theorem okN_iff (n : Int) : okN n = true ↔ 1 ≤ n ∧ n ≤ 16 := by simp [okN]
theorem okN_no {n : Int} (h : ¬ (1 ≤ n ∧ n ≤ 16)) : okN n = false := by unfold okN; exact decide_eq_false h
theorem isCount_any (n : Int) (w : World) : Calls Try.prog 42 #[.int .i64 n] w fun e w' => e = .returned (.bool (okN n)) ∧ w' = w := by
  go_enter Try.func42, Try.ntmps42
  by_cases h1 : 1 ≤ n
  · by_cases h2 : n ≤ 16
    · go_wp2
      go_ret
      exact ⟨by rw [(okN_iff n).2 ⟨h1, h2⟩]; rfl, rfl⟩
    · go_wp2
      go_ret
      exact ⟨by rw [okN_no (by omega)]; rfl, rfl⟩
  · go_wp2
    go_ret
    exact ⟨by rw [okN_no (by omega)]; rfl, rfl⟩

/-- all are from 0 on and below n -/
def inB (R : List Int) (n : Int) : Bool := R.all fun x => decide (0 ≤ x ∧ x < n)
theorem inB_iff (R : List Int) (n : Int) : inB R n = true ↔ ∀ i (h : i < R.length), 0 ≤ R[i] ∧ R[i] < n := by
  unfold inB
  rw [List.all_eq_true]
  constructor
  · intro h i hi
    simpa using h R[i] (List.getElem_mem _)
  · intro h x hx
    obtain ⟨i, hi, rfl⟩ := List.mem_iff_getElem.1 hx
    simpa using h i hi
set_option maxHeartbeats 400000 in
theorem areBelow_any (v : Value) (R : List Int) (n : Int) (w : World) (hr : RI w v R) (hl : R.length ≤ 9223372036854775807) :
    Calls Try.prog 37 #[v, .int .i64 n] w fun e w' => e = .returned (.bool (inB R n)) ∧ w' = w := by
  obtain ⟨ao, cap, rfl, hpc, hpn, hcell⟩ := hr
  have HC : Hid (_) := hcell
  clear hcell hpn
  go_enter Try.func37, Try.ntmps37
  go_wp2
  go_loop [9] (fun i => ∃ k : Nat, k ≤ R.length ∧ i = .int .i64 k ∧ ∀ j (h : j < R.length), j < k → 0 ≤ R[j] ∧ R[j] < n) (fun i => R.length - (intOf i).toNat)
  case atStart => exact ⟨0, by omega, rfl, fun j _ h => by omega⟩
  case round =>
    obtain ⟨k, hk, rfl, hin⟩ := hrel
    have HI := hid hin
    clear hin
    by_cases h : k < R.length
    · obtain ⟨g, off, hao, c2⟩ := HC.out k h
      subst hao
      have HS := hid (show ∀ (_ : 0 ≤ R[k] ∧ R[k] < n), ∀ j (h : j < R.length), j < k + 1 → 0 ≤ R[j] ∧ R[j] < n from fun hx j hj hjk => by
        by_cases e : j = k
        · subst e; exact hx
        · exact HI.out j hj (by omega))
      have HN := hid (show ¬ (0 ≤ R[k] ∧ R[k] < n) → inB R n = false from fun hx => Bool.eq_false_iff.2 fun hy => hx ((inB_iff R n).1 hy k h))
      generalize R[k] = x at c2 HS HN
      by_cases h0 : x < 0
      · go_wp2
        go_ret
        exact ⟨by rw [HN.out (by omega)]; rfl, rfl⟩
      · by_cases h1 : n ≤ x
        · go_wp2
          go_ret
          exact ⟨by rw [HN.out (by omega)]; rfl, rfl⟩
        · go_wp2
          go_round
          case rel => exact ⟨k + 1, by omega, by go_num, HS.out ⟨by omega, by omega⟩⟩
          case measure => simp [intOf]; omega
    · go_wp2
      go_ret
      exact ⟨by rw [(inB_iff R n).2 fun j hj => HI.out j hj (by omega)]; rfl, rfl⟩

set_option maxHeartbeats 400000 in
theorem same_any (v p : Value) (R S : List Int) (w : World) (hv : RI w v R) (hp : RI w p S) (hl : R.length ≤ 9223372036854775807) (hl2 : S.length ≤ 9223372036854775807) :
    Calls Try.prog 21 #[v, p] w fun e w' => (∃ b, e = .returned (.bool b) ∧ (b = true ↔ R = S)) ∧ Below w.heap.size w w' := by
  obtain ⟨ao, cap, rfl, hc1, hn1, hcell1⟩ := hv
  obtain ⟨bo, cap', rfl, hc2, hn2, hcell2⟩ := hp
  have HC : Hid (_) := hcell1
  have HP : Hid (_) := hcell2
  clear hcell1 hcell2 hn1 hn2
  go_enter Try.func21, Try.ntmps21
  by_cases hlen : R.length = S.length
  · have hL := hid hlen
    have hcb : ((R.length : Int) == (S.length : Int)) = true := by simp [hlen]
    clear hlen
    go_wp2
    go_loopw [5] (fun i wr => ∃ k : Nat, k ≤ R.length ∧ i = .int .i64 k ∧ (∀ j (h : j < R.length) (h2 : j < S.length), j < k → R[j] = S[j]) ∧ Below w.heap.size w wr) (fun i _ => R.length - (intOf i).toNat)
    case atStart => exact ⟨0, by omega, rfl, fun j _ _ h => by omega, Below.refl _ _⟩
    case round =>
      obtain ⟨k, hk, rfl, hin, hbl⟩ := hrel
      have HI := hid hin
      have HB := hid hbl
      clear hin hbl
      by_cases h : k < R.length
      · have h2 : k < S.length := by have := hL.out; omega
        obtain ⟨g, off, hao, c1⟩ := HC.out k h
        obtain ⟨g', off', hbo, c2⟩ := HP.out k h2
        subst hao hbo
        have c1 := below_cells HB.out.drew _ _ c1
        have c2 := below_cells HB.out.drew _ _ c2
        have HS := hid (show R[k] = S[k] → ∀ j (h : j < R.length) (h2 : j < S.length), j < k + 1 → R[j] = S[j] from fun hx j hj h2 hjk => by
          by_cases e : j = k
          · subst e; exact hx
          · exact HI.out j hj h2 (by omega))
        have HN := hid (show R[k] ≠ S[k] → R ≠ S from fun hx hy => hx (by subst hy; rfl))
        generalize R[k] = x at c1 HS HN
        generalize S[k] = y at c2 HS HN
        by_cases hxy : x = y
        · have hb : (x == y) = true := by simp [hxy]
          have HS := hid (HS.out hxy)
          clear hxy
          go_wp2
          go_region
          go_wp2
          go_roundw
          case rel => exact ⟨k + 1, by omega, by go_num, HS.out, HB.out.drew⟩
          case measure => simp [intOf]; omega
        · have HN := hid (HN.out hxy)
          have hb : (x == y) = false := by simp [hxy]
          clear hxy
          go_wp2
          go_region
          go_wp2
          go_ret
          exact ⟨⟨false, rfl, by simp only [Bool.false_eq_true, false_iff]; exact HN.out⟩, HB.out.drew⟩
      · go_wp2
        go_ret
        exact ⟨⟨true, rfl, by simp only [true_iff]; exact List.ext_getElem hL.out fun j h1 h2 => HI.out j h1 h2 (by omega)⟩, HB.out⟩
  · have hcb : ((R.length : Int) == (S.length : Int)) = false := by simp; omega
    have HL := hid hlen
    clear hlen
    go_wp2
    go_ret
    exact ⟨⟨false, rfl, by simp only [Bool.false_eq_true, false_iff]; exact fun h => HL.out (by rw [h])⟩, Below.refl _ _⟩
end Go.Proofs.Ytaiccmbhdgecgaa
