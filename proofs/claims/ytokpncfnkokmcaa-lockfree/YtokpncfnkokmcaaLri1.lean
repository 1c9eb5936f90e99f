/-
  rise: stripes out of any numbers, rising, none twice.
-/
import Derived.Test.YtokpncfnkokmcaaHm4
import Derived.Test.YtokpncfnkokmcaaTb5
namespace Go.Proofs.Ytokpncfnkokmcaa
open Go.RowKit
set_option maxRecDepth 100000

/-- one of the first j is brought to s -/
def an (R : List Int) (n : Nat) (s : Nat) (j : Nat) : Bool := (R.take j).any (fun z => decide (wth z ((n : Int) - 1) = (s : Int)))
theorem an_succ (R : List Int) (n s j : Nat) (h : j < R.length) : an R n s (j + 1) = (an R n s j || decide (wth R[j] ((n : Int) - 1) = (s : Int))) := by
  unfold an
  rw [List.take_add_one, List.getElem?_eq_getElem h, List.any_append]
  simp
/-- the stripes below k -/
def rsL (R : List Int) (n : Nat) : Nat → List Int
  | 0 => []
  | k + 1 => if an R n k (min R.length 10) then rsL R n k ++ [(k : Int)] else rsL R n k
theorem rsL_len (R : List Int) (n : Nat) : ∀ k, (rsL R n k).length ≤ k
  | 0 => Nat.le_refl _
  | k + 1 => by
    have := rsL_len R n k
    unfold rsL
    split
    · simp; omega
    · omega
theorem rsL_ok (R : List Int) (n : Nat) : ∀ k, (∀ j, j < (rsL R n k).length → 0 ≤ (rsL R n k).getD j 0 ∧ (rsL R n k).getD j 0 < (k : Int)) ∧ ∀ a b, a < b → b < (rsL R n k).length → (rsL R n k).getD a 0 < (rsL R n k).getD b 0
  | 0 => ⟨fun j h => by simp [rsL] at h, fun a b _ h => by simp [rsL] at h⟩
  | k + 1 => by
    obtain ⟨h1, h2⟩ := rsL_ok R n k
    unfold rsL
    split
    · have gd : ∀ j, j < (rsL R n k).length + 1 → (rsL R n k ++ [(k : Int)]).getD j 0 = if j < (rsL R n k).length then (rsL R n k).getD j 0 else (k : Int) := by
        intro j hj
        rw [List.getD_eq_getElem?_getD, List.getElem?_append]
        split
        · rw [← List.getD_eq_getElem?_getD]
        · rw [show j - (rsL R n k).length = 0 by omega]
          rfl
      constructor
      · intro j hj
        rw [List.length_append, List.length_singleton] at hj
        rw [gd j hj]
        split
        · rename_i c; have := h1 j c; omega
        · omega
      · intro a b hab hb
        rw [List.length_append, List.length_singleton] at hb
        rw [gd a (by omega), gd b hb, if_pos (by omega)]
        split
        · rename_i c; exact h2 a b hab c
        · exact (h1 a (by omega)).2
    · exact ⟨fun j hj => by have := h1 j hj; omega, h2⟩
set_option maxHeartbeats 4000000 in
theorem rise_any (v : Value) (R : List Int) (n : Nat) (w : World) (hr : RI w v R) (hl : R.length ≤ 9223372036854775807) (hn : 1 ≤ n) (hn2 : n ≤ 10) :
    Calls Try.prog 8 #[v, .int .i64 (n : Int)] w fun e w' => (∃ v', e = .returned v' ∧ OI w' w.heap.size v' (rsL R n n)) ∧ Below w.heap.size w w' := by
  obtain ⟨ao, cap, rfl, hc, hn0, hcell⟩ := hr
  have HC := hid hcell
  have HWi := hid (fun z w => within_any z ((n : Int) - 1) w (by omega) (by omega))
  clear hcell hn0
  go_enter Try.func8, Try.ntmps8
  go_wp2
  go_loopw [5, 6, 7, 8] (fun vo vs _ _ wr => ∃ k : Nat, k ≤ n ∧ vs = .int .i64 (k : Int) ∧ OI wr w.heap.size vo (rsL R n k) ∧ Below w.heap.size w wr) (fun _ vs _ _ _ => n - (intOf vs).toNat)
  case atStart => exact ⟨0, Nat.zero_le _, rfl, OI.nil _ _, Below.refl _ _⟩
  case round =>
    obtain ⟨k, hk, rfl, hO, hB⟩ := hrel
    have HO := hid hO
    have HB := hid hB
    have hws := hB.size
    obtain ⟨ao5, cap5, hv5⟩ := hO.sl
    subst hv5
    clear hO hB
    by_cases h : k < n
    · have hI : (k : Int) < (n : Int) := by omega
      go_wp2
      go_loopw [7, 8] (fun vi vj wx => ∃ j : Nat, j ≤ min R.length 10 ∧ vj = .int .i64 (j : Int) ∧ vi = .bool (an R n k j) ∧ wx = wr) (fun _ vj _ => 10 - (intOf vj).toNat)
      case atStart => exact ⟨0, Nat.zero_le _, rfl, rfl, rfl⟩
      case round =>
        obtain ⟨j, hj, rfl, rfl, rfl⟩ := hrel
        by_cases hjl : j < min R.length 10
        · have hJ : (j : Int) < (R.length : Int) := by omega
          have hJ2 : (j : Int) < 10 := by omega
          have hjR : j < R.length := by omega
          obtain ⟨g, off, hao, cx⟩ := HC.out j hjR
          subst hao
          have c1 := below_cells HB.out _ _ cx
          have HAN := hid (an_succ R n k j hjR)
          clear cx
          generalize R[j] = z at c1 HAN
          cases ha : an R n k j with
          | true =>
            rw [ha] at HAN
            have HA1 := hid (show an R n k (j + 1) = true by rw [HAN.out]; rfl)
            clear HAN
            go_wp2
            go_roundw
            case rel => exact ⟨j + 1, by omega, by go_num, by rw [HA1.out], trivial⟩
            case measure => simp [intOf]; omega
          | false =>
            rw [ha] at HAN
            go_wp2_with fail
            refine Calls.mono (HWi.out z _) ?_
            rintro e wq ⟨rfl, rfl⟩
            by_cases hz : wth z ((n : Int) - 1) = (k : Int)
            · have hzb : (wth z ((n : Int) - 1) == (k : Int)) = true := by simp [hz]
              have HA1 := hid (show an R n k (j + 1) = true by rw [HAN.out, decide_eq_true hz]; rfl)
              clear hz HAN
              go_wp2
              go_roundw
              case rel => exact ⟨j + 1, by omega, by go_num, by rw [HA1.out], trivial⟩
              case measure => simp [intOf]; omega
            · have hzb : (wth z ((n : Int) - 1) == (k : Int)) = false := by simp [hz]
              have HA1 := hid (show an R n k (j + 1) = false by rw [HAN.out, decide_eq_false hz]; rfl)
              clear hz HAN
              go_wp2
              go_roundw
              case rel => exact ⟨j + 1, by omega, by go_num, by rw [HA1.out], trivial⟩
              case measure => simp [intOf]; omega
        · obtain rfl : j = min R.length 10 := by omega
          have HRS := hid (show rsL R n (k + 1) = if an R n k (min R.length 10) then rsL R n k ++ [(k : Int)] else rsL R n k from rfl)
          have DD : ¬ ((min R.length 10 : Nat) : Int) < (R.length : Int) ∨ (((min R.length 10 : Nat) : Int) < (R.length : Int) ∧ ¬ ((min R.length 10 : Nat) : Int) < 10) := by omega
          have hrl := rsL_len R n k
          generalize min R.length 10 = mm at DD HRS
          clear hjl
          cases ha : an R n k mm with
          | true =>
            rw [ha] at HRS
            rcases DD with hJ | ⟨hJ, hJ2⟩
            all_goals
              go_wp2_with (at_builtin; refine wpList_appI rfl _ _ rfl w.heap.size _ (rsL R n k) rfl (HO.out.alloc _) _ [(k : Int)] rfl (ri_one _ _) ?hlen ?hbase ?hnext)
              case hlen => omega
              case hbase => omega
              case hnext =>
                intro v' w' ho hg
                have HO1 := hid (show OI w' w.heap.size v' (rsL R n (k + 1)) from by rw [HRS.out]; exact ho)
                have HB1 := hid ((HB.out.alloc hws _).grown hg (by simp; omega) (fun g e => HO.out.block_ge g e))
                clear ho hg
                go_wp2
                go_roundw
                case rel => exact ⟨k + 1, by omega, by go_num, HO1.out, HB1.out⟩
                case measure => simp [intOf]; omega
          | false =>
            rw [ha] at HRS
            rcases DD with hJ | ⟨hJ, hJ2⟩
            all_goals
              go_wp2
              go_roundw
              case rel => exact ⟨k + 1, by omega, by go_num, by rw [HRS.out]; exact HO.out, HB.out⟩
              case measure => simp [intOf]; omega
    · have hI : ¬ (k : Int) < (n : Int) := by omega
      obtain rfl : k = n := by omega
      go_wp2
      go_ret
      exact ⟨⟨_, rfl, HO.out⟩, HB.out⟩
end Go.Proofs.Ytokpncfnkokmcaa
