/-
  wal: Need, Stamp, isLife: the program's and the document's.
-/
import Derived.Test.YtghkfhbjfmdnmaaWords
namespace Go.Proofs.Ytghkfhbjfmdnmaa
open Go.RowKit
set_option maxRecDepth 100000

theorem hidw {p : Prop} (h : p) : Hid p := h

/-- how many sectors a record of n bytes needs -/
def nd (n : Int) : Int := if 1 ≤ n ∧ n ≤ 4096 then (n + 121) / 111 else 0
theorem nd_yes {n : Int} (h1 : 1 ≤ n) (h2 : n ≤ 4096) : nd n = (n + 121) / 111 := if_pos ⟨h1, h2⟩
theorem nd_no {n : Int} (h : ¬ (1 ≤ n ∧ n ≤ 4096)) : nd n = 0 := if_neg h
theorem nd_val {n : Int} (h1 : 1 ≤ n) (h2 : n ≤ 4096) : (n + 11 + 111 - 1) / 111 = nd n := by
  rw [nd_yes h1 h2]
  omega
set_option maxHeartbeats 400000 in
theorem need_any (n : Int) (w : World) :
    Calls Try.prog 5 #[.int .i64 n] w fun e w' => e = .returned (.int .i64 (nd n)) ∧ w' = w := by
  go_enter Try.func5, Try.ntmps5
  by_cases h1 : 1 ≤ n
  · by_cases h2 : n ≤ 4096
    · have HV := hidw (nd_val h1 h2)
      go_wp2
      go_ret
      refine ⟨ret_int ?_, rfl⟩
      rw [← HV.out]
    · have HV := hidw (nd_no (n := n) (fun h => h2 h.2))
      go_wp2
      go_ret
      exact ⟨ret_int HV.out.symm, rfl⟩
  · have HV := hidw (nd_no (n := n) (fun h => h1 h.1))
    go_wp2
    go_ret
    exact ⟨ret_int HV.out.symm, rfl⟩
set_option maxHeartbeats 400000 in
theorem rneed_any (n : Int) (w : World) :
    Calls Try.prog 6 #[.int .i64 n] w fun e w' => e = .returned (.int .i64 (nd n)) ∧ w' = w := by
  go_enter Try.func6, Try.ntmps6
  by_cases h1 : 1 ≤ n
  · by_cases h2 : n ≤ 4096
    · have HV := hidw (nd_val h1 h2)
      go_wp2
      go_ret
      refine ⟨ret_int ?_, rfl⟩
      rw [← HV.out]
    · have HV := hidw (nd_no (n := n) (fun h => h2 h.2))
      go_wp2
      go_ret
      exact ⟨ret_int HV.out.symm, rfl⟩
  · have HV := hidw (nd_no (n := n) (fun h => h1 h.1))
    go_wp2
    go_ret
    exact ⟨ret_int HV.out.symm, rfl⟩

/-- is it a life -/
def lf (life : Int) : Bool := decide (1 ≤ life) && decide (life ≤ 1099511627776)
theorem lf_yes {x : Int} (h1 : 1 ≤ x) (h2 : x ≤ 1099511627776) : lf x = true := by simp [lf, h1, h2]
theorem lf_no1 {x : Int} (h1 : ¬ 1 ≤ x) : lf x = false := by simp [lf, h1]
theorem lf_no2 {x : Int} (h2 : ¬ x ≤ 1099511627776) : lf x = false := by simp [lf, h2]
theorem lf_iff {x : Int} : lf x = true ↔ 1 ≤ x ∧ x ≤ 1099511627776 := by simp [lf]
set_option maxHeartbeats 400000 in
theorem isLife_any (life : Int) (w : World) :
    Calls Try.prog 15 #[.int .i64 life] w fun e w' => e = .returned (.bool (lf life)) ∧ w' = w := by
  go_enter Try.func15, Try.ntmps15
  by_cases h1 : 1 ≤ life
  · by_cases h2 : life ≤ 1099511627776
    · rw [lf_yes h1 h2]
      go_wp2
      go_ret
      exact ⟨rfl, rfl⟩
    · rw [lf_no2 h2]
      go_wp2
      go_ret
      exact ⟨rfl, rfl⟩
  · rw [lf_no1 h1]
    go_wp2
    go_ret
    exact ⟨rfl, rfl⟩

/-- the stamp of a sector -/
def sp (life n : Int) : Nat := if lf life = true ∧ 0 ≤ n ∧ n < 4096 then (life * 4096 + n).toNat else 0
theorem sp_yes {life n : Int} (h : lf life = true) (h1 : 0 ≤ n) (h2 : n < 4096) : sp life n = (life * 4096 + n).toNat := if_pos ⟨h, h1, h2⟩
theorem sp_no {life n : Int} (h : ¬ (lf life = true ∧ 0 ≤ n ∧ n < 4096)) : sp life n = 0 := if_neg h
theorem sp_lt (life n : Int) : sp life n < 18446744073709551616 := by
  unfold sp
  split
  · rename_i h
    have := lf_iff.1 h.1
    omega
  · omega
theorem sp_pos {life n : Int} (h : lf life = true) (h1 : 0 ≤ n) (h2 : n < 4096) : 0 < sp life n := by
  rw [sp_yes h h1 h2]
  have := lf_iff.1 h
  omega
theorem sp_val {life n : Int} (h : lf life = true) (h1 : 0 ≤ n) (h2 : n < 4096) : life * 4096 + n = ((sp life n : Nat) : Int) := by
  rw [sp_yes h h1 h2]
  have := lf_iff.1 h
  omega
set_option maxHeartbeats 400000 in
theorem stamp_any (life n : Int) (w : World) :
    Calls Try.prog 7 #[.int .i64 life, .int .i64 n] w fun e w' => e = .returned (.int .u64 (sp life n : Nat)) ∧ w' = w := by
  have HL := hidw (isLife_any life w)
  by_cases h0 : lf life = true
  · rw [h0] at HL
    obtain ⟨l1, l2⟩ := lf_iff.1 h0
    by_cases h1 : 0 ≤ n
    · by_cases h2 : n < 4096
      · have HV := hidw (sp_val h0 h1 h2)
        clear h0
        go_enter Try.func7, Try.ntmps7
        go_wp2_with fail
        refine Calls.mono HL.out ?_
        rintro e w1 ⟨rfl, rfl⟩
        go_wp2
        go_ret
        exact ⟨ret_int HV.out, rfl⟩
      · rw [sp_no (fun h => h2 h.2.2)]
        clear h0
        go_enter Try.func7, Try.ntmps7
        go_wp2_with fail
        refine Calls.mono HL.out ?_
        rintro e w1 ⟨rfl, rfl⟩
        go_wp2
        go_ret
        exact ⟨rfl, rfl⟩
    · rw [sp_no (fun h => h1 h.2.1)]
      clear h0
      go_enter Try.func7, Try.ntmps7
      go_wp2_with fail
      refine Calls.mono HL.out ?_
      rintro e w1 ⟨rfl, rfl⟩
      go_wp2
      go_ret
      exact ⟨rfl, rfl⟩
  · rw [sp_no (fun h => h0 h.1)]
    rw [eq_false_of_ne_true h0] at HL
    clear h0
    go_enter Try.func7, Try.ntmps7
    go_wp2_with fail
    refine Calls.mono HL.out ?_
    rintro e w1 ⟨rfl, rfl⟩
    go_wp2
    go_ret
    exact ⟨rfl, rfl⟩
set_option maxHeartbeats 400000 in
theorem rstamp_any (life n : Int) (w : World) :
    Calls Try.prog 8 #[.int .i64 life, .int .i64 n] w fun e w' => e = .returned (.int .u64 (sp life n : Nat)) ∧ w' = w := by
  by_cases h0 : lf life = true
  · obtain ⟨l1, l2⟩ := lf_iff.1 h0
    by_cases h1 : 0 ≤ n
    · by_cases h2 : n < 4096
      · have HV := hidw (sp_val h0 h1 h2)
        clear h0
        go_enter Try.func8, Try.ntmps8
        go_wp2
        go_ret
        exact ⟨ret_int HV.out, rfl⟩
      · rw [sp_no (fun h => h2 h.2.2)]
        clear h0
        go_enter Try.func8, Try.ntmps8
        go_wp2
        go_ret
        exact ⟨rfl, rfl⟩
    · rw [sp_no (fun h => h1 h.2.1)]
      clear h0
      go_enter Try.func8, Try.ntmps8
      go_wp2
      go_ret
      exact ⟨rfl, rfl⟩
  · rw [sp_no (fun h => h0 h.1)]
    by_cases l1 : 1 ≤ life
    · have l2 : ¬ life ≤ 1099511627776 := fun h => h0 (lf_iff.2 ⟨l1, h⟩)
      clear h0
      go_enter Try.func8, Try.ntmps8
      go_wp2
      go_ret
      exact ⟨rfl, rfl⟩
    · clear h0
      go_enter Try.func8, Try.ntmps8
      go_wp2
      go_ret
      exact ⟨rfl, rfl⟩
end Go.Proofs.Ytghkfhbjfmdnmaa
