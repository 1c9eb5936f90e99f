/-
  stock: codes and ids, kinds and the fields that they use; the program's and the document's.
-/
import Derived.Test.YtdodockemkmmpaaGreatKb1
import Derived.Handy
namespace Go.Proofs.YtdodockemkmmpaaGreat
open Go.RowKit
set_option maxRecDepth 100000
set_option linter.unusedSimpArgs false

theorem byte_list (s : ByteArray) (k : Nat) (h : k < s.size) : s.data.toList[k]'(by rw [Array.length_toList]; exact h) = s[k]'h := by
  simp only [Array.getElem_toList]
  rfl
theorem len_list (s : ByteArray) : s.data.toList.length = s.size := by rw [Array.length_toList]; rfl
/-- a byte that is seen in print -/
def okC (c : UInt8) : Bool := decide (33 ≤ c.toNat ∧ c.toNat ≤ 126)
/-- a text of 1 to most such bytes -/
def tx (s : ByteArray) (most : Int) : Bool := decide (1 ≤ s.size) && (decide ((s.size : Int) ≤ most) && s.data.toList.all okC)
theorem all_ok {s : ByteArray} (h : ∀ j (hj : j < s.size), okC (s[j]'hj) = true) : s.data.toList.all okC = true := by
  rw [List.all_eq_true]
  intro c hc
  obtain ⟨i, hi, rfl⟩ := List.mem_iff_getElem.1 hc
  rw [len_list] at hi
  rw [byte_list s i hi]
  exact h i hi
theorem not_ok {s : ByteArray} {k : Nat} (hk : k < s.size) (h : okC (s[k]'hk) = false) : s.data.toList.all okC = false := by
  rw [List.all_eq_false]
  exact ⟨s[k]'hk, by rw [← byte_list s k hk]; exact List.getElem_mem _, by simp [h]⟩
set_option maxHeartbeats 1000000 in
theorem isText_any (s : ByteArray) (most : Int) (w : World) (hs : s.size ≤ 9223372036854775807) :
    Calls Tryz.prog 37 #[.string s, .int .i64 most] w fun e w' => e = .returned (.bool (tx s most)) ∧ w' = w := by
  by_cases h0 : s.size = 0
  · have e0 : s = ⟨#[]⟩ := by
      obtain ⟨d⟩ := s
      have : d.size = 0 := h0
      rw [Array.size_eq_zero_iff] at this
      rw [this]
    subst e0
    go_enter Tryz.func37, Tryz.ntmps37
    go_wp2
    go_ret
    exact ⟨rfl, rfl⟩
  · have hne : (s.toList == []) = false := by
      rw [beq_eq_false_iff_ne]
      intro h
      apply h0
      rw [ByteArray.toList_eq] at h
      have h2 := len_list s
      rw [h] at h2
      simpa using h2.symm
    by_cases h1 : (s.size : Int) ≤ most
    · go_enter Tryz.func37, Tryz.ntmps37
      go_wp2_with fail
      go_loop [16] (fun i => ∃ k : Nat, k ≤ s.size ∧ i = .int .i64 (k : Nat) ∧ ∀ j (hj : j < k) (hl : k ≤ s.size), okC (s[j]'(by omega)) = true) (fun i => s.size - (intOf i).toNat)
      case atStart => exact ⟨0, by omega, rfl, fun j hj => by omega⟩
      case round =>
        obtain ⟨k, hk, rfl, hall⟩ := hrel
        have HA := hid hall
        clear hall
        by_cases hlt : k < s.size
        · by_cases hc : okC (s[k]'hlt) = true
          · have hc' := of_decide_eq_true hc
            have HC := hid hc
            have q1 : ¬ ((s[k]'hlt).toNat : Int) < 33 := by omega
            have q2 : ¬ (126 : Int) < ((s[k]'hlt).toNat : Int) := by omega
            clear hc hc'
            go_wp2_with fail
            go_round
            case rel =>
              refine ⟨k + 1, by omega, by go_num, fun j hj hl => ?_⟩
              by_cases e : j = k
              · subst e; exact HC.out
              · exact HA.out j (by omega) (by omega)
            case measure => simp [intOf]; omega
          · have hc0 : okC (s[k]'hlt) = false := by simpa using hc
            have hc' := of_decide_eq_false hc0
            have ht : tx s most = false := by unfold tx; rw [not_ok hlt hc0]; simp
            have HT := hid ht
            by_cases q1 : ((s[k]'hlt).toNat : Int) < 33
            · clear hc hc' hc0 ht
              go_wp2
              go_ret
              exact ⟨by rw [HT.out]; rfl, rfl⟩
            · have q2 : (126 : Int) < ((s[k]'hlt).toNat : Int) := by omega
              clear hc hc' hc0 ht
              go_wp2
              go_ret
              exact ⟨by rw [HT.out]; rfl, rfl⟩
        · have ht : tx s most = true := by
            unfold tx
            rw [all_ok (fun j hj => HA.out j (by omega) hk), decide_eq_true h1, decide_eq_true (show 1 ≤ s.size by omega)]
            rfl
          have HT := hid ht
          clear ht
          go_wp2
          go_ret
          exact ⟨by rw [HT.out]; rfl, rfl⟩
    · have ht : tx s most = false := by unfold tx; simp [h1]
      rw [ht]
      have h1' : most < (s.size : Int) := by omega
      go_enter Tryz.func37, Tryz.ntmps37
      go_wp2
      go_ret
      exact ⟨rfl, rfl⟩
theorem isCode_any (s : ByteArray) (w : World) (hs : s.size ≤ 9223372036854775807) : Calls Tryz.prog 17 #[.string s] w fun e w' => e = .returned (.bool (tx s 40)) ∧ w' = w := by
  have HC := hid (isText_any s 40 w hs)
  clear hs
  go_enter Tryz.func17, Tryz.ntmps17
  go_wp2_with fail
  refine Calls.mono HC.out ?_
  rintro e w' ⟨rfl, rfl⟩
  go_wp2
  go_ret
  exact ⟨rfl, rfl⟩
theorem isId_any (s : ByteArray) (w : World) (hs : s.size ≤ 9223372036854775807) : Calls Tryz.prog 92 #[.string s] w fun e w' => e = .returned (.bool (tx s 64)) ∧ w' = w := by
  have HC := hid (isText_any s 64 w hs)
  clear hs
  go_enter Tryz.func92, Tryz.ntmps92
  go_wp2_with fail
  refine Calls.mono HC.out ?_
  rintro e w' ⟨rfl, rfl⟩
  go_wp2
  go_ret
  exact ⟨rfl, rfl⟩
set_option maxHeartbeats 1000000 in
theorem rtext_any (s : ByteArray) (most : Int) (w : World) (hs : s.size ≤ 9223372036854775807) :
    Calls Tryz.prog 43 #[.string s, .int .i64 most] w fun e w' => e = .returned (.bool (tx s most)) ∧ w' = w := by
  go_enter Tryz.func43, Tryz.ntmps43
  go_wp2_with fail
  go_loop [5] (fun i => ∃ k : Nat, k ≤ s.size ∧ i = .int .i64 (k : Nat) ∧ ∀ j (hj : j < k) (hl : k ≤ s.size), okC (s[j]'(by omega)) = true) (fun i => s.size - (intOf i).toNat)
  case atStart => exact ⟨0, by omega, rfl, fun j hj => by omega⟩
  case round =>
    obtain ⟨k, hk, rfl, hall⟩ := hrel
    have HA := hid hall
    clear hall
    by_cases hlt : k < s.size
    · by_cases hc : okC (s[k]'hlt) = true
      · have hc' := of_decide_eq_true hc
        have HC := hid hc
        have q1 : ¬ ((s[k]'hlt).toNat : Int) < 33 := by omega
        have q2 : ¬ (126 : Int) < ((s[k]'hlt).toNat : Int) := by omega
        clear hc hc'
        go_wp2_with fail
        go_round
        case rel =>
          refine ⟨k + 1, by omega, by go_num, fun j hj hl => ?_⟩
          by_cases e : j = k
          · subst e; exact HC.out
          · exact HA.out j (by omega) (by omega)
        case measure => simp [intOf]; omega
      · have hc0 : okC (s[k]'hlt) = false := by simpa using hc
        have hc' := of_decide_eq_false hc0
        have HT := hid (show tx s most = false by unfold tx; rw [not_ok hlt hc0]; simp)
        by_cases q1 : ((s[k]'hlt).toNat : Int) < 33
        · clear hc hc' hc0
          go_wp2
          go_ret
          exact ⟨by rw [HT.out]; rfl, rfl⟩
        · have q2 : (126 : Int) < ((s[k]'hlt).toNat : Int) := by omega
          clear hc hc' hc0
          go_wp2
          go_ret
          exact ⟨by rw [HT.out]; rfl, rfl⟩
    · have ha := all_ok (fun j hj => HA.out j (by omega) hk)
      by_cases h0 : 1 ≤ s.size
      · have h0' : (1 : Int) ≤ (s.size : Int) := by omega
        by_cases h1 : (s.size : Int) ≤ most
        · have HT := hid (show tx s most = true by unfold tx; rw [ha, decide_eq_true h1, decide_eq_true h0]; rfl)
          clear ha
          go_wp2
          go_ret
          exact ⟨by rw [HT.out]; rfl, rfl⟩
        · have HT := hid (show tx s most = false by unfold tx; simp [h1])
          clear ha
          go_wp2
          go_ret
          exact ⟨by rw [HT.out]; rfl, rfl⟩
      · have h0' : ¬ (1 : Int) ≤ (s.size : Int) := by omega
        have HT := hid (show tx s most = false by unfold tx; simp [h0])
        clear ha
        go_wp2
        go_ret
        exact ⟨by rw [HT.out]; rfl, rfl⟩
theorem rCode_any (s : ByteArray) (w : World) (hs : s.size ≤ 9223372036854775807) : Calls Tryz.prog 22 #[.string s] w fun e w' => e = .returned (.bool (tx s 40)) ∧ w' = w := by
  have HC := hid (rtext_any s 40 w hs)
  clear hs
  go_enter Tryz.func22, Tryz.ntmps22
  go_wp2_with fail
  refine Calls.mono HC.out ?_
  rintro e w' ⟨rfl, rfl⟩
  go_wp2
  go_ret
  exact ⟨rfl, rfl⟩
/-- the fields that a kind uses -/
def kL (k : Int) : Bool := k == 1 || k == 2 || k == 3 || k == 7
def kH (k : Int) : Bool := k == 4 || k == 5 || k == 6
def kT (k : Int) : Bool := k == 3 || k == 6
def kC (k : Int) : Bool := k == 1 || k == 2 || k == 3 || k == 4 || k == 5 || k == 6 || k == 8
theorem isQty_any (k q : Int) (w : World) : Calls Tryz.prog 131 #[.int .i64 k, .int .i64 q] w fun e w' => e = .returned (.bool (if k = 7 then (q == 0) else decide (1 ≤ q))) ∧ w' = w := by
  by_cases h : k = 7
  all_goals
    go_enter Tryz.func131, Tryz.ntmps131
    go_wp2
    go_ret
    exact ⟨by simp_all [Bool.beq_eq_decide_eq], rfl⟩
end Go.Proofs.YtdodockemkmmpaaGreat
