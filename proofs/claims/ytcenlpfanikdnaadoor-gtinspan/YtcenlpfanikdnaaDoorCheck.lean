/-
  Codes: the contracts of Check, on both sides.
-/
import Derived.Test.YtcenlpfanikdnaaDoorDigits
namespace Go.Proofs.YtcenlpfanikdnaaDoor
open Go.RowKit
set_option maxRecDepth 100000

/-- the sizes of codes -/
abbrev SizeOk (n : Nat) : Prop := n = 8 ∨ n = 12 ∨ n = 13 ∨ n = 14 ∨ n = 18

/-- a code -/
def Code1 (l : List UInt8) : Prop := AllD l ∧ SizeOk l.length ∧ sm l % 10 = 0

/-- what Check answers: the error, the place -/
def chkE (l : List UInt8) : Int × Int :=
  if 18 < l.length then (1, 0)
  else if 0 ≤ fo l then (20, fo l)
  else if ¬ SizeOk l.length then (21, (l.length : Int))
  else if ¬ sm l % 10 = 0 then (22, (l.length : Int) - 1)
  else (0, 0)

theorem chk_long {l : List UInt8} (h : 18 < l.length) : chkE l = (1, 0) := if_pos h
theorem chk_other {l : List UInt8} (h1 : ¬ 18 < l.length) (h : 0 ≤ fo l) : chkE l = (20, fo l) := (if_neg h1).trans (if_pos h)
theorem chk_size {l : List UInt8} (h1 : ¬ 18 < l.length) (h2 : ¬ 0 ≤ fo l) (h : ¬ SizeOk l.length) : chkE l = (21, (l.length : Int)) := (if_neg h1).trans ((if_neg h2).trans (if_pos h))
theorem chk_sum {l : List UInt8} (h1 : ¬ 18 < l.length) (h2 : ¬ 0 ≤ fo l) (h3 : SizeOk l.length) (h : ¬ sm l % 10 = 0) : chkE l = (22, (l.length : Int) - 1) := (if_neg h1).trans ((if_neg h2).trans ((if_neg (fun x => x h3)).trans (if_pos h)))
theorem chk_fine {l : List UInt8} (h1 : ¬ 18 < l.length) (h2 : ¬ 0 ≤ fo l) (h3 : SizeOk l.length) (h : sm l % 10 = 0) : chkE l = (0, 0) := (if_neg h1).trans ((if_neg h2).trans ((if_neg (fun x => x h3)).trans (if_neg (fun x => x h))))

theorem fo_neg_iff (l : List UInt8) : ¬ 0 ≤ fo l ↔ AllD l := by
  rcases fo_cases l with ⟨a, b⟩ | ⟨j, hj, a, b⟩
  · rw [b]; exact ⟨fun _ => a, fun _ => by omega⟩
  · rw [b]; exact ⟨fun h => absurd (Int.natCast_nonneg j) h, fun h => absurd h a⟩

theorem chk_code {l : List UInt8} (h : Code1 l) : chkE l = (0, 0) := by
  have hs := h.2.1
  exact chk_fine (by unfold SizeOk at hs; omega) ((fo_neg_iff l).2 h.1) hs h.2.2
theorem chk_told {l : List UInt8} (ha : AllD l) (hs : SizeOk l.length) (h : ¬ sm l % 10 = 0) : chkE l = (22, (l.length : Int) - 1) :=
  chk_sum (by unfold SizeOk at hs; omega) ((fo_neg_iff l).2 ha) hs h

/-- no error: a code -/
theorem chk_zero {l : List UInt8} (h : (chkE l).1 = 0) : Code1 l := by
  unfold chkE at h
  split at h
  · cases h
  · split at h
    · cases h
    · split at h
      · cases h
      · split at h
        · cases h
        · next h1 h2 h3 h4 => exact ⟨(fo_neg_iff l).1 h2, Decidable.not_not.1 h3, Decidable.not_not.1 h4⟩

set_option maxHeartbeats 800000 in
theorem check_any (s : ByteArray) (w : World) (hs : s.size ≤ 9223372036854775807) :
    Calls Tryd.prog 9 #[.string s] w fun e w' => e = .returned (.tuple #[.int .i64 (chkE s.data.toList).1, .int .i64 (chkE s.data.toList).2]) ∧ w' = w := by
  have hl := len_list s
  have HF : Hid (_) := firstOther_any s w hs
  clear hs
  by_cases h1 : 18 < s.size
  · rw [chk_long (by omega)]
    go_enter Tryd.func9, Tryd.ntmps9
    go_wp2
    go_ret2
    exact ⟨rfl, rfl⟩
  · by_cases h2 : 0 ≤ fo s.data.toList
    · rw [chk_other (by omega) h2]
      generalize fo s.data.toList = f at HF h2
      go_enter Tryd.func9, Tryd.ntmps9
      go_wp2_with fail
      refine Calls.mono HF.out ?_
      rintro e w' ⟨rfl, rfl⟩
      go_wp2
      go_ret2
      exact ⟨rfl, rfl⟩
    · have HS : Hid (_) := sumHolds_any s w (by omega)
      by_cases h3 : SizeOk s.size
      · by_cases h4 : sm s.data.toList % 10 = 0
        · rw [chk_fine (by omega) h2 (by rw [hl]; exact h3) h4]
          rw [decide_eq_true h4] at HS
          generalize fo s.data.toList = f at HF h2
          clear h4
          unfold SizeOk at h3
          rcases h3 with h | h | h | h | h
          all_goals
            have h8 : (s.size : Int) = _ := congrArg Nat.cast h
            clear h hl
            go_enter Tryd.func9, Tryd.ntmps9
            go_wp2_with fail
            refine Calls.mono HF.out ?_
            rintro e w' ⟨rfl, rfl⟩
            go_wp2_with fail
            refine Calls.mono HS.out ?_
            rintro e w' ⟨rfl, rfl⟩
            go_wp2
            go_ret2
            exact ⟨rfl, rfl⟩
        · rw [chk_sum (by omega) h2 (by rw [hl]; exact h3) h4]
          rw [decide_eq_false h4] at HS
          generalize fo s.data.toList = f at HF h2
          rw [hl]
          clear h4
          unfold SizeOk at h3
          rcases h3 with h | h | h | h | h
          all_goals
            have h8 : (s.size : Int) = _ := congrArg Nat.cast h
            clear hl
            go_enter Tryd.func9, Tryd.ntmps9
            go_wp2_with fail
            refine Calls.mono HF.out ?_
            rintro e w' ⟨rfl, rfl⟩
            go_wp2_with fail
            refine Calls.mono HS.out ?_
            rintro e w' ⟨rfl, rfl⟩
            go_wp2
            go_ret2
            exact ⟨by simp [h], rfl⟩
      · rw [chk_size (by omega) h2 (by rw [hl]; exact h3)]
        rw [hl]
        generalize fo s.data.toList = f at HF h2
        unfold SizeOk at h3
        have n1 : ¬ s.size = 8 := by omega
        have n2 : ¬ s.size = 12 := by omega
        have n3 : ¬ s.size = 13 := by omega
        have n4 : ¬ s.size = 14 := by omega
        have n5 : ¬ s.size = 18 := by omega
        clear h3 hl HS
        go_enter Tryd.func9, Tryd.ntmps9
        go_wp2_with fail
        refine Calls.mono HF.out ?_
        rintro e w' ⟨rfl, rfl⟩
        go_wp2
        go_ret2
        exact ⟨rfl, rfl⟩
end Go.Proofs.YtcenlpfanikdnaaDoor
