/-
  Check digits: the contracts of both sides.
-/
import Derived.Test.YthpdimhkgkefhaaDoorSums
import Derived.Test.YthpdimhkgkefhaaDoorBytes
namespace Go.Proofs.YthpdimhkgkefhaaDoor
open Go.RowKit
set_option maxRecDepth 100000

/-- a text of one byte -/
theorem run_one (w : World) (z : Int) (c : UInt8) (h : z = (c.toNat : Int)) :
    (convert 28 9 (.slice (some ⟨w.heap.size, 0, none⟩) 1 1)).run Tryd.prog (w.alloc (.cells #[.int .u8 z] 5)) = .ok (.string ⟨#[c]⟩) (w.alloc (.cells #[.int .u8 z] 5)) :=
  run_text (l := [c]) 28 9 Tryd.underlying28 Tryd.underlying5 Tryd.underlying9 (reads_one w c z h)

theorem run_one_drew (w : World) (z : Int) (c : UInt8) (h : z = (c.toNat : Int)) :
    (convert 28 9 (.slice (some ⟨w.heap.size, 0, none⟩) 1 1)).run Tryd.prog (w.alloc (.cells #[.int .u8 z] 5)).drew = .ok (.string ⟨#[c]⟩) (w.alloc (.cells #[.int .u8 z] 5)).drew :=
  run_text (l := [c]) 28 9 Tryd.underlying28 Tryd.underlying5 Tryd.underlying9 (reads_one w c z h).drew

/-- what Digit answers -/
def digV (l : List UInt8) : Value :=
  if 18 ≤ l.length then .tuple #[.int .u8 0, .int .i64 1]
  else if l.length = 0 then .tuple #[.int .u8 0, .int .i64 3]
  else if 0 ≤ fo l then .tuple #[.int .u8 0, .int .i64 20]
  else .tuple #[.int .u8 ((ck l).toNat : Int), .int .i64 0]

theorem digV_long {l : List UInt8} (h : 18 ≤ l.length) : digV l = .tuple #[.int .u8 0, .int .i64 1] := if_pos h
theorem digV_none {l : List UInt8} (h : l.length = 0) : digV l = .tuple #[.int .u8 0, .int .i64 3] := (if_neg (by omega)).trans (if_pos h)
theorem digV_other {l : List UInt8} (h1 : ¬ 18 ≤ l.length) (h2 : l.length ≠ 0) (h : 0 ≤ fo l) : digV l = .tuple #[.int .u8 0, .int .i64 20] := (if_neg h1).trans ((if_neg h2).trans (if_pos h))
theorem digV_ok {l : List UInt8} (h1 : ¬ 18 ≤ l.length) (h2 : l.length ≠ 0) (h : ¬ 0 ≤ fo l) : digV l = .tuple #[.int .u8 ((ck l).toNat : Int), .int .i64 0] := (if_neg h1).trans ((if_neg h2).trans (if_neg h))

set_option maxHeartbeats 400000 in
theorem digit_any (s : ByteArray) (w : World) (hs : s.size ≤ 9223372036854775807) :
    Calls Tryd.prog 26 #[.string s] w fun e w' => e = .returned (digV s.data.toList) ∧ w' = w := by
  have hl := len_list s
  have HF : Hid (_) := firstOther_any s w hs
  clear hs
  by_cases h1 : 18 ≤ s.size
  · rw [digV_long (by omega)]
    go_enter Tryd.func26, Tryd.ntmps26
    go_wp2
    go_ret2
    exact ⟨rfl, rfl⟩
  · by_cases h2 : s.size = 0
    · rw [digV_none (by omega)]
      go_enter Tryd.func26, Tryd.ntmps26
      go_wp2
      go_ret2
      exact ⟨rfl, rfl⟩
    · have HC : Hid (_) := checkDigit_any s w (by omega)
      by_cases h3 : 0 ≤ fo s.data.toList
      · rw [digV_other (by omega) (by omega) h3]
        generalize fo s.data.toList = f at HF h3
        go_enter Tryd.func26, Tryd.ntmps26
        go_wp2_with fail
        refine Calls.mono HF.out ?_
        rintro e w' ⟨rfl, rfl⟩
        go_wp2
        go_ret2
        exact ⟨rfl, rfl⟩
      · rw [digV_ok (by omega) (by omega) h3]
        generalize fo s.data.toList = f at HF h3
        go_enter Tryd.func26, Tryd.ntmps26
        go_wp2_with fail
        refine Calls.mono HF.out ?_
        rintro e w' ⟨rfl, rfl⟩
        go_wp2_with fail
        refine Calls.mono HC.out ?_
        rintro e w' ⟨rfl, rfl⟩
        go_wp2
        go_ret2
        exact ⟨rfl, rfl⟩

set_option maxHeartbeats 800000 in
theorem refDigit_any (s : ByteArray) (w : World) :
    Calls Tryd.prog 35 #[.string s] w fun e w' => e = .returned (digV s.data.toList) ∧ Below w.heap.size w w' := by
  have hl := len_list s
  by_cases h1 : 18 ≤ s.size
  · rw [digV_long (by omega)]
    go_enter Tryd.func35, Tryd.ntmps35
    go_wp2
    go_ret2
    exact ⟨rfl, Below.refl _ _⟩
  · by_cases h2 : s.size = 0
    · rw [digV_none (by omega)]
      obtain rfl : s = ⟨#[]⟩ := by
        cases s with | mk d => congr 1; exact Array.eq_empty_of_size_eq_zero h2
      go_enter Tryd.func35, Tryd.ntmps35
      go_wp2
      go_ret2
      exact ⟨rfl, Below.refl _ _⟩
    · have h2' : s.toList.isEmpty = false := by
        rw [ByteArray.toList_eq, ← Bool.not_eq_true, List.isEmpty_iff]
        intro e
        rw [e] at hl
        exact h2 hl.symm
      go_enter Tryd.func35, Tryd.ntmps35
      go_wp2
      go_loop [4] (fun i => ∃ k : Nat, k ≤ s.size ∧ i = .int .i64 (k : Nat) ∧ ∀ j (hj : j < k) (hl : k ≤ s.size), isDB (s[j]'(by omega)) = true) (fun i => s.size - (intOf i).toNat)
      case atStart => exact ⟨0, by omega, rfl, fun j hj => by omega⟩
      case round =>
        obtain ⟨k, hk, rfl, hall⟩ := hrel
        have HA : Hid (_) := hall
        clear hall
        by_cases hlt : k < s.size
        · cases hb : isDB (s[k]'hlt) with
          | true =>
            go_wp2_with (go_at_call 17; refine (refIsDigit_any _ _).mono ?_; rintro e w' ⟨rfl, rfl⟩)
            go_round
            case rel =>
              refine ⟨k + 1, by omega, by go_num, fun j hj hl => ?_⟩
              by_cases e : j = k
              · subst e; exact hb
              · exact HA.out j (by omega) (by omega)
            case measure => simp [intOf]; omega
          | false =>
            go_wp2_with (go_at_call 17; refine (refIsDigit_any _ _).mono ?_; rintro e w' ⟨rfl, rfl⟩)
            go_ret2
            refine ⟨?_, Below.refl _ _⟩
            rw [digV_other (by omega) (by omega)]
            · rfl
            rw [fo_some (j := k) (by rw [len_list]; exact hlt) (fun i hi => by rw [byte_list s i (by omega)]; exact HA.out i hi hk) (by rw [byte_list s k hlt]; exact hb)]
            omega
        · have ha : fo s.data.toList = -1 := by
            refine fo_none fun c hc => ?_
            obtain ⟨i, hi, rfl⟩ := List.mem_iff_getElem.1 hc
            rw [len_list] at hi
            rw [byte_list s i hi]
            exact HA.out i (by omega) hk
          have HD : Hid (_) := digV_ok (l := s.data.toList) (by omega) (by omega) (by omega)
          clear HA ha
          go_wp2
          go_loopw [5] (fun i wr => ∃ k : Nat, k ≤ ckN s.data.toList ∧ i = .int .i64 (k : Nat) ∧ Below w.heap.size w wr) (fun i _ => 10 - (intOf i).toNat)
          case atStart => exact ⟨0, by omega, rfl, Below.refl _ _⟩
          case round =>
            obtain ⟨d, hd, rfl, hbl⟩ := hrel
            have hc := ckN_lt s.data.toList
            have hz := hbl.size
            have hu : (48 + (d : Int)) = ((UInt8.ofNat (48 + d)).toNat : Int) := by
              rw [UInt8.toNat_ofNat']
              omega
            have kc := run_one wr _ _ hu
            generalize hcd : UInt8.ofNat (48 + d) = c at kc hu
            have hcn : c.toNat = 48 + d := by omega
            have hsz : (s ++ (⟨#[c]⟩ : ByteArray)).size = s.size + 1 := by simp [ByteArray.size_append]; rfl
            have hdl : (s ++ (⟨#[c]⟩ : ByteArray)).data.toList = s.data.toList ++ [c] := by simp
            have hck := sm_ck s.data.toList c ⟨by omega, by omega⟩
            have HN : Hid (_) := hcn
            clear hu hcd hcn
            go_wp2_with fail
            refine (refSum_any _ _ (by omega)).mono ?_
            rintro e w' ⟨rfl, rfl⟩
            rw [hdl]
            clear hdl hsz kc
            have hcn := HN.out
            by_cases hq : d = ckN s.data.toList
            · have hcc : c = ck s.data.toList := by
                apply UInt8.toNat_inj.mp
                rw [ck_toNat]
                omega
              have hm := hck.2 hcc
              have hmI : ((sm (s.data.toList ++ [c]) : Int) % 10 == 0) = true := by simp; omega
              clear hck hcn hm hcc
              go_wp2
              go_ret2
              exact ⟨by rw [HD.out, ck_toNat, ← hq]; go_num, hbl.alloc hz _⟩
            · have hcc : c ≠ ck s.data.toList := by
                intro e
                have := ck_toNat s.data.toList
                rw [← e] at this
                omega
              have hm : ¬ sm (s.data.toList ++ [c]) % 10 = 0 := fun h => hcc (hck.1 h)
              have hmI : ((sm (s.data.toList ++ [c]) : Int) % 10 == 0) = false := by simp; omega
              clear hck hm hcn
              go_wp2
              go_roundw
              case rel => exact ⟨d + 1, by omega, by go_num, hbl.alloc hz _⟩
              case measure => simp [intOf]; omega
end Go.Proofs.YthpdimhkgkefhaaDoor
