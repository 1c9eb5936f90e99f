/-
  Characters of texts: charFault, and fault over it.
-/
import Derived.Test.YtpplkoilpblpkaaDoorFaultsD
import Derived.Test.YtpplkoilpblpkaaDoorShelf
namespace Go.Proofs.YtpplkoilpblpkaaDoor
open Go.RowKit
set_option maxRecDepth 100000

def marksL : List UInt8 := [33, 34, 37, 38, 39, 40, 41, 42, 43, 44, 45, 46, 47, 58, 59, 60, 61, 62, 63, 95]
abbrev IsLet (c : UInt8) : Prop := 65 ≤ c.toNat ∧ c.toNat ≤ 90 ∨ 97 ≤ c.toNat ∧ c.toNat ≤ 122
/-- what charFault answers -/
def chF (c : UInt8) : Int := if IsLet c ∨ isDB c = true ∨ 0 ≤ Lib.indexByte marksL c then 0 else 27

theorem byte_back (c : UInt8) : (c.toNat : Int).toNat.toUInt8 = c := by
  rw [Int.toNat_natCast]
  exact UInt8.ofNat_toNat

set_option maxHeartbeats 4000000 in
theorem charFault_any (c : UInt8) (w : World) :
    Calls Tryd.prog 58 #[.int .u8 (c.toNat : Int)] w fun e w' => e = .returned (.int .i64 (chF c)) ∧ w' = w := by
  have HI : Hid (∀ w, Calls Tryd.prog 37 #[.string ⟨#[33, 34, 37, 38, 39, 40, 41, 42, 43, 44, 45, 46, 47, 58, 59, 60, 61, 62, 63, 95]⟩, .int .u8 (c.toNat : Int)] w fun e w' => e = .returned (.int .i64 (Lib.indexByte marksL c)) ∧ w' = w) := fun w => by
    have := Tryd.strings_IndexByte ⟨#[33, 34, 37, 38, 39, 40, 41, 42, 43, 44, 45, 46, 47, 58, 59, 60, 61, 62, 63, 95]⟩ (c.toNat : Int) w
    rw [byte_back] at this
    exact this
  have HD : Hid (∀ w, Calls Tryd.prog 53 #[.int .u8 (c.toNat : Int)] w fun e w' => e = .returned (.bool (isDB c)) ∧ w' = w) := fun w => isDigit_any c w
  by_cases hL : IsLet c
  · have HC : Hid (_) := (show chF c = 0 by unfold chF; rw [if_pos (.inl hL)])
    rcases hL with ⟨h1, h2⟩ | ⟨h1, h2⟩
    · have i1 : (65 : Int) ≤ (c.toNat : Int) := by omega
      have i2 : (c.toNat : Int) ≤ 90 := by omega
      clear h1 h2
      go_enter Tryd.func58, Tryd.ntmps58
      go_wp2
      go_ret
      exact ⟨ret_int HC.out.symm, rfl⟩
    · have i1 : (65 : Int) ≤ (c.toNat : Int) := by omega
      have i2 : ¬ (c.toNat : Int) ≤ 90 := by omega
      have i3 : (97 : Int) ≤ (c.toNat : Int) := by omega
      have i4 : (c.toNat : Int) ≤ 122 := by omega
      clear h1 h2
      go_enter Tryd.func58, Tryd.ntmps58
      go_wp2
      go_ret
      exact ⟨ret_int HC.out.symm, rfl⟩
  · have h3 : c.toNat < 65 ∨ 90 < c.toNat ∧ c.toNat < 97 ∨ 122 < c.toNat := by unfold IsLet at hL; omega
    by_cases hd : isDB c = true
    · have HC : Hid (_) := (show chF c = 0 by unfold chF; rw [if_pos (.inr (.inl hd))])
      rw [hd] at HD
      have h4 : c.toNat < 65 := by unfold isDB at hd; simp at hd; omega
      have i1 : ¬ (65 : Int) ≤ (c.toNat : Int) := by omega
      have i3 : ¬ (97 : Int) ≤ (c.toNat : Int) := by omega
      clear h3 h4 hL hd
      go_enter Tryd.func58, Tryd.ntmps58
      go_wp2_with (go_at_call 53; refine (HD.out _).mono ?_; rintro e w' ⟨rfl, rfl⟩)
      go_ret
      exact ⟨ret_int HC.out.symm, rfl⟩
    · obtain ⟨x, hx⟩ : ∃ x, x = Lib.indexByte marksL c := ⟨_, rfl⟩
      have HC : Hid (_) := (show chF c = if 0 ≤ x then 0 else 27 by unfold chF; rw [← hx]; simp [hL, hd])
      rw [← hx] at HI
      rw [Bool.not_eq_true] at hd
      rw [hd] at HD
      clear hx hd hL
      by_cases h0 : 0 ≤ x
      · have e : chF c = 0 := by rw [HC.out, if_pos h0]
        have HE : Hid (_) := e
        have hx : ¬ x < 0 := by omega
        clear HC e h0
        rcases h3 with h | ⟨h, h'⟩ | h
        · have i1 : ¬ (65 : Int) ≤ (c.toNat : Int) := by omega
          have i3 : ¬ (97 : Int) ≤ (c.toNat : Int) := by omega
          clear h
          go_enter Tryd.func58, Tryd.ntmps58
          go_wp2_with (first | (go_at_call 53; refine (HD.out _).mono ?_; rintro e w' ⟨rfl, rfl⟩) | (go_at_call 37; refine (HI.out _).mono ?_; rintro e w' ⟨rfl, rfl⟩))
          go_ret
          exact ⟨ret_int HE.out.symm, rfl⟩
        · have i1 : (65 : Int) ≤ (c.toNat : Int) := by omega
          have i2 : ¬ (c.toNat : Int) ≤ 90 := by omega
          have i3 : ¬ (97 : Int) ≤ (c.toNat : Int) := by omega
          clear h h'
          go_enter Tryd.func58, Tryd.ntmps58
          go_wp2_with (first | (go_at_call 53; refine (HD.out _).mono ?_; rintro e w' ⟨rfl, rfl⟩) | (go_at_call 37; refine (HI.out _).mono ?_; rintro e w' ⟨rfl, rfl⟩))
          go_ret
          exact ⟨ret_int HE.out.symm, rfl⟩
        · have i1 : (65 : Int) ≤ (c.toNat : Int) := by omega
          have i2 : ¬ (c.toNat : Int) ≤ 90 := by omega
          have i3 : (97 : Int) ≤ (c.toNat : Int) := by omega
          have i4 : ¬ (c.toNat : Int) ≤ 122 := by omega
          clear h
          go_enter Tryd.func58, Tryd.ntmps58
          go_wp2_with (first | (go_at_call 53; refine (HD.out _).mono ?_; rintro e w' ⟨rfl, rfl⟩) | (go_at_call 37; refine (HI.out _).mono ?_; rintro e w' ⟨rfl, rfl⟩))
          go_ret
          exact ⟨ret_int HE.out.symm, rfl⟩
      · have e : chF c = 27 := by rw [HC.out, if_neg h0]
        have HE : Hid (_) := e
        have hx : x < 0 := by omega
        clear HC e h0
        rcases h3 with h | ⟨h, h'⟩ | h
        · have i1 : ¬ (65 : Int) ≤ (c.toNat : Int) := by omega
          have i3 : ¬ (97 : Int) ≤ (c.toNat : Int) := by omega
          clear h
          go_enter Tryd.func58, Tryd.ntmps58
          go_wp2_with (first | (go_at_call 53; refine (HD.out _).mono ?_; rintro e w' ⟨rfl, rfl⟩) | (go_at_call 37; refine (HI.out _).mono ?_; rintro e w' ⟨rfl, rfl⟩))
          go_ret
          exact ⟨ret_int HE.out.symm, rfl⟩
        · have i1 : (65 : Int) ≤ (c.toNat : Int) := by omega
          have i2 : ¬ (c.toNat : Int) ≤ 90 := by omega
          have i3 : ¬ (97 : Int) ≤ (c.toNat : Int) := by omega
          clear h h'
          go_enter Tryd.func58, Tryd.ntmps58
          go_wp2_with (first | (go_at_call 53; refine (HD.out _).mono ?_; rintro e w' ⟨rfl, rfl⟩) | (go_at_call 37; refine (HI.out _).mono ?_; rintro e w' ⟨rfl, rfl⟩))
          go_ret
          exact ⟨ret_int HE.out.symm, rfl⟩
        · have i1 : (65 : Int) ≤ (c.toNat : Int) := by omega
          have i2 : ¬ (c.toNat : Int) ≤ 90 := by omega
          have i3 : (97 : Int) ≤ (c.toNat : Int) := by omega
          have i4 : ¬ (c.toNat : Int) ≤ 122 := by omega
          clear h
          go_enter Tryd.func58, Tryd.ntmps58
          go_wp2_with (first | (go_at_call 53; refine (HD.out _).mono ?_; rintro e w' ⟨rfl, rfl⟩) | (go_at_call 37; refine (HI.out _).mono ?_; rintro e w' ⟨rfl, rfl⟩))
          go_ret
          exact ⟨ret_int HE.out.symm, rfl⟩

set_option maxHeartbeats 2000000 in
theorem faultCN (least most : Nat) (plain : Bool) (s : ByteArray) (w : World) (hs : s.size ≤ 9223372036854775807) (q r : Int) (hm : most ≤ 1000)
    (hG : least ≤ s.size → s.size ≤ most → byF chF s.data.toList = 0 → ∀ w, Calls Tryd.prog 46 #[.string s] w fun e w' => e = .returned (.tuple #[.int .i64 q, .int .i64 r]) ∧ Below w.heap.size w w') :
    Calls Tryd.prog 31 #[frm least most plain 58 46, .string s] w fun e w' => e = .returned (.int .i64 (fltE least most chF q s.data.toList)) ∧ Below w.heap.size w w' := by
  have hl := len_list s
  have HG : Hid (_) := hG
  have HS : Hid (_) := hs
  clear hG hs
  unfold frm
  by_cases h1 : s.size < least
  · have e1 : fltE least most chF q s.data.toList = 3 := by unfold fltE; rw [if_pos (by omega)]
    rw [e1]
    clear e1
    have h1I : (s.size : Int) < (least : Int) := by omega
    go_enter Tryd.func31, Tryd.ntmps31
    go_wp2
    go_ret
    exact ⟨rfl, by go_grown⟩
  · have h1I : ¬ (s.size : Int) < (least : Int) := by omega
    by_cases h2 : most < s.size
    · have e1 : fltE least most chF q s.data.toList = 26 := by unfold fltE; rw [if_neg (by omega), if_pos (by omega)]
      rw [e1]
      clear e1
      have h2I : (most : Int) < (s.size : Int) := by omega
      go_enter Tryd.func31, Tryd.ntmps31
      go_wp2
      go_ret
      exact ⟨rfl, by go_grown⟩
    · have h2I : ¬ (most : Int) < (s.size : Int) := by omega
      have HE : Hid (_) := (show fltE least most chF q s.data.toList = if byF chF s.data.toList ≠ 0 then byF chF s.data.toList else q by unfold fltE; rw [if_neg (by omega), if_neg (by omega)])
      have hw0 : w.heap.size < (w.alloc (.cells #[.int .i64 (least : Int), .int .i64 (most : Int), .bool plain, .func (.func 58) #[] #[], .func (.func 46) #[] #[]] 79)).heap.size := by simp
      go_enter Tryd.func31, Tryd.ntmps31
      go_wp2_with fail
      go_loopw [21] (fun i wr => ∃ k : Nat, k ≤ s.size ∧ i = .int .i64 (k : Int) ∧ Below w.heap.size w wr ∧ wr.heap[w.heap.size]? = some (.cells #[.int .i64 (least : Int), .int .i64 (most : Int), .bool plain, .func (.func 58) #[] #[], .func (.func 46) #[] #[]] 79 (0, 0)) ∧ ∀ j (hj : j < k) (hk : k ≤ s.size), chF (s[j]'(by omega)) = 0) (fun i _ => s.size - (intOf i).toNat)
      case atStart => exact ⟨0, by omega, rfl, (Below.refl _ _).alloc (Nat.le_refl _) _, heap_alloc_new _ _, fun j hj => by omega⟩
      case round =>
        obtain ⟨k, hk, rfl, hbl, hblk, hall⟩ := hrel
        have HA : Hid (_) := hall
        have HB : Hid (_) := hblk
        clear hall
        have hz := hbl.size
        have c3 : wr.cell? ⟨w.heap.size, 3, none⟩ = some (.func (.func 58) #[] #[]) := by rw [Lib.cell_of_heap hblk]; rfl
        have c4 : wr.cell? ⟨w.heap.size, 4, none⟩ = some (.func (.func 46) #[] #[]) := by rw [Lib.cell_of_heap hblk]; rfl
        clear hblk
        by_cases hlt : k < s.size
        · have hltI : (k : Int) < (s.size : Int) := by omega
          have hs := HS.out
          by_cases hb : chF (s[k]'hlt) = 0
          · have hbb : (chF (s[k]'hlt) != 0) = false := by rw [hb]; rfl
            go_wp2_with fail
            go_quiet ((go_at_call 58; exact Calls.quiet_of_same (charFault_any _ _)))
            have hB1 := below_drewN hbl nq
            have hh1 : (wr.drewN nq).heap[w.heap.size]? = some (.cells #[.int .i64 (least : Int), .int .i64 (most : Int), .bool plain, .func (.func 58) #[] #[], .func (.func 46) #[] #[]] 79 (0, 0)) := HB.out
            have HH1 : Hid (_) := hh1
            clear hh1 c3 c4
            go_wp2
            go_roundw
            case rel =>
              refine ⟨k + 1, by omega, by go_num, hB1, HH1.out, fun j hj hk1 => ?_⟩
              by_cases e : j = k
              · subst e; exact hb
              · exact HA.out j (by omega) (by omega)
            case measure => simp [intOf]; omega
          · have hbb : (chF (s[k]'hlt) != 0) = true := by simp [hb]
            go_wp2_with fail
            go_quiet ((go_at_call 58; exact Calls.quiet_of_same (charFault_any _ _)))
            have hB1 := below_drewN hbl nq
            clear c3 c4
            go_wp2
            go_ret
            refine ⟨ret_int ?_, hB1⟩
            have hbf := byF_some (P := chF) (l := s.data.toList) (j := k) (by omega) (fun i hi => by rw [byte_list s i (by omega)]; exact HA.out i hi hk) (by rw [byte_list s k hlt]; exact hb)
            rw [byte_list s k hlt] at hbf
            rw [HE.out, if_pos (by rw [hbf]; exact hb), hbf]
        · have hbf : byF chF s.data.toList = 0 := by
            refine byF_none fun c hc => ?_
            obtain ⟨i, hi, rfl⟩ := List.mem_iff_getElem.1 hc
            rw [len_list] at hi
            rw [byte_list s i hi]
            exact HA.out i (by omega) hk
          have HQ : Hid (_) := HG.out (by omega) (by omega) hbf wr
          have hltI : ¬ (k : Int) < (s.size : Int) := by omega
          clear hbf
          go_wp2_with fail
          refine Calls.mono HQ.out ?_
          rintro e w2 ⟨rfl, hb2⟩
          go_wp2
          go_ret
          refine ⟨ret_int ?_, hbl.trans (hb2.mono hz)⟩
          have hbf : byF chF s.data.toList = 0 := by
            refine byF_none fun c hc => ?_
            obtain ⟨i, hi, rfl⟩ := List.mem_iff_getElem.1 hc
            rw [len_list] at hi
            rw [byte_list s i hi]
            exact HA.out i (by omega) hk
          rw [HE.out, if_neg (by rw [hbf]; simp)]

end Go.Proofs.YtpplkoilpblpkaaDoor
