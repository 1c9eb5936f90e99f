/-
  Faults of bytes and of Values: digitFault, noFault, codeFault.
-/
import Derived.Test.YtpplkoilpblpkaaDoorForm
import Derived.Test.YtpplkoilpblpkaaDoorSums
import Derived.Lib.Builder
import Derived.Deep.QuietTactic
import Derived.BigQuiet
import Derived.WalkSmall
namespace Go.Proofs.YtpplkoilpblpkaaDoor
open Go.RowKit
set_option maxRecDepth 100000

def dF (c : UInt8) : Int := if isDB c then 0 else 20

theorem digitFault_any (c : UInt8) (w : World) :
    Calls Tryd.prog 47 #[.int .u8 (c.toNat : Int)] w fun e w' => e = .returned (.int .i64 (dF c)) ∧ w' = w := by
  unfold dF
  cases hb : isDB c with
  | true =>
    go_enter Tryd.func47, Tryd.ntmps47
    go_wp2_with (go_at_call 53; refine (isDigit_any _ _).mono ?_; rintro e w' ⟨rfl, rfl⟩)
    go_ret
    exact ⟨rfl, rfl⟩
  | false =>
    go_enter Tryd.func47, Tryd.ntmps47
    go_wp2_with (go_at_call 53; refine (isDigit_any _ _).mono ?_; rintro e w' ⟨rfl, rfl⟩)
    go_ret
    exact ⟨rfl, rfl⟩

theorem noFault_any (s : ByteArray) (w : World) :
    Calls Tryd.prog 46 #[.string s] w fun e w' => e = .returned (.tuple #[.int .i64 0, .int .i64 0]) ∧ w' = w := by
  go_enter Tryd.func46, Tryd.ntmps46
  go_wp2
  go_ret2
  exact ⟨rfl, rfl⟩

/-- what codeFault answers -/
def cF (l : List UInt8) : Int × Int := if sm l % 10 = 0 then (0, 0) else (22, (l.length : Int) - 1)

theorem codeFault_any (s : ByteArray) (w : World) (hs : s.size ≤ 100) :
    Calls Tryd.prog 44 #[.string s] w fun e w' => e = .returned (.tuple #[.int .i64 (cF s.data.toList).1, .int .i64 (cF s.data.toList).2]) ∧ w' = w := by
  have HS : Hid (_) := sumHolds_any s w hs
  have hl := len_list s
  unfold cF
  by_cases h : sm s.data.toList % 10 = 0
  · rw [if_pos h]
    rw [decide_eq_true h] at HS
    go_enter Tryd.func44, Tryd.ntmps44
    go_wp2_with fail
    refine Calls.mono HS.out ?_
    rintro e w' ⟨rfl, rfl⟩
    go_wp2
    go_ret2
    exact ⟨rfl, rfl⟩
  · rw [if_neg h, hl]
    rw [decide_eq_false h] at HS
    go_enter Tryd.func44, Tryd.ntmps44
    go_wp2_with fail
    refine Calls.mono HS.out ?_
    rintro e w' ⟨rfl, rfl⟩
    go_wp2
    go_ret2
    exact ⟨rfl, rfl⟩

/-- the first byte's fault -/
def byF (P : UInt8 → Int) : List UInt8 → Int
  | [] => 0
  | c :: t => if P c = 0 then byF P t else P c

theorem byF_some {P : UInt8 → Int} {l : List UInt8} {j : Nat} (hj : j < l.length) (h : ∀ i (hi : i < j), P (l[i]'(by omega)) = 0) (hn : P l[j] ≠ 0) : byF P l = P l[j] := by
  induction l generalizing j with
  | nil => simp at hj
  | cons c t ih =>
    unfold byF
    cases j with
    | zero => rw [if_neg (by simpa using hn)]; rfl
    | succ j =>
      rw [if_pos (by have := h 0 (by omega); simpa using this)]
      exact ih (by simpa using hj) (fun i hi => by have := h (i + 1) (by omega); simpa using this) (by simpa using hn)
theorem byF_none {P : UInt8 → Int} {l : List UInt8} (h : ∀ c ∈ l, P c = 0) : byF P l = 0 := by
  induction l with
  | nil => rfl
  | cons c t ih => unfold byF; rw [if_pos (h c (by simp)), ih (fun x hx => h x (by simp [hx]))]

/-- what fault answers -/
def fltE (least most : Nat) (P : UInt8 → Int) (q : Int) (l : List UInt8) : Int :=
  if l.length < least then 3 else if most < l.length then 26 else if byF P l ≠ 0 then byF P l else q


set_option maxHeartbeats 2000000 in
theorem faultDN (least most : Nat) (plain : Bool) (s : ByteArray) (w : World) (hs : s.size ≤ 9223372036854775807) (q r : Int) (hm : most ≤ 1000)
    (hG : least ≤ s.size → s.size ≤ most → byF dF s.data.toList = 0 → ∀ w, Calls Tryd.prog 46 #[.string s] w fun e w' => e = .returned (.tuple #[.int .i64 q, .int .i64 r]) ∧ Below w.heap.size w w') :
    Calls Tryd.prog 31 #[frm least most plain 47 46, .string s] w fun e w' => e = .returned (.int .i64 (fltE least most dF q s.data.toList)) ∧ Below w.heap.size w w' := by
  have hl := len_list s
  have HG : Hid (_) := hG
  have HS : Hid (_) := hs
  clear hG hs
  unfold frm
  by_cases h1 : s.size < least
  · have e1 : fltE least most dF q s.data.toList = 3 := by unfold fltE; rw [if_pos (by omega)]
    rw [e1]
    clear e1
    have h1I : (s.size : Int) < (least : Int) := by omega
    go_enter Tryd.func31, Tryd.ntmps31
    go_wp2
    go_ret
    exact ⟨rfl, by go_grown⟩
  · have h1I : ¬ (s.size : Int) < (least : Int) := by omega
    by_cases h2 : most < s.size
    · have e1 : fltE least most dF q s.data.toList = 26 := by unfold fltE; rw [if_neg (by omega), if_pos (by omega)]
      rw [e1]
      clear e1
      have h2I : (most : Int) < (s.size : Int) := by omega
      go_enter Tryd.func31, Tryd.ntmps31
      go_wp2
      go_ret
      exact ⟨rfl, by go_grown⟩
    · have h2I : ¬ (most : Int) < (s.size : Int) := by omega
      have HE : Hid (_) := (show fltE least most dF q s.data.toList = if byF dF s.data.toList ≠ 0 then byF dF s.data.toList else q by unfold fltE; rw [if_neg (by omega), if_neg (by omega)])
      have hw0 : w.heap.size < (w.alloc (.cells #[.int .i64 (least : Int), .int .i64 (most : Int), .bool plain, .func (.func 47) #[] #[], .func (.func 46) #[] #[]] 79)).heap.size := by simp
      go_enter Tryd.func31, Tryd.ntmps31
      go_wp2_with fail
      go_loopw [21] (fun i wr => ∃ k : Nat, k ≤ s.size ∧ i = .int .i64 (k : Int) ∧ Below w.heap.size w wr ∧ wr.heap[w.heap.size]? = some (.cells #[.int .i64 (least : Int), .int .i64 (most : Int), .bool plain, .func (.func 47) #[] #[], .func (.func 46) #[] #[]] 79 (0, 0)) ∧ ∀ j (hj : j < k) (hk : k ≤ s.size), dF (s[j]'(by omega)) = 0) (fun i _ => s.size - (intOf i).toNat)
      case atStart => exact ⟨0, by omega, rfl, (Below.refl _ _).alloc (Nat.le_refl _) _, heap_alloc_new _ _, fun j hj => by omega⟩
      case round =>
        obtain ⟨k, hk, rfl, hbl, hblk, hall⟩ := hrel
        have HA : Hid (_) := hall
        have HB : Hid (_) := hblk
        clear hall
        have hz := hbl.size
        have c3 : wr.cell? ⟨w.heap.size, 3, none⟩ = some (.func (.func 47) #[] #[]) := by rw [Lib.cell_of_heap hblk]; rfl
        have c4 : wr.cell? ⟨w.heap.size, 4, none⟩ = some (.func (.func 46) #[] #[]) := by rw [Lib.cell_of_heap hblk]; rfl
        clear hblk
        by_cases hlt : k < s.size
        · have hltI : (k : Int) < (s.size : Int) := by omega
          have hs := HS.out
          by_cases hb : dF (s[k]'hlt) = 0
          · have hbb : (dF (s[k]'hlt) != 0) = false := by rw [hb]; rfl
            go_wp2_with fail
            go_quiet ((go_at_call 47; exact Calls.quiet_of_same (digitFault_any _ _)))
            have hB1 := below_drewN hbl nq
            have hh1 : (wr.drewN nq).heap[w.heap.size]? = some (.cells #[.int .i64 (least : Int), .int .i64 (most : Int), .bool plain, .func (.func 47) #[] #[], .func (.func 46) #[] #[]] 79 (0, 0)) := HB.out
            have HH1 : Hid (_) := hh1
            clear hh1 c3 c4
            go_wp2
            go_roundw
            case rel =>
              refine ⟨k + 1, by omega, by go_num, hB1, HH1.out, fun j hj hk1 => ?_⟩
              by_cases e : j = k
              · subst e; exact hb
              · exact HA.out j (by omega) (by omega)
            case measure => simp [intOf]; omega
          · have hbb : (dF (s[k]'hlt) != 0) = true := by simp [hb]
            go_wp2_with fail
            go_quiet ((go_at_call 47; exact Calls.quiet_of_same (digitFault_any _ _)))
            have hB1 := below_drewN hbl nq
            clear c3 c4
            go_wp2
            go_ret
            refine ⟨ret_int ?_, hB1⟩
            have hbf := byF_some (P := dF) (l := s.data.toList) (j := k) (by omega) (fun i hi => by rw [byte_list s i (by omega)]; exact HA.out i hi hk) (by rw [byte_list s k hlt]; exact hb)
            rw [byte_list s k hlt] at hbf
            rw [HE.out, if_pos (by rw [hbf]; exact hb), hbf]
        · have hbf : byF dF s.data.toList = 0 := by
            refine byF_none fun c hc => ?_
            obtain ⟨i, hi, rfl⟩ := List.mem_iff_getElem.1 hc
            rw [len_list] at hi
            rw [byte_list s i hi]
            exact HA.out i (by omega) hk
          have HQ : Hid (_) := HG.out (by omega) (by omega) hbf wr
          have hltI : ¬ (k : Int) < (s.size : Int) := by omega
          clear hbf
          go_wp2_with fail
          refine Calls.mono HQ.out ?_
          rintro e w2 ⟨rfl, hb2⟩
          go_wp2
          go_ret
          refine ⟨ret_int ?_, hbl.trans (hb2.mono hz)⟩
          have hbf : byF dF s.data.toList = 0 := by
            refine byF_none fun c hc => ?_
            obtain ⟨i, hi, rfl⟩ := List.mem_iff_getElem.1 hc
            rw [len_list] at hi
            rw [byte_list s i hi]
            exact HA.out i (by omega) hk
          rw [HE.out, if_neg (by rw [hbf]; simp)]

set_option maxHeartbeats 2000000 in
theorem faultDC (least most : Nat) (plain : Bool) (s : ByteArray) (w : World) (hs : s.size ≤ 9223372036854775807) (q r : Int) (hm : most ≤ 1000)
    (hG : least ≤ s.size → s.size ≤ most → byF dF s.data.toList = 0 → ∀ w, Calls Tryd.prog 44 #[.string s] w fun e w' => e = .returned (.tuple #[.int .i64 q, .int .i64 r]) ∧ Below w.heap.size w w') :
    Calls Tryd.prog 31 #[frm least most plain 47 44, .string s] w fun e w' => e = .returned (.int .i64 (fltE least most dF q s.data.toList)) ∧ Below w.heap.size w w' := by
  have hl := len_list s
  have HG : Hid (_) := hG
  have HS : Hid (_) := hs
  clear hG hs
  unfold frm
  by_cases h1 : s.size < least
  · have e1 : fltE least most dF q s.data.toList = 3 := by unfold fltE; rw [if_pos (by omega)]
    rw [e1]
    clear e1
    have h1I : (s.size : Int) < (least : Int) := by omega
    go_enter Tryd.func31, Tryd.ntmps31
    go_wp2
    go_ret
    exact ⟨rfl, by go_grown⟩
  · have h1I : ¬ (s.size : Int) < (least : Int) := by omega
    by_cases h2 : most < s.size
    · have e1 : fltE least most dF q s.data.toList = 26 := by unfold fltE; rw [if_neg (by omega), if_pos (by omega)]
      rw [e1]
      clear e1
      have h2I : (most : Int) < (s.size : Int) := by omega
      go_enter Tryd.func31, Tryd.ntmps31
      go_wp2
      go_ret
      exact ⟨rfl, by go_grown⟩
    · have h2I : ¬ (most : Int) < (s.size : Int) := by omega
      have HE : Hid (_) := (show fltE least most dF q s.data.toList = if byF dF s.data.toList ≠ 0 then byF dF s.data.toList else q by unfold fltE; rw [if_neg (by omega), if_neg (by omega)])
      have hw0 : w.heap.size < (w.alloc (.cells #[.int .i64 (least : Int), .int .i64 (most : Int), .bool plain, .func (.func 47) #[] #[], .func (.func 44) #[] #[]] 79)).heap.size := by simp
      go_enter Tryd.func31, Tryd.ntmps31
      go_wp2_with fail
      go_loopw [21] (fun i wr => ∃ k : Nat, k ≤ s.size ∧ i = .int .i64 (k : Int) ∧ Below w.heap.size w wr ∧ wr.heap[w.heap.size]? = some (.cells #[.int .i64 (least : Int), .int .i64 (most : Int), .bool plain, .func (.func 47) #[] #[], .func (.func 44) #[] #[]] 79 (0, 0)) ∧ ∀ j (hj : j < k) (hk : k ≤ s.size), dF (s[j]'(by omega)) = 0) (fun i _ => s.size - (intOf i).toNat)
      case atStart => exact ⟨0, by omega, rfl, (Below.refl _ _).alloc (Nat.le_refl _) _, heap_alloc_new _ _, fun j hj => by omega⟩
      case round =>
        obtain ⟨k, hk, rfl, hbl, hblk, hall⟩ := hrel
        have HA : Hid (_) := hall
        have HB : Hid (_) := hblk
        clear hall
        have hz := hbl.size
        have c3 : wr.cell? ⟨w.heap.size, 3, none⟩ = some (.func (.func 47) #[] #[]) := by rw [Lib.cell_of_heap hblk]; rfl
        have c4 : wr.cell? ⟨w.heap.size, 4, none⟩ = some (.func (.func 44) #[] #[]) := by rw [Lib.cell_of_heap hblk]; rfl
        clear hblk
        by_cases hlt : k < s.size
        · have hltI : (k : Int) < (s.size : Int) := by omega
          have hs := HS.out
          by_cases hb : dF (s[k]'hlt) = 0
          · have hbb : (dF (s[k]'hlt) != 0) = false := by rw [hb]; rfl
            go_wp2_with fail
            go_quiet ((go_at_call 47; exact Calls.quiet_of_same (digitFault_any _ _)))
            have hB1 := below_drewN hbl nq
            have hh1 : (wr.drewN nq).heap[w.heap.size]? = some (.cells #[.int .i64 (least : Int), .int .i64 (most : Int), .bool plain, .func (.func 47) #[] #[], .func (.func 44) #[] #[]] 79 (0, 0)) := HB.out
            have HH1 : Hid (_) := hh1
            clear hh1 c3 c4
            go_wp2
            go_roundw
            case rel =>
              refine ⟨k + 1, by omega, by go_num, hB1, HH1.out, fun j hj hk1 => ?_⟩
              by_cases e : j = k
              · subst e; exact hb
              · exact HA.out j (by omega) (by omega)
            case measure => simp [intOf]; omega
          · have hbb : (dF (s[k]'hlt) != 0) = true := by simp [hb]
            go_wp2_with fail
            go_quiet ((go_at_call 47; exact Calls.quiet_of_same (digitFault_any _ _)))
            have hB1 := below_drewN hbl nq
            clear c3 c4
            go_wp2
            go_ret
            refine ⟨ret_int ?_, hB1⟩
            have hbf := byF_some (P := dF) (l := s.data.toList) (j := k) (by omega) (fun i hi => by rw [byte_list s i (by omega)]; exact HA.out i hi hk) (by rw [byte_list s k hlt]; exact hb)
            rw [byte_list s k hlt] at hbf
            rw [HE.out, if_pos (by rw [hbf]; exact hb), hbf]
        · have hbf : byF dF s.data.toList = 0 := by
            refine byF_none fun c hc => ?_
            obtain ⟨i, hi, rfl⟩ := List.mem_iff_getElem.1 hc
            rw [len_list] at hi
            rw [byte_list s i hi]
            exact HA.out i (by omega) hk
          have HQ : Hid (_) := HG.out (by omega) (by omega) hbf wr
          have hltI : ¬ (k : Int) < (s.size : Int) := by omega
          clear hbf
          go_wp2_with fail
          refine Calls.mono HQ.out ?_
          rintro e w2 ⟨rfl, hb2⟩
          go_wp2
          go_ret
          refine ⟨ret_int ?_, hbl.trans (hb2.mono hz)⟩
          have hbf : byF dF s.data.toList = 0 := by
            refine byF_none fun c hc => ?_
            obtain ⟨i, hi, rfl⟩ := List.mem_iff_getElem.1 hc
            rw [len_list] at hi
            rw [byte_list s i hi]
            exact HA.out i (by omega) hk
          rw [HE.out, if_neg (by rw [hbf]; simp)]

set_option maxHeartbeats 2000000 in
theorem faultDD (least most : Nat) (plain : Bool) (s : ByteArray) (w : World) (hs : s.size ≤ 9223372036854775807) (q r : Int) (hm : most ≤ 1000)
    (hG : least ≤ s.size → s.size ≤ most → byF dF s.data.toList = 0 → ∀ w, Calls Tryd.prog 45 #[.string s] w fun e w' => e = .returned (.tuple #[.int .i64 q, .int .i64 r]) ∧ Below w.heap.size w w') :
    Calls Tryd.prog 31 #[frm least most plain 47 45, .string s] w fun e w' => e = .returned (.int .i64 (fltE least most dF q s.data.toList)) ∧ Below w.heap.size w w' := by
  have hl := len_list s
  have HG : Hid (_) := hG
  have HS : Hid (_) := hs
  clear hG hs
  unfold frm
  by_cases h1 : s.size < least
  · have e1 : fltE least most dF q s.data.toList = 3 := by unfold fltE; rw [if_pos (by omega)]
    rw [e1]
    clear e1
    have h1I : (s.size : Int) < (least : Int) := by omega
    go_enter Tryd.func31, Tryd.ntmps31
    go_wp2
    go_ret
    exact ⟨rfl, by go_grown⟩
  · have h1I : ¬ (s.size : Int) < (least : Int) := by omega
    by_cases h2 : most < s.size
    · have e1 : fltE least most dF q s.data.toList = 26 := by unfold fltE; rw [if_neg (by omega), if_pos (by omega)]
      rw [e1]
      clear e1
      have h2I : (most : Int) < (s.size : Int) := by omega
      go_enter Tryd.func31, Tryd.ntmps31
      go_wp2
      go_ret
      exact ⟨rfl, by go_grown⟩
    · have h2I : ¬ (most : Int) < (s.size : Int) := by omega
      have HE : Hid (_) := (show fltE least most dF q s.data.toList = if byF dF s.data.toList ≠ 0 then byF dF s.data.toList else q by unfold fltE; rw [if_neg (by omega), if_neg (by omega)])
      have hw0 : w.heap.size < (w.alloc (.cells #[.int .i64 (least : Int), .int .i64 (most : Int), .bool plain, .func (.func 47) #[] #[], .func (.func 45) #[] #[]] 79)).heap.size := by simp
      go_enter Tryd.func31, Tryd.ntmps31
      go_wp2_with fail
      go_loopw [21] (fun i wr => ∃ k : Nat, k ≤ s.size ∧ i = .int .i64 (k : Int) ∧ Below w.heap.size w wr ∧ wr.heap[w.heap.size]? = some (.cells #[.int .i64 (least : Int), .int .i64 (most : Int), .bool plain, .func (.func 47) #[] #[], .func (.func 45) #[] #[]] 79 (0, 0)) ∧ ∀ j (hj : j < k) (hk : k ≤ s.size), dF (s[j]'(by omega)) = 0) (fun i _ => s.size - (intOf i).toNat)
      case atStart => exact ⟨0, by omega, rfl, (Below.refl _ _).alloc (Nat.le_refl _) _, heap_alloc_new _ _, fun j hj => by omega⟩
      case round =>
        obtain ⟨k, hk, rfl, hbl, hblk, hall⟩ := hrel
        have HA : Hid (_) := hall
        have HB : Hid (_) := hblk
        clear hall
        have hz := hbl.size
        have c3 : wr.cell? ⟨w.heap.size, 3, none⟩ = some (.func (.func 47) #[] #[]) := by rw [Lib.cell_of_heap hblk]; rfl
        have c4 : wr.cell? ⟨w.heap.size, 4, none⟩ = some (.func (.func 45) #[] #[]) := by rw [Lib.cell_of_heap hblk]; rfl
        clear hblk
        by_cases hlt : k < s.size
        · have hltI : (k : Int) < (s.size : Int) := by omega
          have hs := HS.out
          by_cases hb : dF (s[k]'hlt) = 0
          · have hbb : (dF (s[k]'hlt) != 0) = false := by rw [hb]; rfl
            go_wp2_with fail
            go_quiet ((go_at_call 47; exact Calls.quiet_of_same (digitFault_any _ _)))
            have hB1 := below_drewN hbl nq
            have hh1 : (wr.drewN nq).heap[w.heap.size]? = some (.cells #[.int .i64 (least : Int), .int .i64 (most : Int), .bool plain, .func (.func 47) #[] #[], .func (.func 45) #[] #[]] 79 (0, 0)) := HB.out
            have HH1 : Hid (_) := hh1
            clear hh1 c3 c4
            go_wp2
            go_roundw
            case rel =>
              refine ⟨k + 1, by omega, by go_num, hB1, HH1.out, fun j hj hk1 => ?_⟩
              by_cases e : j = k
              · subst e; exact hb
              · exact HA.out j (by omega) (by omega)
            case measure => simp [intOf]; omega
          · have hbb : (dF (s[k]'hlt) != 0) = true := by simp [hb]
            go_wp2_with fail
            go_quiet ((go_at_call 47; exact Calls.quiet_of_same (digitFault_any _ _)))
            have hB1 := below_drewN hbl nq
            clear c3 c4
            go_wp2
            go_ret
            refine ⟨ret_int ?_, hB1⟩
            have hbf := byF_some (P := dF) (l := s.data.toList) (j := k) (by omega) (fun i hi => by rw [byte_list s i (by omega)]; exact HA.out i hi hk) (by rw [byte_list s k hlt]; exact hb)
            rw [byte_list s k hlt] at hbf
            rw [HE.out, if_pos (by rw [hbf]; exact hb), hbf]
        · have hbf : byF dF s.data.toList = 0 := by
            refine byF_none fun c hc => ?_
            obtain ⟨i, hi, rfl⟩ := List.mem_iff_getElem.1 hc
            rw [len_list] at hi
            rw [byte_list s i hi]
            exact HA.out i (by omega) hk
          have HQ : Hid (_) := HG.out (by omega) (by omega) hbf wr
          have hltI : ¬ (k : Int) < (s.size : Int) := by omega
          clear hbf
          go_wp2_with fail
          refine Calls.mono HQ.out ?_
          rintro e w2 ⟨rfl, hb2⟩
          go_wp2
          go_ret
          refine ⟨ret_int ?_, hbl.trans (hb2.mono hz)⟩
          have hbf : byF dF s.data.toList = 0 := by
            refine byF_none fun c hc => ?_
            obtain ⟨i, hi, rfl⟩ := List.mem_iff_getElem.1 hc
            rw [len_list] at hi
            rw [byte_list s i hi]
            exact HA.out i (by omega) hk
          rw [HE.out, if_neg (by rw [hbf]; simp)]

end Go.Proofs.YtpplkoilpblpkaaDoor
