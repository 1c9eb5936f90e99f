/-
  Packs: the contracts of atLevel and leveled, of Pack on both sides, and of the document's own Check and Normal.
-/
import Derived.Test.YthpdimhkgkefhaaDoorNormal
import Derived.Lib.Strings
namespace Go.Proofs.YthpdimhkgkefhaaDoor
open Go.RowKit
set_option maxRecDepth 100000

theorem bytes_ext {a : ByteArray} {l : List UInt8} (h : a.data.toList = l) : a = ⟨l.toArray⟩ := by
  cases a with | mk x =>
  subst h
  simp

theorem ret_string {a b : ByteArray} (h : a = b) : Ending.returned (.string a) = .returned (.string b) := by rw [h]

def lvB (n : List UInt8) (c : UInt8) : List UInt8 := c :: (n.drop 1).take 12
def lv (n : List UInt8) (c : UInt8) : List UInt8 := lvB n c ++ [ck (lvB n c)]

theorem lvB_len {n : List UInt8} (h : n.length = 14) (c : UInt8) : (lvB n c).length = 13 := by
  unfold lvB
  rw [List.length_cons, List.length_take, List.length_drop]
  omega

set_option maxHeartbeats 800000 in
theorem atLevel_any (s : ByteArray) (v : Int) (c : UInt8) (w : World) (hs : s.size = 14) (h0 : 0 ≤ v) (h9 : v ≤ 9) (hc : 48 + v = (c.toNat : Int)) :
    Calls Tryd.prog 23 #[.string s, .int .i64 v] w fun e w' => e = .returned (.string ⟨(lv s.data.toList c).toArray⟩) ∧ Below w.heap.size w w' := by
  have hl := len_list s
  have kc := run_one_drew w _ c hc
  have hbd : ((⟨#[c]⟩ : ByteArray) ++ s.extract 1 13).data.toList = lvB s.data.toList c := by
    rw [ByteArray.data_append, Array.toList_append, Lib.extract_data]
    rfl
  have hbl : ((⟨#[c]⟩ : ByteArray) ++ s.extract 1 13).size = 13 := by
    rw [← len_list, hbd, lvB_len (by omega)]
  have HX : Hid (_) := And.intro hbd hbl
  have h13 : 13 ≤ s.size := by omega
  clear hbd hbl hc
  go_enter Tryd.func23, Tryd.ntmps23
  go_wp2_with fail
  go_region
  clear kc
  have hb1 : Below w.heap.size w (w.alloc (.cells #[.int .u8 (48 + v)] 5)).drew := ((Below.refl _ _).alloc (Nat.le_refl _) _).drew
  generalize (w.alloc (.cells #[.int .u8 (48 + v)] 5)).drew = w1 at hb1 ⊢
  have hz1 := hb1.size
  go_wp2_with fail
  refine (checkDigit_any _ _ (by rw [HX.out.2]; omega)).mono ?_
  rintro e w2 ⟨rfl, rfl⟩
  rw [HX.out.1]
  have kc := run_one w2 _ (ck (lvB s.data.toList c)) rfl
  go_wp2
  go_ret
  refine ⟨ret_string ?_, hb1.alloc hz1 _⟩
  refine bytes_ext ?_
  rw [ByteArray.data_append, Array.toList_append, HX.out.1]
  rfl

set_option maxHeartbeats 800000 in
theorem leveled_any (s : ByteArray) (z : Int) (c : UInt8) (w : World) (hs : s.size = 14) (hz : z = (c.toNat : Int)) (hall : AllD s.data.toList) (hcd : IsD c) :
    Calls Tryd.prog 24 #[.string s, .int .u8 z] w fun e w' => e = .returned (.string ⟨(lv s.data.toList c).toArray⟩) ∧ Below w.heap.size w w' := by
  have hl := len_list s
  have kc := run_one_drew w _ c hz
  have hbd : ((⟨#[c]⟩ : ByteArray) ++ s.extract 1 13).data.toList = lvB s.data.toList c := by
    rw [ByteArray.data_append, Array.toList_append, Lib.extract_data]
    rfl
  have hlen := lvB_len (n := s.data.toList) (by omega) c
  have hbl : ((⟨#[c]⟩ : ByteArray) ++ s.extract 1 13).size = 13 := by
    rw [← len_list, hbd, hlen]
  have hallB : AllD (lvB s.data.toList c) := by
    intro x hx
    rcases List.mem_cons.1 hx with rfl | hx
    · exact hcd
    · exact hall x (List.mem_of_mem_drop (List.mem_of_mem_take hx))
  have hdig := digV_ok (l := lvB s.data.toList c) (by omega) (by omega) ((fo_neg_iff _).2 hallB)
  have HX : Hid (_) := And.intro hbd (And.intro hbl hdig)
  have h13 : 13 ≤ s.size := by omega
  clear hbd hbl hz hall hcd hallB hdig hlen
  go_enter Tryd.func24, Tryd.ntmps24
  go_wp2_with fail
  go_region
  clear kc
  have hb1 : Below w.heap.size w (w.alloc (.cells #[.int .u8 z] 5)).drew := ((Below.refl _ _).alloc (Nat.le_refl _) _).drew
  generalize (w.alloc (.cells #[.int .u8 z] 5)).drew = w1 at hb1 ⊢
  have hz1 := hb1.size
  have HD : Hid (_) := refDigit_any ((⟨#[c]⟩ : ByteArray) ++ s.extract 1 13) w1
  rw [HX.out.1, HX.out.2.2] at HD
  go_wp2_with fail
  refine Calls.mono HD.out ?_
  rintro e w2 ⟨rfl, hb2⟩
  clear HD
  have kc := run_one w2 _ (ck (lvB s.data.toList c)) rfl
  have hz2 := hb2.size
  go_wp2
  go_ret
  refine ⟨ret_string ?_, (hb1.trans (hb2.mono hz1)).alloc (by omega) _⟩
  refine bytes_ext ?_
  rw [ByteArray.data_append, Array.toList_append, HX.out.1]
  rfl

set_option maxHeartbeats 2000000 in
theorem refCheck_any (s : ByteArray) (w : World) :
    Calls Tryd.prog 6 #[.string s] w fun e w' => e = .returned (.tuple #[.int .i64 (chkE s.data.toList).1, .int .i64 (chkE s.data.toList).2]) ∧ w' = w := by
  have hl := len_list s
  by_cases h1 : 18 < s.size
  · rw [chk_long (by omega)]
    go_enter Tryd.func6, Tryd.ntmps6
    go_wp2
    go_ret2
    exact ⟨rfl, rfl⟩
  · have HS : Hid (_) := refSum_any s w (by omega)
    go_enter Tryd.func6, Tryd.ntmps6
    go_wp2
    go_loop [5] (fun i => ∃ k : Nat, k ≤ s.size ∧ i = .int .i64 (k : Nat) ∧ ∀ j (hj : j < k) (hl : k ≤ s.size), isDB (s[j]'(by omega)) = true) (fun i => s.size - (intOf i).toNat)
    case atStart => exact ⟨0, by omega, rfl, fun j hj => by omega⟩
    case round =>
      obtain ⟨k, hk, rfl, hall⟩ := hrel
      have HA : Hid (_) := hall
      clear hall
      by_cases hlt : k < s.size
      · cases hb : isDB (s[k]'hlt) with
        | true =>
          go_wp2_with (go_at_call 17; refine (refIsDigit_any _ _).mono ?_; rintro e w' ⟨rfl, rfl⟩)
          go_round
          case rel =>
            refine ⟨k + 1, by omega, by go_num, fun j hj hl => ?_⟩
            by_cases e : j = k
            · subst e; exact hb
            · exact HA.out j (by omega) (by omega)
          case measure => simp [intOf]; omega
        | false =>
          go_wp2_with (go_at_call 17; refine (refIsDigit_any _ _).mono ?_; rintro e w' ⟨rfl, rfl⟩)
          go_ret2
          refine ⟨?_, rfl⟩
          have hf := fo_some (l := s.data.toList) (j := k) (by rw [len_list]; exact hlt) (fun i hi => by rw [byte_list s i (by omega)]; exact HA.out i hi hk) (by rw [byte_list s k hlt]; exact hb)
          rw [chk_other (by omega) (by omega), hf]
          rfl
      · have ha : fo s.data.toList = -1 := by
          refine fo_none fun c hc => ?_
          obtain ⟨i, hi, rfl⟩ := List.mem_iff_getElem.1 hc
          rw [len_list] at hi
          rw [byte_list s i hi]
          exact HA.out i (by omega) hk
        clear HA
        by_cases h3 : SizeOk s.size
        · by_cases h4 : sm s.data.toList % 10 = 0
          · have HD : Hid (_) := chk_fine (l := s.data.toList) (by omega) (by omega) (by rw [hl]; exact h3) h4
            have h4b : ((sm s.data.toList : Int) % 10 != 0) = false := by simp; omega
            unfold SizeOk at h3
            clear ha h4
            rcases h3 with h | h | h | h | h
            all_goals
              have h8 : (s.size : Int) = _ := congrArg Nat.cast h
              go_wp2_with fail
              refine Calls.mono HS.out ?_
              rintro e w' ⟨rfl, rfl⟩
              go_wp2
              go_ret2
              exact ⟨by rw [HD.out]; rfl, rfl⟩
          · have HD : Hid (_) := chk_sum (l := s.data.toList) (by omega) (by omega) (by rw [hl]; exact h3) h4
            rw [hl] at HD
            have h4b : ((sm s.data.toList : Int) % 10 != 0) = true := by simp; omega
            unfold SizeOk at h3
            clear ha h4
            rcases h3 with h | h | h | h | h
            all_goals
              have h8 : (s.size : Int) = _ := congrArg Nat.cast h
              go_wp2_with fail
              refine Calls.mono HS.out ?_
              rintro e w' ⟨rfl, rfl⟩
              go_wp2
              go_ret2
              exact ⟨by rw [HD.out]; simp [h], rfl⟩
        · have HD : Hid (_) := chk_size (l := s.data.toList) (by omega) (by omega) (by rw [hl]; exact h3)
          rw [hl] at HD
          unfold SizeOk at h3
          have n1 : ((s.size : Int) != 8) = true := by simp; omega
          have n2 : ((s.size : Int) != 12) = true := by simp; omega
          have n3 : ((s.size : Int) != 13) = true := by simp; omega
          have n4 : ((s.size : Int) != 14) = true := by simp; omega
          have n5 : ((s.size : Int) != 18) = true := by simp; omega
          clear h3 ha HS
          go_wp2
          go_ret2
          exact ⟨by rw [HD.out]; rfl, rfl⟩
end Go.Proofs.YthpdimhkgkefhaaDoor
