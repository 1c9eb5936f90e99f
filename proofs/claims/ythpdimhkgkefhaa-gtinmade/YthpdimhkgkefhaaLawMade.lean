/-
  GtinMade: the law's own walk, out of the contracts.
-/
import Derived.Test.YthpdimhkgkefhaaMade
namespace Go.Proofs.Ythpdimhkgkefhaa
open Go.RowKit
set_option maxRecDepth 100000

set_option maxHeartbeats 2000000 in
theorem made_any (v : Value) (l : List UInt8) (n : Int) (w : World) (hr : Reads w v l) (hlen : l.length ≤ 9223372036854775807) :
    Calls Try.prog 3 #[v, .int .i64 n] w fun e w' => e = .returned (.bool true) ∧ Below w.heap.size w w' := by
  have HB : Hid (_) := code_any v l n w hr hlen
  clear hr hlen
  go_enter Try.func3, Try.ntmps3
  go_wp2_with fail
  refine Calls.mono HB.out ?_
  rintro e w1 ⟨c, rfl, hcode, hbsz, hb⟩
  clear HB hbsz
  have hl := len_list c
  have hs := code_size hcode
  rw [hl] at hs
  have hidx : c.size - 1 < c.data.toList.length := by omega
  have HC : Hid (_) := hcode
  clear hcode
  go_wp2_with fail
  go_loopw [7] (fun d wr => ∃ k : Nat, d = .int .u8 (k : Int) ∧ 48 ≤ k ∧ k ≤ 58 ∧ Below w.heap.size w wr) (fun d _ => 58 - (intOf d).toNat)
  case atStart => exact ⟨48, rfl, by omega, by omega, hb⟩
  case round =>
    obtain ⟨k, rfl, h48, h58, hbl⟩ := hrel
    have hz := hbl.size
    by_cases hlt : k ≤ 57
    · obtain ⟨d, hd⟩ : ∃ d : UInt8, d.toNat = k := ⟨UInt8.ofNat k, by rw [UInt8.toNat_ofNat']; omega⟩
      subst hd
      have HW : Hid (_) := with_any c (c.size - 1) d wr (by omega) (by omega)
      rw [show ((c.size - 1 : Nat) : Int) = (c.size : Int) - 1 by omega] at HW
      go_wp2_with fail
      refine Calls.mono HW.out ?_
      rintro e w2 ⟨t, rfl, ht, hb2⟩
      clear HW
      have htl : t.size = c.size := by rw [← len_list t, ht, List.length_set, hl]
      have HK : Hid (_) := check_any t w2 (by omega)
      have hbb := hbl.trans (hb2.mono hz)
      by_cases hq : d = (c.data.toList[c.size - 1]'hidx)
      · have htc : t = c := ba_ext (by rw [ht, hq]; exact List.set_getElem_self _)
        subst htc
        rw [chk_code HC.out] at HK
        clear ht htl hq
        go_wp2_with fail
        refine Calls.mono HK.out ?_
        rintro e w' ⟨rfl, rfl⟩
        clear HK
        go_wp2
        go_roundw
        case rel => exact ⟨d.toNat + 1, by go_num, by omega, by omega, hbb⟩
        case measure => simp [intOf]; omega
      · have hdd : IsD d := ⟨h48, hlt⟩
        have hm := sm_set_told c.data.toList (c.size - 1) (by omega) d HC.out.2.2 (HC.out.1 _ (List.getElem_mem _)) hdd hq
        have hne : (t.toList == c.toList) = false := by
          rw [beq_eq_false_iff_ne, ByteArray.toList_eq, ByteArray.toList_eq, ht]
          intro e
          have h1 := congrArg (fun l => l[c.size - 1]?) e
          rw [List.getElem?_set_self (by omega), List.getElem?_eq_getElem (by omega)] at h1
          exact hq (Option.some.inj h1)
        rw [ht, chk_told (allD_set HC.out.1 hdd) (by rw [List.length_set]; exact HC.out.2.1) hm] at HK
        rw [List.length_set, hl] at HK
        clear ht htl hm hq
        go_wp2_with fail
        refine Calls.mono HK.out ?_
        rintro e w' ⟨rfl, rfl⟩
        clear HK
        go_wp2
        go_roundw
        case rel => exact ⟨d.toNat + 1, by go_num, by omega, by omega, hbb⟩
        case measure => simp [intOf]; omega
    · go_wp2
      go_ret
      exact ⟨rfl, hbl⟩
end Go.Proofs.Ythpdimhkgkefhaa
