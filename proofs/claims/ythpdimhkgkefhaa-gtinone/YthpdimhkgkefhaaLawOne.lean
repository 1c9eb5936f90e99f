/-
  GtinOne: the law's own walk, out of the contracts.
-/
import Derived.Test.YthpdimhkgkefhaaLawMade
import Derived.Deep.CutRange
import Derived.Deep.RegionWith
import Derived.Deep.DrawnRows
import Derived.Deep.QuietTactic
import Derived.BigQuiet
import Derived.WalkSmall
namespace Go.Proofs.Ythpdimhkgkefhaa
open Go.RowKit
set_option maxRecDepth 100000

set_option maxHeartbeats 2000000 in
theorem one_any (v : Value) (l : List UInt8) (n at_ by_ : Int) (w : World) (hr : Reads w v l) (hlen : l.length ≤ 9223372036854775807) :
    Calls Try.prog 4 #[v, .int .i64 n, .int .i64 at_, .int .i64 by_] w fun e w' => e = .returned (.bool true) ∧ Below w.heap.size w w' := by
  have HB : Hid (_) := code_any v l n w hr hlen
  clear hr hlen
  go_enter Try.func4, Try.ntmps4
  go_wp2_with fail
  refine Calls.mono HB.out ?_
  rintro e w1 ⟨c, rfl, hcode, hbsz, hb⟩
  clear HB hbsz
  have hl := len_list c
  have hs := code_size hcode
  rw [hl] at hs
  have HC : Hid (_) := hcode
  clear hcode
  have HW : Hid (_) := within_any at_ ((c.size : Int) - 1) w1 (by omega) (by omega)
  rw [show (c.size : Int) - 1 + 1 = (c.size : Int) by omega] at HW
  have hp0 := Int.emod_nonneg at_ (show (c.size : Int) ≠ 0 by omega)
  have hp1 := Int.emod_lt_of_pos at_ (show (0 : Int) < c.size by omega)
  obtain ⟨k, hk⟩ : ∃ k : Nat, at_ % (c.size : Int) = (k : Int) := ⟨(at_ % (c.size : Int)).toNat, by omega⟩
  rw [hk] at HW hp0 hp1
  clear hk
  have hk : k < c.size := by omega
  have hx0 : 0 ≤ by_ % 9 := by omega
  have hx1 : by_ % 9 < 9 := by omega
  have HV : Hid (∀ wx : World, Calls Try.prog 10 #[.int .i64 by_, .int .i64 8] wx fun e w' => e = .returned (.int .i64 (by_ % 9)) ∧ w' = wx) := fun wx => within_any by_ 8 wx (by omega) (by omega)
  generalize by_ % 9 = q at HV hx0 hx1
  go_wp2_with fail
  refine Calls.mono HW.out ?_
  rintro e w' ⟨rfl, rfl⟩
  clear HW
  go_wp2_with fail
  go_quiet ((go_at_call 10; exact Calls.quiet_of_same (HV.out _)))
  have hkl : k < c.data.toList.length := by rw [hl]; exact hk
  have hdk : IsD c[k] := by
    have := HC.out.1 _ (List.getElem_mem hkl)
    rw [byte_list c k hk] at this
    exact this
  unfold IsD at hdk
  obtain ⟨d, hd⟩ : ∃ d : UInt8, (48 + ((c[k].toNat : Int) - 48 + 1 + q) % 256 % 10) = (d.toNat : Int) := ⟨UInt8.ofNat (48 + ((c[k].toNat : Int) - 48 + 1 + q) % 256 % 10).toNat, by rw [UInt8.toNat_ofNat']; omega⟩
  have hdd : IsD d := by unfold IsD; omega
  have hne : d ≠ c[k] := by
    intro e
    rw [e, Int.emod_eq_of_lt (a := (c[k].toNat : Int) - 48 + 1 + q) (by omega) (by omega)] at hd
    omega
  rw [hd]
  have HW : Hid (_) := with_any c k d (w'.drewN nq) (by omega) (by omega)
  have hm := sm_set_told c.data.toList k hkl d HC.out.2.2 (HC.out.1 _ (List.getElem_mem hkl)) hdd (by rw [byte_list c k hk]; exact hne)
  have hchk := chk_told (allD_set (k := k) HC.out.1 hdd) (by rw [List.length_set]; exact HC.out.2.1) hm
  rw [List.length_set, hl] at hchk
  have HH : Hid (_) := hchk
  have hbd : Below w.heap.size w (w'.drewN nq) := below_drewN hb nq
  clear hm hne hdd hd hdk hchk HV hb
  go_wp2_with fail
  refine Calls.mono HW.out ?_
  rintro e w2 ⟨t, rfl, ht, hb2⟩
  clear HW
  have htl : t.size = c.size := by rw [← len_list t, ht, List.length_set, hl]
  have HK : Hid (_) := check_any t w2 (by omega)
  rw [ht, HH.out] at HK
  have hbb := hbd.trans (hb2.mono hbd.size)
  clear ht htl
  go_wp2_with fail
  refine Calls.mono HK.out ?_
  rintro e w' ⟨rfl, rfl⟩
  clear HK
  go_wp2
  go_ret
  exact ⟨rfl, hbb⟩
end Go.Proofs.Ythpdimhkgkefhaa
