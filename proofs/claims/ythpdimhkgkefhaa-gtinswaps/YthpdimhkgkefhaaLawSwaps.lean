/-
  GtinSwaps: the law's own walk, out of the contracts.
-/
import Derived.Test.YthpdimhkgkefhaaLawOne
namespace Go.Proofs.Ythpdimhkgkefhaa
open Go.RowKit
set_option maxRecDepth 100000

/-- a contract of 'with' in any world -/
theorem with_since (s : ByteArray) (k : Nat) (c : UInt8) (z x : Int) (hz : z = (k : Int)) (hx : x = (c.toNat : Int)) (hk : k < s.size) (hs : s.size ≤ 100) (w0 w : World) (h0 : Below w0.heap.size w0 w) :
    Calls Try.prog 8 #[.string s, .int .i64 z, .int .u8 x] w fun e w' => ∃ t : ByteArray, e = .returned (.string t) ∧ t.data.toList = s.data.toList.set k c ∧ Below w0.heap.size w0 w' := by
  subst hz hx
  refine (with_any s k c w hk hs).mono ?_
  rintro e w' ⟨t, rfl, ht, hb⟩
  exact ⟨t, rfl, ht, h0.trans (hb.mono h0.size)⟩

set_option maxHeartbeats 4000000 in
theorem swaps_any (v : Value) (l : List UInt8) (n at_ : Int) (w : World) (hr : Reads w v l) (hlen : l.length ≤ 9223372036854775807) :
    Calls Try.prog 5 #[v, .int .i64 n, .int .i64 at_] w fun e w' => e = .returned (.bool true) ∧ Below w.heap.size w w' := by
  have HB : Hid (_) := code_any v l n w hr hlen
  clear hr hlen
  go_enter Try.func5, Try.ntmps5
  go_wp2_with fail
  refine Calls.mono HB.out ?_
  rintro e w1 ⟨c, rfl, hcode, hbsz, hb⟩
  clear HB hbsz
  have hl := len_list c
  have hs := code_size hcode
  rw [hl] at hs
  have HC : Hid (_) := hcode
  clear hcode
  have HW : Hid (_) := within_any at_ ((c.size : Int) - 2) w1 (by omega) (by omega)
  rw [show (c.size : Int) - 2 + 1 = (c.size : Int) - 1 by omega] at HW
  have hp0 := Int.emod_nonneg at_ (show (c.size : Int) - 1 ≠ 0 by omega)
  have hp1 := Int.emod_lt_of_pos at_ (show (0 : Int) < c.size - 1 by omega)
  obtain ⟨k, hk⟩ : ∃ k : Nat, at_ % ((c.size : Int) - 1) = (k : Int) := ⟨(at_ % ((c.size : Int) - 1)).toNat, by omega⟩
  rw [hk] at HW hp0 hp1
  clear hk
  have hk : k + 1 < c.size := by omega
  have hk0 : k < c.size := by omega
  go_wp2_with fail
  refine Calls.mono HW.out ?_
  rintro e w' ⟨rfl, rfl⟩
  clear HW
  have i1 : (k : Int) < c.size := by omega
  have i2 : (k : Int) + 1 < c.size := by omega
  have i3 : (0 : Int) ≤ (k : Int) + 1 := by omega
  have hwr : IntKind.i64.wrap ((k : Int) + 1) = (k : Int) + 1 := by
    rw [IntKind.wrap_i64]; omega
  go_upto_region 5 with fail
  go_cut [10] from 27 to 39 (fun s wx => ∃ t : ByteArray, s = .string t ∧ t.data.toList = (c.data.toList.set k (c[k + 1]'hk)).set (k + 1) (c[k]'hk0) ∧ Below w'.heap.size w' wx)
  case first =>
    have s0 : Below w'.heap.size w' w'.drew := (Below.refl _ _).drew
    go_region_with (first
      | (go_at_call_of 8 (Value.string c); refine (with_since c k (c[k + 1]'hk) _ _ (by first | rfl | omega) (by rfl) (by omega) (by omega) w' _ s0).mono ?_; rintro e w2 ⟨t, rfl, ht, hb2⟩; have htl : t.size = c.size := by rw [← len_list t, ht, List.length_set, hl])
      | (go_at_call_of 8 (Value.string t); refine (with_since t (k + 1) (c[k]'hk0) _ _ (by first | rfl | omega) (by rfl) (by omega) (by omega) w' _ hb2).mono ?_; rintro e w3 ⟨t2, rfl, ht2, hb3⟩))
    all_goals (go_wp2_with fail; go_meet; exact ⟨t2, rfl, by rw [ht2, ht], hb3⟩)
  case rest =>
    obtain ⟨t, rfl, ht, hbc⟩ := hcut
    have hbw := hb.trans (hbc.mono hb.size)
    have htl : t.size = c.size := by rw [← len_list t, ht, List.length_set, List.length_set, hl]
    have hkl : k + 1 < c.data.toList.length := by rw [hl]; exact hk
    have hkl0 : k < c.data.toList.length := by omega
    have e1 := byte_list c (k + 1) hk
    have e0 := byte_list c k hk0
    have HK : Hid (_) := check_any t wc (by omega)
    have hd0 := HC.out.1 _ (List.getElem_mem hkl0)
    have hd1 := HC.out.1 _ (List.getElem_mem hkl)
    have hsw := sm_swap c.data.toList k hkl HC.out.1 HC.out.2.2
    have hall : AllD t.data.toList := by
      rw [ht, ← e1, ← e0]
      exact allD_set (allD_set HC.out.1 hd1) hd0
    have hsize : SizeOk t.data.toList.length := by rw [len_list, htl, ← hl]; exact HC.out.2.1
    rw [e0, e1, ← ht] at hsw
    rw [e0] at hd0
    rw [e1] at hd1
    unfold IsD at hd0 hd1
    have HT : Hid (_) := And.intro hall hsize
    clear ht htl hkl hkl0 e1 e0 hall hsize hb hbc
    have hx : (k : Int) < c.size ∧ (0 : Int) ≤ k := by omega
    by_cases hq : sm t.data.toList % 10 = 0
    · rw [chk_code ⟨HT.out.1, HT.out.2, hq⟩] at HK
      have h3 := hsw.1 hq
      clear hsw hq
      go_wp2_with fail
      refine Calls.mono HK.out ?_
      rintro e w' ⟨rfl, rfl⟩
      clear HK
      go_wp2_with fail
      go_quiet (fail)
      generalize (c[k]'hk0).toNat = x at *
      generalize (c[k + 1]'hk).toNat = y at *
      rcases h3 with h | h | h
      · have b1 : ((x : Int) - y == 0) = true := by simp; omega
        go_wp2
        go_ret
        exact ⟨rfl, below_drewN hbw nq⟩
      · have b1 : ((x : Int) - y == 0) = false := by simp; omega
        have b2 : ((x : Int) - y == 5) = true := by simp; omega
        go_wp2
        go_ret
        exact ⟨rfl, below_drewN hbw nq⟩
      · have b1 : ((x : Int) - y == 0) = false := by simp; omega
        have b2 : ((x : Int) - y == 5) = false := by simp; omega
        have b3 : ((x : Int) - y == -5) = true := by simp; omega
        go_wp2
        go_ret
        exact ⟨rfl, below_drewN hbw nq⟩
    · rw [chk_told HT.out.1 HT.out.2 hq] at HK
      have h3 := fun h => hq (hsw.2 h)
      have n1 : ¬ (c[k]'hk0).toNat = (c[k + 1]'hk).toNat := fun h => h3 (.inl h)
      have n2 : ¬ (c[k]'hk0).toNat = (c[k + 1]'hk).toNat + 5 := fun h => h3 (.inr (.inl h))
      have n3 : ¬ (c[k]'hk0).toNat + 5 = (c[k + 1]'hk).toNat := fun h => h3 (.inr (.inr h))
      clear hsw hq h3
      go_wp2_with fail
      refine Calls.mono HK.out ?_
      rintro e w' ⟨rfl, rfl⟩
      clear HK
      go_wp2_with fail
      go_quiet (fail)
      generalize (c[k]'hk0).toNat = x at *
      generalize (c[k + 1]'hk).toNat = y at *
      have b1 : ((x : Int) - y == 0) = false := by simp; omega
      have b2 : ((x : Int) - y == 5) = false := by simp; omega
      have b3 : ((x : Int) - y == -5) = false := by simp; omega
      go_wp2
      go_ret
      exact ⟨rfl, below_drewN hbw nq⟩
end Go.Proofs.Ythpdimhkgkefhaa
