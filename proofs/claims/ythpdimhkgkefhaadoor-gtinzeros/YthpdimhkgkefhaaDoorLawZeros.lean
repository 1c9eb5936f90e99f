/-
  GtinZeros: the law's own walk, out of the contracts.
-/
import Derived.Test.YthpdimhkgkefhaaDoorMade
import Derived.Test.YthpdimhkgkefhaaDoorTrade
namespace Go.Proofs.YthpdimhkgkefhaaDoor
open Go.RowKit
set_option maxRecDepth 100000

theorem size_list (l : List UInt8) : (⟨l.toArray⟩ : ByteArray).size = l.length := by rw [← len_list]

set_option maxHeartbeats 2000000 in
theorem zeros_any (v : Value) (l : List UInt8) (n : Int) (w : World) (hr : Reads w v l) (hlen : l.length ≤ 9223372036854775807) :
    Calls Tryd.prog 4 #[v, .int .i64 n] w fun e w' => e = .returned (.bool true) ∧ Below w.heap.size w w' := by
  have HW : Hid (_) := within_any n 3 w (by omega) (by omega)
  rw [show (3 : Int) + 1 = 4 from rfl] at HW
  have h0 : 0 ≤ n % 4 := by omega
  have h4 : n % 4 < 4 := by omega
  generalize n % 4 = r at HW h0 h4
  have HB : Hid (_) := code_any v l r w hr hlen
  clear hr hlen
  go_enter Tryd.func4, Tryd.ntmps4
  go_wp2_with fail
  refine Calls.mono HW.out ?_
  rintro e w0 ⟨rfl, rfl⟩
  clear HW
  go_wp2_with fail
  refine Calls.mono HB.out ?_
  rintro e w1 ⟨c, rfl, hcode, hbsz, hb1⟩
  clear HB
  have hl := len_list c
  have hbs : bsz (r % 5) ≤ 13 := by
    rw [Int.emod_eq_of_lt h0 (by omega)]
    unfold bsz
    repeat' split
    all_goals omega
  have ht : Trade c.data.toList := ⟨hcode, by omega⟩
  have h8 := code_size hcode
  rw [hl] at h8
  have hc14 : c.size ≤ 14 := by omega
  clear hbsz hbs h0 h4 hcode
  -- what each call answers
  have e1 := nrmE_zero.2 ht
  have e2 := nrmT_trade ht
  have e3 := shT_trade ht
  have hn14 := nrm_len ht.2
  have htn := trade_nrm ht
  have en1 := nrmE_zero.2 htn
  have en2 := nrmT_trade htn
  rw [nrm_full hn14] at en2
  have hts := trade_short hn14 htn
  have es1 := nrmE_zero.2 hts
  have es2 := nrmT_trade hts
  have es3 := shT_trade hts
  rw [nrm_short hn14] at es2 es3
  have es4 := chk_code hts.1
  have hle := short_le ht
  have hdrop := drop_nrm (l := c.data.toList)
  rw [hl] at hle hdrop
  have N1 : Hid (∀ w, Calls Tryd.prog 7 #[.string c] w fun e w' => e = .returned (.tuple #[.string ⟨(nrm c.data.toList).toArray⟩, .int .i64 0]) ∧ Below w.heap.size w w') := fun w => by
    have := normal_any c w (by omega)
    rw [e1, e2] at this
    exact this
  have N2 : Hid (∀ w, Calls Tryd.prog 7 #[.string ⟨(nrm c.data.toList).toArray⟩] w fun e w' => e = .returned (.tuple #[.string ⟨(nrm c.data.toList).toArray⟩, .int .i64 0]) ∧ Below w.heap.size w w') := fun w => by
    have := normal_any ⟨(nrm c.data.toList).toArray⟩ w (by rw [size_list]; omega)
    simp only [en1, en2] at this
    exact this
  have S1 : Hid (∀ w, Calls Tryd.prog 9 #[.string c] w fun e w' => e = .returned (.tuple #[.string ⟨(shortN (nrm c.data.toList)).toArray⟩, .int .i64 0]) ∧ Below w.heap.size w w') := fun w => by
    have := short_any c w (by omega)
    rw [e1, e3] at this
    exact this
  have N3 : Hid (∀ w, Calls Tryd.prog 7 #[.string ⟨(shortN (nrm c.data.toList)).toArray⟩] w fun e w' => e = .returned (.tuple #[.string ⟨(nrm c.data.toList).toArray⟩, .int .i64 0]) ∧ Below w.heap.size w w') := fun w => by
    have := normal_any ⟨(shortN (nrm c.data.toList)).toArray⟩ w (by rw [size_list]; omega)
    simp only [es1, es2] at this
    exact this
  have S2 : Hid (∀ w, Calls Tryd.prog 9 #[.string ⟨(shortN (nrm c.data.toList)).toArray⟩] w fun e w' => e = .returned (.tuple #[.string ⟨(shortN (nrm c.data.toList)).toArray⟩, .int .i64 0]) ∧ Below w.heap.size w w') := fun w => by
    have := short_any ⟨(shortN (nrm c.data.toList)).toArray⟩ w (by rw [size_list]; omega)
    simp only [es1, es3] at this
    exact this
  have K1 : Hid (∀ w, Calls Tryd.prog 5 #[.string ⟨(shortN (nrm c.data.toList)).toArray⟩] w fun e w' => e = .returned (.tuple #[.int .i64 0, .int .i64 0]) ∧ w' = w) := fun w => by
    have := check_any ⟨(shortN (nrm c.data.toList)).toArray⟩ w (by rw [size_list]; omega)
    simp only [es4] at this
    exact this
  have hs14 : (⟨(nrm c.data.toList).toArray⟩ : ByteArray).size = 14 := by rw [size_list]; exact hn14
  have hsl : (⟨(shortN (nrm c.data.toList)).toArray⟩ : ByteArray).size ≤ c.size := by rw [size_list]; exact hle
  have hx : ((⟨(nrm c.data.toList).toArray⟩ : ByteArray).extract (14 - c.size) 14).data.toList = c.data.toList := by
    rw [tail14 _ _ hs14]
    exact hdrop
  clear e1 e2 e3 en1 en2 es1 es2 es3 es4 hle hdrop hts htn hn14 ht hl
  generalize (⟨(nrm c.data.toList).toArray⟩ : ByteArray) = N at *
  generalize (⟨(shortN (nrm c.data.toList)).toArray⟩ : ByteArray) = S at *
  have hxe : ((N.extract (14 - c.size) 14).toList == c.toList) = true := by
    rw [ByteArray.toList_eq, ByteArray.toList_eq, hx]
    simp
  have hxe2 : (N.extract (14 - c.size) 14).toList = c.toList := by rw [ByteArray.toList_eq, ByteArray.toList_eq, hx]
  clear hx
  have hz1 := hb1.size
  go_wp2_with fail
  refine (N1.out w1).mono ?_
  rintro e w2 ⟨rfl, hb2⟩
  have hB2 := hb1.trans (hb2.mono hz1)
  have hz2 := hB2.size
  clear hb1 hb2 hz1
  go_wp2_with fail
  refine (N2.out w2).mono ?_
  rintro e w3 ⟨rfl, hb3⟩
  have hB3 := hB2.trans (hb3.mono hz2)
  have hz3 := hB3.size
  clear hB2 hb3 hz2
  go_wp2_with fail
  refine (S1.out w3).mono ?_
  rintro e w4 ⟨rfl, hb4⟩
  have hB4 := hB3.trans (hb4.mono hz3)
  have hz4 := hB4.size
  clear hB3 hb4 hz3
  go_wp2_with fail
  refine (N3.out w4).mono ?_
  rintro e w5 ⟨rfl, hb5⟩
  have hB5 := hB4.trans (hb5.mono hz4)
  have hz5 := hB5.size
  clear hB4 hb5 hz4
  go_wp2_with fail
  refine (S2.out w5).mono ?_
  rintro e w6 ⟨rfl, hb6⟩
  have hB6 := hB5.trans (hb6.mono hz5)
  clear hB5 hb6 hz5
  go_wp2_with fail
  refine (K1.out w6).mono ?_
  rintro e w7 ⟨rfl, rfl⟩
  go_wp2
  go_ret
  exact ⟨rfl, hB6⟩
end Go.Proofs.YthpdimhkgkefhaaDoor
