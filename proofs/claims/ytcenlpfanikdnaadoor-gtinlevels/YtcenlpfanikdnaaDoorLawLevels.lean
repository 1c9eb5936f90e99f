/-
  GtinLevels: the law's own walk, out of the contracts.
-/
import Derived.Test.YtcenlpfanikdnaaDoorLawZeros
import Derived.Deep.QuietTactic
import Derived.BigQuiet
import Derived.WalkSmall
namespace Go.Proofs.YtcenlpfanikdnaaDoor
open Go.RowKit
set_option maxRecDepth 100000

theorem pckE_ok {l : List UInt8} (h : Trade l) {v : Int} (h1 : 1 ≤ v) (h9 : v ≤ 9) : pckE l v = 0 := by
  unfold pckE
  rw [if_neg (by rw [nrmE_zero.2 h]; simp), if_neg (by omega)]
theorem pckT_ok {l : List UInt8} (h : Trade l) {v : Int} (h1 : 1 ≤ v) (h9 : v ≤ 9) : pckT l v = lv (nrm l) (lvC v) := by
  unfold pckT
  rw [if_pos (pckE_ok h h1 h9)]
theorem lvC_digit {v : Int} (h0 : 0 ≤ v) (h9 : v ≤ 9) : IsD (lvC v) := by
  have := lvC_toNat h0 h9
  unfold IsD
  omega
theorem unE_trade {l : List UInt8} (h : Trade l) : unE l = nrmE (lv (nrm l) 48) := by unfold unE; rw [if_pos (nrmE_zero.2 h)]
theorem unT_trade {l : List UInt8} (h : Trade l) : unT l = shT (lv (nrm l) 48) := by unfold unT; rw [if_pos (nrmE_zero.2 h)]

/-- all that the law asks of trade codes -/
theorem levels_facts {l : List UInt8} (h : Trade l) {v : Int} (h1 : 1 ≤ v) (h9 : v ≤ 9) :
    ∃ p u s n o : List UInt8, pckT l v = p ∧ pckE l v = 0 ∧ chkE p = (0, 0) ∧ p.length = 14 ∧ p[0]? = some (lvC v) ∧ nrmT l = n ∧ nrmE l = 0 ∧ n.length = 14 ∧ (n.drop 1).take 12 = (p.drop 1).take 12 ∧
      unT p = u ∧ unE p = 0 ∧ shT l = s ∧ (n[0]? = some 48 → u = s) ∧ pckT u v = p ∧ pckE u v = 0 ∧ unT l = u ∧ unE l = 0 ∧ pckT l (1 + v % 9) = o ∧ pckE l (1 + v % 9) = 0 ∧ o ≠ p ∧ u.length ≤ 14 := by
  have hn14 := nrm_len h.2
  have htn := trade_nrm h
  have hcd := lvC_digit (v := v) (by omega) h9
  have hz := trade_lv hn14 htn.1.1 48 digit48
  have hzl := (lv_code hn14 htn.1.1 48 digit48).2
  have hp := trade_lv hn14 htn.1.1 (lvC v) hcd
  have hpl := (lv_code hn14 htn.1.1 (lvC v) hcd).2
  have hu := trade_short hzl hz
  have eup : unT (lv (nrm l) (lvC v)) = shortN (lv (nrm l) 48) := by
    rw [unT_trade hp, nrm_full hpl, lv_lv hn14, shT_trade hz, nrm_full hzl]
  have eul : unT l = shortN (lv (nrm l) 48) := by rw [unT_trade h, shT_trade hz, nrm_full hzl]
  refine ⟨_, _, _, _, _, pckT_ok h h1 h9, pckE_ok h h1 h9, chk_code hp.1, hpl, lv_head _ _, nrmT_trade h, nrmE_zero.2 h, hn14, (lv_mid hn14 _).symm, eup, ?_, shT_trade h, ?_, ?_, pckE_ok hu h1 h9, eul, ?_, pckT_ok h (by omega) (by omega), pckE_ok h (by omega) (by omega), ?_, hu.2⟩
  · rw [unE_trade hp, nrm_full hpl, lv_lv hn14]; exact nrmE_zero.2 hz
  · intro h0
    have h0' : (nrm l)[0]'(by omega) = 48 := by
      rw [List.getElem?_eq_getElem (by omega)] at h0
      exact Option.some.inj h0
    rw [lv_self hn14 htn h0']
  · rw [pckT_ok hu h1 h9, nrm_short hzl, lv_lv hn14]
  · rw [unE_trade h]; exact nrmE_zero.2 hz
  · intro e
    have := congrArg (fun x : List UInt8 => x[0]?) e
    simp only [lv_head, Option.some.injEq] at this
    have a := lvC_toNat (v := v) (by omega) h9
    have b := lvC_toNat (v := 1 + v % 9) (by omega) (by omega)
    rw [this] at b
    omega

set_option maxHeartbeats 4000000 in
theorem levels_any (v : Value) (l : List UInt8) (n lev : Int) (w : World) (hr : Reads w v l) (hlen : l.length ≤ 9223372036854775807) :
    Calls Tryd.prog 3 #[v, .int .i64 n, .int .i64 lev] w fun e w' => e = .returned (.bool true) ∧ Below w.heap.size w w' := by
  have HW : Hid (_) := within_any n 3 w (by omega) (by omega)
  rw [show (3 : Int) + 1 = 4 from rfl] at HW
  have h0 : 0 ≤ n % 4 := by omega
  have h4 : n % 4 < 4 := by omega
  generalize n % 4 = r at HW h0 h4
  have HV : Hid (∀ wx : World, Calls Tryd.prog 7 #[.int .i64 lev, .int .i64 8] wx fun e w' => e = .returned (.int .i64 (lev % 9)) ∧ w' = wx) := fun wx => within_any lev 8 wx (by omega) (by omega)
  have v0 : 0 ≤ lev % 9 := by omega
  have v9 : lev % 9 < 9 := by omega
  generalize lev % 9 = x at HV v0 v9
  have HB : Hid (_) := code_any v l r w hr hlen
  clear hr hlen
  go_enter Tryd.func3, Tryd.ntmps3
  go_wp2_with fail
  refine Calls.mono HW.out ?_
  rintro e w0 ⟨rfl, rfl⟩
  clear HW
  go_wp2_with fail
  refine Calls.mono HB.out ?_
  rintro e w1 ⟨c, rfl, hcode, hbsz, hb1⟩
  clear HB
  have hl := len_list c
  have hbs : bsz (r % 5) ≤ 13 := by
    rw [Int.emod_eq_of_lt h0 (by omega)]
    unfold bsz
    repeat' split
    all_goals omega
  have ht : Trade c.data.toList := ⟨hcode, by omega⟩
  have hc14 : c.size ≤ 14 := by omega
  clear hbsz hbs h0 h4 hcode
  obtain ⟨p, u, s, m, o, f1, f2, f3, f4, f5, f6, f7, f8, f9, f10, f11, f12, f13, f14, f15, f16, f17, f18, f19, f20, f21⟩ := levels_facts ht (v := 1 + x) (by omega) (by omega)
  have hcn := lvC_toNat (v := 1 + x) (by omega) (by omega)
  have P1 : Hid (∀ w, Calls Tryd.prog 8 #[.string c, .int .i64 (1 + x)] w fun e w' => e = .returned (.tuple #[.string ⟨p.toArray⟩, .int .i64 0]) ∧ Below w.heap.size w w') := fun w => by
    have := pack_any c (1 + x) w (by omega)
    rw [f1, f2] at this
    exact this
  have K1 : Hid (∀ w, Calls Tryd.prog 9 #[.string ⟨p.toArray⟩] w fun e w' => e = .returned (.tuple #[.int .i64 0, .int .i64 0]) ∧ w' = w) := fun w => by
    have := check_any ⟨p.toArray⟩ w (by rw [size_list]; omega)
    simp only [f3] at this
    exact this
  have N1 : Hid (∀ w, Calls Tryd.prog 10 #[.string c] w fun e w' => e = .returned (.tuple #[.string ⟨m.toArray⟩, .int .i64 0]) ∧ Below w.heap.size w w') := fun w => by
    have := normal_any c w (by omega)
    rw [f6, f7] at this
    exact this
  have U1 : Hid (∀ w, Calls Tryd.prog 11 #[.string ⟨p.toArray⟩] w fun e w' => e = .returned (.tuple #[.string ⟨u.toArray⟩, .int .i64 0]) ∧ Below w.heap.size w w') := fun w => by
    have := unit_any ⟨p.toArray⟩ w (by rw [size_list]; omega)
    simp only [f10, f11] at this
    exact this
  have S1 : Hid (∀ w, Calls Tryd.prog 12 #[.string c] w fun e w' => e = .returned (.tuple #[.string ⟨s.toArray⟩, .int .i64 0]) ∧ Below w.heap.size w w') := fun w => by
    have := short_any c w (by omega)
    rw [f12, f7] at this
    exact this
  have P2 : Hid (∀ w, Calls Tryd.prog 8 #[.string ⟨u.toArray⟩, .int .i64 (1 + x)] w fun e w' => e = .returned (.tuple #[.string ⟨p.toArray⟩, .int .i64 0]) ∧ Below w.heap.size w w') := fun w => by
    have := pack_any ⟨u.toArray⟩ (1 + x) w (by rw [size_list]; omega)
    simp only [f14, f15] at this
    exact this
  have U2 : Hid (∀ w, Calls Tryd.prog 11 #[.string c] w fun e w' => e = .returned (.tuple #[.string ⟨u.toArray⟩, .int .i64 0]) ∧ Below w.heap.size w w') := fun w => by
    have := unit_any c w (by omega)
    rw [f16, f17] at this
    exact this
  have P3 : Hid (∀ w z, z = 1 + (1 + x) % 9 → Calls Tryd.prog 8 #[.string c, .int .i64 z] w fun e w' => e = .returned (.tuple #[.string ⟨o.toArray⟩, .int .i64 0]) ∧ Below w.heap.size w w') := fun w z hz => by
    subst hz
    have := pack_any c (1 + (1 + x) % 9) w (by omega)
    rw [f18, f19] at this
    exact this
  have hps : (⟨p.toArray⟩ : ByteArray).size = 14 := by rw [size_list]; exact f4
  have hms : (⟨m.toArray⟩ : ByteArray).size = 14 := by rw [size_list]; exact f8
  have hp0 : ∀ h : 0 < (⟨p.toArray⟩ : ByteArray).size, ((⟨p.toArray⟩ : ByteArray)[0]'h).toNat = (lvC (1 + x)).toNat := by
    intro h
    rw [← byte_list]
    have h1 : p[0]'(by omega) = lvC (1 + x) := by
      rw [List.getElem?_eq_getElem (by omega)] at f5
      exact Option.some.inj f5
    simpa using congrArg UInt8.toNat h1
  have hmid : ((⟨m.toArray⟩ : ByteArray).extract 1 13).toList = ((⟨p.toArray⟩ : ByteArray).extract 1 13).toList := by
    rw [ByteArray.toList_eq, ByteArray.toList_eq, Lib.extract_data, Lib.extract_data]
    exact f9
  have hus : ∀ h0 : 0 < (⟨m.toArray⟩ : ByteArray).size, ((⟨m.toArray⟩ : ByteArray)[0]'h0).toNat = 48 → (⟨u.toArray⟩ : ByteArray) = ⟨s.toArray⟩ := by
    intro h0 h
    rw [← byte_list] at h
    rw [f13]
    rw [List.getElem?_eq_getElem (by omega)]
    exact congrArg some (UInt8.toNat_inj.mp (by simpa using h))
  have hop : ((⟨o.toArray⟩ : ByteArray).toList == (⟨p.toArray⟩ : ByteArray).toList) = false := by
    rw [beq_eq_false_iff_ne, ByteArray.toList_eq, ByteArray.toList_eq]
    exact f20
  clear f1 f2 f3 f4 f5 f6 f7 f8 f9 f10 f11 f12 f13 f14 f15 f16 f17 f18 f19 f20 f21 ht hl
  generalize (⟨p.toArray⟩ : ByteArray) = pB at *
  generalize (⟨u.toArray⟩ : ByteArray) = uB at *
  generalize (⟨s.toArray⟩ : ByteArray) = sB at *
  generalize (⟨m.toArray⟩ : ByteArray) = mB at *
  generalize (⟨o.toArray⟩ : ByteArray) = oB at *
  have hp0s : 0 < pB.size := by omega
  have hm0s : 0 < mB.size := by omega
  have hp0I : ((pB[0]'hp0s).toNat : Int) = 48 + (1 + x) := by rw [hp0]; exact hcn.symm
  clear hp0 hcn p u s m o
  have HU : Hid (_) := hus hm0s
  clear hus
  go_wp2_with fail
  refine (HV.out w1).mono ?_
  rintro e w2 ⟨rfl, rfl⟩
  clear HV
  have hz1 := hb1.size
  go_wp2_with fail
  refine (P1.out w2).mono ?_
  rintro e w3 ⟨rfl, hb3⟩
  have hB3 := hb1.trans (hb3.mono hz1)
  have hz3 := hB3.size
  clear hb1 hb3 hz1
  go_wp2_with fail
  refine (K1.out w3).mono ?_
  rintro e w4 ⟨rfl, rfl⟩
  go_wp2_with fail
  refine (N1.out w4).mono ?_
  rintro e w5 ⟨rfl, hb5⟩
  have hB5 := hB3.trans (hb5.mono hz3)
  clear hB3 hb5 hz3
  go_wp2_with fail
  go_quiet (fail)
  have hB6 := below_drewN hB5 nq
  generalize w5.drewN nq = w6 at hB6 ⊢
  have hz6 := hB6.size
  clear hB5
  go_wp2_with fail
  refine (U1.out w6).mono ?_
  rintro e w7 ⟨rfl, hb7⟩
  have hB7 := hB6.trans (hb7.mono hz6)
  have hz7 := hB7.size
  clear hB6 hb7 hz6
  go_wp2_with fail
  refine (S1.out w7).mono ?_
  rintro e w8 ⟨rfl, hb8⟩
  have hB8 := hB7.trans (hb8.mono hz7)
  have hz8 := hB8.size
  clear hB7 hb8 hz7
  by_cases h48 : (mB[0]'hm0s).toNat = 48
  · have hus := HU.out h48
    subst hus
    have h48b : (((mB[0]'hm0s).toNat : Int) == 48) = true := by simp; omega
    go_wp2_with fail
    refine (P2.out w8).mono ?_
    rintro e w9 ⟨rfl, hb9⟩
    have hB9 := hB8.trans (hb9.mono hz8)
    have hz9 := hB9.size
    clear hB8 hb9 hz8
    go_wp2_with fail
    refine (U2.out w9).mono ?_
    rintro e wa ⟨rfl, hba⟩
    have hBa := hB9.trans (hba.mono hz9)
    have hza := hBa.size
    clear hB9 hba hz9
    go_wp2_with fail
    refine (P3.out wa _ (by omega)).mono ?_
    rintro e wb ⟨rfl, hbb⟩
    go_wp2
    go_ret
    exact ⟨rfl, hBa.trans (hbb.mono hza)⟩
  · have h48b : (((mB[0]'hm0s).toNat : Int) == 48) = false := by simp; omega
    go_wp2_with fail
    refine (P2.out w8).mono ?_
    rintro e w9 ⟨rfl, hb9⟩
    have hB9 := hB8.trans (hb9.mono hz8)
    have hz9 := hB9.size
    clear hB8 hb9 hz8
    go_wp2_with fail
    refine (U2.out w9).mono ?_
    rintro e wa ⟨rfl, hba⟩
    have hBa := hB9.trans (hba.mono hz9)
    have hza := hBa.size
    clear hB9 hba hz9
    go_wp2_with fail
    refine (P3.out wa _ (by omega)).mono ?_
    rintro e wb ⟨rfl, hbb⟩
    go_wp2
    go_ret
    exact ⟨rfl, hBa.trans (hbb.mono hza)⟩
end Go.Proofs.YtcenlpfanikdnaaDoor
