/-
  Where a Value ends: valueEnd, for Values that are ended.
-/
import Derived.Test.YtpplkoilpblpkaaDoorPaM
import Derived.Test.YtpplkoilpblpkaaDoorValueEnd
import Derived.Test.YtpplkoilpblpkaaDoorChars
namespace Go.Proofs.YtpplkoilpblpkaaDoor
open Go.RowKit
set_option maxRecDepth 100000

/-- what valueEnd answers -/
def veV (fr : Nat) (r : (Int × Nat) ⊕ Nat) : Value := match r with
  | .inl (e, n) => .tuple #[.int .i64 0, .int .i64 e, .int .i64 ((fr + n : Nat) : Int)]
  | .inr n => .tuple #[.int .i64 ((fr + n : Nat) : Int), .int .i64 0, .int .i64 0]
theorem ib_not (l : List UInt8) (c : UInt8) : ∀ (i : Nat) (hi : i < l.length), ((i : Int) < Lib.indexByte l c ∨ Lib.indexByte l c = -1) → l[i] ≠ c := by
  induction l with
  | nil => intro i hi; simp at hi
  | cons b t ih =>
    intro i hi h
    have hge := Lib.indexByte_ge t c
    unfold Lib.indexByte at h
    by_cases e : (b == c) = true
    · rw [if_pos e] at h; omega
    · rw [if_neg e] at h
      cases i with
      | zero => simpa using e
      | succ i =>
        refine ih i (by simpa using hi) ?_
        by_cases e2 : (Lib.indexByte t c == -1) = true
        · exact .inr (by simpa using e2)
        · rw [if_neg e2] at h
          have e3 : Lib.indexByte t c ≠ -1 := by simpa using e2
          rcases h with h | h
          · left; omega
          · omega
theorem ib_is (l : List UInt8) (c : UInt8) (m : Nat) (h : Lib.indexByte l c = (m : Int)) : (l.drop m).head? = some c := by
  induction l generalizing m with
  | nil => simp [Lib.indexByte] at h
  | cons b t ih =>
    have hge := Lib.indexByte_ge t c
    unfold Lib.indexByte at h
    by_cases e : (b == c) = true
    · rw [if_pos e] at h
      have : m = 0 := by omega
      subst this
      simpa using e
    · rw [if_neg e] at h
      by_cases e2 : (Lib.indexByte t c == -1) = true
      · rw [if_pos e2] at h; omega
      · rw [if_neg e2] at h
        cases m with
        | zero =>
          have e3 : Lib.indexByte t c ≠ -1 := by simpa using e2
          omega
        | succ m =>
          rw [List.drop_succ_cons]
          exact ih m (by omega)

set_option maxHeartbeats 4000000 in
theorem valueEnd_Dg (b : Nat) (s : ByteArray) (fr lo hi : Nat) (g : Nat) (w : World) (hs : s.size ≤ 1000000) (hf : fr ≤ s.size) (hm : hi ≤ 1000) (hlo : lo ≤ 1000) (c0 : w.cell? ⟨b, 0, none⟩ = some (.string s)) :
    Calls Tryd.prog 35 #[.pointer (some ⟨b, 0, none⟩), frm lo hi false 47 g, .int .i64 (fr : Int)] w fun e w' => e = .returned (veV fr (ve lo hi dF (s.data.toList.drop fr) 0)) ∧ Below w.heap.size w w' := by
  obtain ⟨w1, hw1⟩ : ∃ w1, w.alloc (.cells #[.int .i64 (lo : Int), .int .i64 (hi : Int), .bool false, .func (.func 47) #[] #[], .func (.func g) #[] #[]] 79) = w1 := ⟨_, rfl⟩
  have hb1 : Below w.heap.size w w1 := hw1 ▸ (Below.refl _ _).alloc (Nat.le_refl _) _
  have hn1 : w1.heap[w.heap.size]? = some (.cells #[.int .i64 (lo : Int), .int .i64 (hi : Int), .bool false, .func (.func 47) #[] #[], .func (.func g) #[] #[]] 79 (0, 0)) := hw1 ▸ heap_alloc_new _ _
  have cb := below_cells hb1 _ _ c0
  have k0 : w1.cell? ⟨w.heap.size, 0, none⟩ = some (.int .i64 (lo : Int)) := by rw [Lib.cell_of_heap hn1]; rfl
  have k1 : w1.cell? ⟨w.heap.size, 1, none⟩ = some (.int .i64 (hi : Int)) := by rw [Lib.cell_of_heap hn1]; rfl
  have k2 : w1.cell? ⟨w.heap.size, 2, none⟩ = some (.bool false) := by rw [Lib.cell_of_heap hn1]; rfl
  have k3 : w1.cell? ⟨w.heap.size, 3, none⟩ = some (.func (.func 47) #[] #[]) := by rw [Lib.cell_of_heap hn1]; rfl
  have HC := hid (fun wx (h : Below w1.heap.size w1 wx) => And.intro (below_cells h _ _ cb) (And.intro (below_cells h _ _ k0) (And.intro (below_cells h _ _ k1) (below_cells h _ _ k3))))
  have HB1 := hid hb1
  have hz1 := hb1.size
  have hl := len_list s
  have HI := hid (fun w => Tryd.strings_IndexByte (s.extract fr s.size) ((29 : UInt8).toNat : Int) w)
  rw [byte_back, ext_end] at HI
  have hsub := fun w => run_subN s fr hf w
  have hge := Lib.indexByte_ge (s.data.toList.drop fr) 29
  have HLT := hid (ib_lt (s.data.toList.drop fr) 29)
  have HNO := hid (ib_not (s.data.toList.drop fr) 29)
  have HIS := hid (ib_is (s.data.toList.drop fr) 29)
  rw [List.length_drop, hl] at HLT
  obtain ⟨z, hz⟩ : ∃ z, Lib.indexByte (s.data.toList.drop fr) 29 = z := ⟨_, rfl⟩
  rw [hz] at HI hge HLT HNO HIS
  clear hz hn1 k3 hb1
  unfold frm
  by_cases hzn : z = -1
  · subst hzn
    have HNE := hid (show ∀ i (hi : i < s.data.toList.length), fr ≤ i → i < s.size → s.data.toList[i] ≠ 29 from fun i hi h1 h2 => by
      have := HNO.out (i - fr) (by rw [List.length_drop]; omega) (.inr rfl)
      rw [List.getElem_drop] at this
      have e : fr + (i - fr) = i := by omega
      simpa only [e] using this)
    have HEN := hid (show (s.data.toList.drop s.size).head? = none ∨ (s.data.toList.drop s.size).head? = some 29 from .inl (by rw [List.drop_of_length_le (by omega)]; rfl))
    clear HNO HIS HLT
    go_enter Tryd.func35, Tryd.ntmps35
    go_wp2_with fail
    refine (HI.out _).mono ?_
    rintro e w2 ⟨rfl, hw2⟩
    have hws := hw2.symm
    clear hw2
    subst hws
    go_wp2_with fail
    clear cb k0 k1 k2 c0 hw1
    go_loopw [11] (fun i wr => ∃ k : Nat, k ≤ s.size ∧ fr ≤ k ∧ i = .int .i64 (k : Int) ∧ ve lo hi dF (s.data.toList.drop fr) 0 = ve lo hi dF (s.data.toList.drop k) (k - fr) ∧ Below w1.heap.size w1 wr) (fun i _ => s.size - (intOf i).toNat)
    case atStart => exact ⟨fr, by omega, Nat.le_refl _, rfl, by rw [Nat.sub_self], Below.refl _ _⟩
    case round =>
      obtain ⟨k, hk, hfk, rfl, hve, hbl⟩ := hrel
      have HV := hid hve
      have HB := hid hbl
      obtain ⟨q0, q1, q2, q3⟩ := HC.out _ hbl
      clear hve hbl
      by_cases hlt : k < s.size
      · have hkI : (k : Int) < (s.size : Int) := by omega
        have hks : k < s.size := by omega
        have hksI : (k : Int) < (s.size : Int) := by omega
        have hkl : k < s.data.toList.length := by omega
        have hne := HNE.out k hkl hfk hlt
        have HV2 := hid (HV.out)
        rw [List.drop_eq_getElem_cons hkl, ve_cons _ _ _ _ _ _ hne, byte_list s k hks] at HV2
        clear hne
        by_cases hmo : k - fr = hi
        · have hbm : ((k : Int) - (fr : Int) == (hi : Int)) = true := by rw [beq_iff_eq]; omega
          have HE := hid (show ve lo hi dF (s.data.toList.drop fr) 0 = .inl (26, k - fr) by rw [HV2.out, if_pos hmo])
          clear hmo
          go_wp2
          go_ret3
          refine ⟨?_, HB1.out.trans (HB.out.mono hz1)⟩
          rw [HE.out]
          unfold veV
          simp only
          rw [show fr + (k - fr) = k by omega]
          rfl
        · have hbm : ((k : Int) - (fr : Int) == (hi : Int)) = false := by rw [beq_eq_false_iff_ne]; omega
          have HP := hid (fun w => digitFault_any (s[k]'hks) w)
          rw [if_neg hmo] at HV2
          clear hmo
          obtain ⟨pc, hpc⟩ : ∃ pc, dF (s[k]'hks) = pc := ⟨_, rfl⟩
          rw [hpc] at HP HV2
          clear hpc
          go_wp2_with fail
          go_quiet (first | (go_at_call 47; exact Calls.quiet_of_same (HP.out _)))
          have HBn := hid (HB.out.trans (below_drewN (Below.refl w1.heap.size wr) nq))
          clear HB q0 q1 q2 q3
          generalize wr.drewN nq = Wn at *
          by_cases h0 : pc = 0
          · subst h0
            have HE := hid (show ve lo hi dF (s.data.toList.drop fr) 0 = ve lo hi dF (s.data.toList.drop (k + 1)) (k + 1 - fr) by rw [HV2.out, if_neg (by simp), show k - fr + 1 = k + 1 - fr by omega])
            go_wp2
            go_roundw
            case rel => exact ⟨k + 1, by omega, by omega, by go_num, HE.out, HBn.out⟩
            case measure => simp [intOf]; omega
          · have hnb : (pc != 0) = true := by simp [h0]
            have HE := hid (show ve lo hi dF (s.data.toList.drop fr) 0 = .inl (pc, k - fr) by rw [HV2.out, if_pos h0])
            clear h0
            go_wp2
            go_ret3
            refine ⟨?_, HB1.out.trans (HBn.out.mono hz1)⟩
            rw [HE.out]
            unfold veV
            simp only
            rw [show fr + (k - fr) = k by omega]
            rfl
      · have hkI : ¬ (k : Int) < (s.size : Int) := by omega
        have hkt : k = s.size := by omega
        have HE := hid (HV.out.trans (ve_end lo hi dF _ (k - fr) (by rw [hkt]; exact HEN.out)))
        rw [hkt] at HE
        clear hkt
        by_cases hsh : s.size - fr < lo
        · have hshI : (s.size : Int) - (fr : Int) < (lo : Int) := by omega
          have HE2 := hid (HE.out.trans (if_pos hsh))
          clear hsh
          go_wp2
          go_ret3
          refine ⟨?_, HB1.out.trans (HB.out.mono hz1)⟩
          rw [HE2.out]
          unfold veV
          simp only
          rw [show fr + (s.size - fr) = s.size by omega]
          rfl
        · have hshI : ¬ (s.size : Int) - (fr : Int) < (lo : Int) := by omega
          have HE2 := hid (HE.out.trans (if_neg hsh))
          clear hsh
          go_wp2
          go_ret3
          refine ⟨?_, HB1.out.trans (HB.out.mono hz1)⟩
          rw [HE2.out]
          unfold veV
          simp only
          rw [show fr + (s.size - fr) = s.size by omega]
          rfl
  · obtain ⟨m, rfl⟩ : ∃ m : Nat, z = (m : Int) := ⟨z.toNat, by omega⟩
    have hmz := HLT.out (by omega)
    rw [Int.toNat_natCast] at hmz
    obtain ⟨tw, hto⟩ : ∃ tw, fr + m = tw := ⟨_, rfl⟩
    have HNE := hid (show ∀ i (hi : i < s.data.toList.length), fr ≤ i → i < tw → s.data.toList[i] ≠ 29 from fun i hi h1 h2 => by
      have := HNO.out (i - fr) (by rw [List.length_drop]; omega) (.inl (by omega))
      rw [List.getElem_drop] at this
      have e : fr + (i - fr) = i := by omega
      simpa only [e] using this)
    have HEN := hid (show (s.data.toList.drop tw).head? = none ∨ (s.data.toList.drop tw).head? = some 29 from .inr (by have := HIS.out m rfl; rw [List.drop_drop, hto] at this; exact this))
    have hsm : (fr : Int) + (m : Int) = (tw : Int) := by omega
    have hts : tw ≤ s.size := by omega
    have hft : fr ≤ tw := by omega
    clear HNO HIS HLT hto hmz
    go_enter Tryd.func35, Tryd.ntmps35
    go_wp2_with fail
    refine (HI.out _).mono ?_
    rintro e w2 ⟨rfl, hw2⟩
    have hws := hw2.symm
    clear hw2
    subst hws
    go_wp2_with fail
    clear cb k0 k1 k2 c0 hw1
    go_loopw [11] (fun i wr => ∃ k : Nat, k ≤ tw ∧ fr ≤ k ∧ i = .int .i64 (k : Int) ∧ ve lo hi dF (s.data.toList.drop fr) 0 = ve lo hi dF (s.data.toList.drop k) (k - fr) ∧ Below w1.heap.size w1 wr) (fun i _ => tw - (intOf i).toNat)
    case atStart => exact ⟨fr, by omega, Nat.le_refl _, rfl, by rw [Nat.sub_self], Below.refl _ _⟩
    case round =>
      obtain ⟨k, hk, hfk, rfl, hve, hbl⟩ := hrel
      have HV := hid hve
      have HB := hid hbl
      obtain ⟨q0, q1, q2, q3⟩ := HC.out _ hbl
      clear hve hbl
      by_cases hlt : k < tw
      · have hkI : (k : Int) < (tw : Int) := by omega
        have hks : k < s.size := by omega
        have hksI : (k : Int) < (s.size : Int) := by omega
        have hkl : k < s.data.toList.length := by omega
        have hne := HNE.out k hkl hfk hlt
        have HV2 := hid (HV.out)
        rw [List.drop_eq_getElem_cons hkl, ve_cons _ _ _ _ _ _ hne, byte_list s k hks] at HV2
        clear hne
        by_cases hmo : k - fr = hi
        · have hbm : ((k : Int) - (fr : Int) == (hi : Int)) = true := by rw [beq_iff_eq]; omega
          have HE := hid (show ve lo hi dF (s.data.toList.drop fr) 0 = .inl (26, k - fr) by rw [HV2.out, if_pos hmo])
          clear hmo
          go_wp2
          go_ret3
          refine ⟨?_, HB1.out.trans (HB.out.mono hz1)⟩
          rw [HE.out]
          unfold veV
          simp only
          rw [show fr + (k - fr) = k by omega]
          rfl
        · have hbm : ((k : Int) - (fr : Int) == (hi : Int)) = false := by rw [beq_eq_false_iff_ne]; omega
          have HP := hid (fun w => digitFault_any (s[k]'hks) w)
          rw [if_neg hmo] at HV2
          clear hmo
          obtain ⟨pc, hpc⟩ : ∃ pc, dF (s[k]'hks) = pc := ⟨_, rfl⟩
          rw [hpc] at HP HV2
          clear hpc
          go_wp2_with fail
          go_quiet (first | (go_at_call 47; exact Calls.quiet_of_same (HP.out _)))
          have HBn := hid (HB.out.trans (below_drewN (Below.refl w1.heap.size wr) nq))
          clear HB q0 q1 q2 q3
          generalize wr.drewN nq = Wn at *
          by_cases h0 : pc = 0
          · subst h0
            have HE := hid (show ve lo hi dF (s.data.toList.drop fr) 0 = ve lo hi dF (s.data.toList.drop (k + 1)) (k + 1 - fr) by rw [HV2.out, if_neg (by simp), show k - fr + 1 = k + 1 - fr by omega])
            go_wp2
            go_roundw
            case rel => exact ⟨k + 1, by omega, by omega, by go_num, HE.out, HBn.out⟩
            case measure => simp [intOf]; omega
          · have hnb : (pc != 0) = true := by simp [h0]
            have HE := hid (show ve lo hi dF (s.data.toList.drop fr) 0 = .inl (pc, k - fr) by rw [HV2.out, if_pos h0])
            clear h0
            go_wp2
            go_ret3
            refine ⟨?_, HB1.out.trans (HBn.out.mono hz1)⟩
            rw [HE.out]
            unfold veV
            simp only
            rw [show fr + (k - fr) = k by omega]
            rfl
      · have hkI : ¬ (k : Int) < (tw : Int) := by omega
        have hkt : k = tw := by omega
        have HE := hid (HV.out.trans (ve_end lo hi dF _ (k - fr) (by rw [hkt]; exact HEN.out)))
        rw [hkt] at HE
        clear hkt
        by_cases hsh : tw - fr < lo
        · have hshI : (tw : Int) - (fr : Int) < (lo : Int) := by omega
          have HE2 := hid (HE.out.trans (if_pos hsh))
          clear hsh
          go_wp2
          go_ret3
          refine ⟨?_, HB1.out.trans (HB.out.mono hz1)⟩
          rw [HE2.out]
          unfold veV
          simp only
          rw [show fr + (tw - fr) = tw by omega]
          rfl
        · have hshI : ¬ (tw : Int) - (fr : Int) < (lo : Int) := by omega
          have HE2 := hid (HE.out.trans (if_neg hsh))
          clear hsh
          go_wp2
          go_ret3
          refine ⟨?_, HB1.out.trans (HB.out.mono hz1)⟩
          rw [HE2.out]
          unfold veV
          simp only
          rw [show fr + (tw - fr) = tw by omega]
          rfl

set_option maxHeartbeats 4000000 in
theorem valueEnd_Ch (b : Nat) (s : ByteArray) (fr lo hi : Nat) (g : Nat) (w : World) (hs : s.size ≤ 1000000) (hf : fr ≤ s.size) (hm : hi ≤ 1000) (hlo : lo ≤ 1000) (c0 : w.cell? ⟨b, 0, none⟩ = some (.string s)) :
    Calls Tryd.prog 35 #[.pointer (some ⟨b, 0, none⟩), frm lo hi false 58 g, .int .i64 (fr : Int)] w fun e w' => e = .returned (veV fr (ve lo hi chF (s.data.toList.drop fr) 0)) ∧ Below w.heap.size w w' := by
  obtain ⟨w1, hw1⟩ : ∃ w1, w.alloc (.cells #[.int .i64 (lo : Int), .int .i64 (hi : Int), .bool false, .func (.func 58) #[] #[], .func (.func g) #[] #[]] 79) = w1 := ⟨_, rfl⟩
  have hb1 : Below w.heap.size w w1 := hw1 ▸ (Below.refl _ _).alloc (Nat.le_refl _) _
  have hn1 : w1.heap[w.heap.size]? = some (.cells #[.int .i64 (lo : Int), .int .i64 (hi : Int), .bool false, .func (.func 58) #[] #[], .func (.func g) #[] #[]] 79 (0, 0)) := hw1 ▸ heap_alloc_new _ _
  have cb := below_cells hb1 _ _ c0
  have k0 : w1.cell? ⟨w.heap.size, 0, none⟩ = some (.int .i64 (lo : Int)) := by rw [Lib.cell_of_heap hn1]; rfl
  have k1 : w1.cell? ⟨w.heap.size, 1, none⟩ = some (.int .i64 (hi : Int)) := by rw [Lib.cell_of_heap hn1]; rfl
  have k2 : w1.cell? ⟨w.heap.size, 2, none⟩ = some (.bool false) := by rw [Lib.cell_of_heap hn1]; rfl
  have k3 : w1.cell? ⟨w.heap.size, 3, none⟩ = some (.func (.func 58) #[] #[]) := by rw [Lib.cell_of_heap hn1]; rfl
  have HC := hid (fun wx (h : Below w1.heap.size w1 wx) => And.intro (below_cells h _ _ cb) (And.intro (below_cells h _ _ k0) (And.intro (below_cells h _ _ k1) (below_cells h _ _ k3))))
  have HB1 := hid hb1
  have hz1 := hb1.size
  have hl := len_list s
  have HI := hid (fun w => Tryd.strings_IndexByte (s.extract fr s.size) ((29 : UInt8).toNat : Int) w)
  rw [byte_back, ext_end] at HI
  have hsub := fun w => run_subN s fr hf w
  have hge := Lib.indexByte_ge (s.data.toList.drop fr) 29
  have HLT := hid (ib_lt (s.data.toList.drop fr) 29)
  have HNO := hid (ib_not (s.data.toList.drop fr) 29)
  have HIS := hid (ib_is (s.data.toList.drop fr) 29)
  rw [List.length_drop, hl] at HLT
  obtain ⟨z, hz⟩ : ∃ z, Lib.indexByte (s.data.toList.drop fr) 29 = z := ⟨_, rfl⟩
  rw [hz] at HI hge HLT HNO HIS
  clear hz hn1 k3 hb1
  unfold frm
  by_cases hzn : z = -1
  · subst hzn
    have HNE := hid (show ∀ i (hi : i < s.data.toList.length), fr ≤ i → i < s.size → s.data.toList[i] ≠ 29 from fun i hi h1 h2 => by
      have := HNO.out (i - fr) (by rw [List.length_drop]; omega) (.inr rfl)
      rw [List.getElem_drop] at this
      have e : fr + (i - fr) = i := by omega
      simpa only [e] using this)
    have HEN := hid (show (s.data.toList.drop s.size).head? = none ∨ (s.data.toList.drop s.size).head? = some 29 from .inl (by rw [List.drop_of_length_le (by omega)]; rfl))
    clear HNO HIS HLT
    go_enter Tryd.func35, Tryd.ntmps35
    go_wp2_with fail
    refine (HI.out _).mono ?_
    rintro e w2 ⟨rfl, hw2⟩
    have hws := hw2.symm
    clear hw2
    subst hws
    go_wp2_with fail
    clear cb k0 k1 k2 c0 hw1
    go_loopw [11] (fun i wr => ∃ k : Nat, k ≤ s.size ∧ fr ≤ k ∧ i = .int .i64 (k : Int) ∧ ve lo hi chF (s.data.toList.drop fr) 0 = ve lo hi chF (s.data.toList.drop k) (k - fr) ∧ Below w1.heap.size w1 wr) (fun i _ => s.size - (intOf i).toNat)
    case atStart => exact ⟨fr, by omega, Nat.le_refl _, rfl, by rw [Nat.sub_self], Below.refl _ _⟩
    case round =>
      obtain ⟨k, hk, hfk, rfl, hve, hbl⟩ := hrel
      have HV := hid hve
      have HB := hid hbl
      obtain ⟨q0, q1, q2, q3⟩ := HC.out _ hbl
      clear hve hbl
      by_cases hlt : k < s.size
      · have hkI : (k : Int) < (s.size : Int) := by omega
        have hks : k < s.size := by omega
        have hksI : (k : Int) < (s.size : Int) := by omega
        have hkl : k < s.data.toList.length := by omega
        have hne := HNE.out k hkl hfk hlt
        have HV2 := hid (HV.out)
        rw [List.drop_eq_getElem_cons hkl, ve_cons _ _ _ _ _ _ hne, byte_list s k hks] at HV2
        clear hne
        by_cases hmo : k - fr = hi
        · have hbm : ((k : Int) - (fr : Int) == (hi : Int)) = true := by rw [beq_iff_eq]; omega
          have HE := hid (show ve lo hi chF (s.data.toList.drop fr) 0 = .inl (26, k - fr) by rw [HV2.out, if_pos hmo])
          clear hmo
          go_wp2
          go_ret3
          refine ⟨?_, HB1.out.trans (HB.out.mono hz1)⟩
          rw [HE.out]
          unfold veV
          simp only
          rw [show fr + (k - fr) = k by omega]
          rfl
        · have hbm : ((k : Int) - (fr : Int) == (hi : Int)) = false := by rw [beq_eq_false_iff_ne]; omega
          have HP := hid (fun w => charFault_any (s[k]'hks) w)
          rw [if_neg hmo] at HV2
          clear hmo
          obtain ⟨pc, hpc⟩ : ∃ pc, chF (s[k]'hks) = pc := ⟨_, rfl⟩
          rw [hpc] at HP HV2
          clear hpc
          go_wp2_with fail
          go_quiet (first | (go_at_call 58; exact Calls.quiet_of_same (HP.out _)))
          have HBn := hid (HB.out.trans (below_drewN (Below.refl w1.heap.size wr) nq))
          clear HB q0 q1 q2 q3
          generalize wr.drewN nq = Wn at *
          by_cases h0 : pc = 0
          · subst h0
            have HE := hid (show ve lo hi chF (s.data.toList.drop fr) 0 = ve lo hi chF (s.data.toList.drop (k + 1)) (k + 1 - fr) by rw [HV2.out, if_neg (by simp), show k - fr + 1 = k + 1 - fr by omega])
            go_wp2
            go_roundw
            case rel => exact ⟨k + 1, by omega, by omega, by go_num, HE.out, HBn.out⟩
            case measure => simp [intOf]; omega
          · have hnb : (pc != 0) = true := by simp [h0]
            have HE := hid (show ve lo hi chF (s.data.toList.drop fr) 0 = .inl (pc, k - fr) by rw [HV2.out, if_pos h0])
            clear h0
            go_wp2
            go_ret3
            refine ⟨?_, HB1.out.trans (HBn.out.mono hz1)⟩
            rw [HE.out]
            unfold veV
            simp only
            rw [show fr + (k - fr) = k by omega]
            rfl
      · have hkI : ¬ (k : Int) < (s.size : Int) := by omega
        have hkt : k = s.size := by omega
        have HE := hid (HV.out.trans (ve_end lo hi chF _ (k - fr) (by rw [hkt]; exact HEN.out)))
        rw [hkt] at HE
        clear hkt
        by_cases hsh : s.size - fr < lo
        · have hshI : (s.size : Int) - (fr : Int) < (lo : Int) := by omega
          have HE2 := hid (HE.out.trans (if_pos hsh))
          clear hsh
          go_wp2
          go_ret3
          refine ⟨?_, HB1.out.trans (HB.out.mono hz1)⟩
          rw [HE2.out]
          unfold veV
          simp only
          rw [show fr + (s.size - fr) = s.size by omega]
          rfl
        · have hshI : ¬ (s.size : Int) - (fr : Int) < (lo : Int) := by omega
          have HE2 := hid (HE.out.trans (if_neg hsh))
          clear hsh
          go_wp2
          go_ret3
          refine ⟨?_, HB1.out.trans (HB.out.mono hz1)⟩
          rw [HE2.out]
          unfold veV
          simp only
          rw [show fr + (s.size - fr) = s.size by omega]
          rfl
  · obtain ⟨m, rfl⟩ : ∃ m : Nat, z = (m : Int) := ⟨z.toNat, by omega⟩
    have hmz := HLT.out (by omega)
    rw [Int.toNat_natCast] at hmz
    obtain ⟨tw, hto⟩ : ∃ tw, fr + m = tw := ⟨_, rfl⟩
    have HNE := hid (show ∀ i (hi : i < s.data.toList.length), fr ≤ i → i < tw → s.data.toList[i] ≠ 29 from fun i hi h1 h2 => by
      have := HNO.out (i - fr) (by rw [List.length_drop]; omega) (.inl (by omega))
      rw [List.getElem_drop] at this
      have e : fr + (i - fr) = i := by omega
      simpa only [e] using this)
    have HEN := hid (show (s.data.toList.drop tw).head? = none ∨ (s.data.toList.drop tw).head? = some 29 from .inr (by have := HIS.out m rfl; rw [List.drop_drop, hto] at this; exact this))
    have hsm : (fr : Int) + (m : Int) = (tw : Int) := by omega
    have hts : tw ≤ s.size := by omega
    have hft : fr ≤ tw := by omega
    clear HNO HIS HLT hto hmz
    go_enter Tryd.func35, Tryd.ntmps35
    go_wp2_with fail
    refine (HI.out _).mono ?_
    rintro e w2 ⟨rfl, hw2⟩
    have hws := hw2.symm
    clear hw2
    subst hws
    go_wp2_with fail
    clear cb k0 k1 k2 c0 hw1
    go_loopw [11] (fun i wr => ∃ k : Nat, k ≤ tw ∧ fr ≤ k ∧ i = .int .i64 (k : Int) ∧ ve lo hi chF (s.data.toList.drop fr) 0 = ve lo hi chF (s.data.toList.drop k) (k - fr) ∧ Below w1.heap.size w1 wr) (fun i _ => tw - (intOf i).toNat)
    case atStart => exact ⟨fr, by omega, Nat.le_refl _, rfl, by rw [Nat.sub_self], Below.refl _ _⟩
    case round =>
      obtain ⟨k, hk, hfk, rfl, hve, hbl⟩ := hrel
      have HV := hid hve
      have HB := hid hbl
      obtain ⟨q0, q1, q2, q3⟩ := HC.out _ hbl
      clear hve hbl
      by_cases hlt : k < tw
      · have hkI : (k : Int) < (tw : Int) := by omega
        have hks : k < s.size := by omega
        have hksI : (k : Int) < (s.size : Int) := by omega
        have hkl : k < s.data.toList.length := by omega
        have hne := HNE.out k hkl hfk hlt
        have HV2 := hid (HV.out)
        rw [List.drop_eq_getElem_cons hkl, ve_cons _ _ _ _ _ _ hne, byte_list s k hks] at HV2
        clear hne
        by_cases hmo : k - fr = hi
        · have hbm : ((k : Int) - (fr : Int) == (hi : Int)) = true := by rw [beq_iff_eq]; omega
          have HE := hid (show ve lo hi chF (s.data.toList.drop fr) 0 = .inl (26, k - fr) by rw [HV2.out, if_pos hmo])
          clear hmo
          go_wp2
          go_ret3
          refine ⟨?_, HB1.out.trans (HB.out.mono hz1)⟩
          rw [HE.out]
          unfold veV
          simp only
          rw [show fr + (k - fr) = k by omega]
          rfl
        · have hbm : ((k : Int) - (fr : Int) == (hi : Int)) = false := by rw [beq_eq_false_iff_ne]; omega
          have HP := hid (fun w => charFault_any (s[k]'hks) w)
          rw [if_neg hmo] at HV2
          clear hmo
          obtain ⟨pc, hpc⟩ : ∃ pc, chF (s[k]'hks) = pc := ⟨_, rfl⟩
          rw [hpc] at HP HV2
          clear hpc
          go_wp2_with fail
          go_quiet (first | (go_at_call 58; exact Calls.quiet_of_same (HP.out _)))
          have HBn := hid (HB.out.trans (below_drewN (Below.refl w1.heap.size wr) nq))
          clear HB q0 q1 q2 q3
          generalize wr.drewN nq = Wn at *
          by_cases h0 : pc = 0
          · subst h0
            have HE := hid (show ve lo hi chF (s.data.toList.drop fr) 0 = ve lo hi chF (s.data.toList.drop (k + 1)) (k + 1 - fr) by rw [HV2.out, if_neg (by simp), show k - fr + 1 = k + 1 - fr by omega])
            go_wp2
            go_roundw
            case rel => exact ⟨k + 1, by omega, by omega, by go_num, HE.out, HBn.out⟩
            case measure => simp [intOf]; omega
          · have hnb : (pc != 0) = true := by simp [h0]
            have HE := hid (show ve lo hi chF (s.data.toList.drop fr) 0 = .inl (pc, k - fr) by rw [HV2.out, if_pos h0])
            clear h0
            go_wp2
            go_ret3
            refine ⟨?_, HB1.out.trans (HBn.out.mono hz1)⟩
            rw [HE.out]
            unfold veV
            simp only
            rw [show fr + (k - fr) = k by omega]
            rfl
      · have hkI : ¬ (k : Int) < (tw : Int) := by omega
        have hkt : k = tw := by omega
        have HE := hid (HV.out.trans (ve_end lo hi chF _ (k - fr) (by rw [hkt]; exact HEN.out)))
        rw [hkt] at HE
        clear hkt
        by_cases hsh : tw - fr < lo
        · have hshI : (tw : Int) - (fr : Int) < (lo : Int) := by omega
          have HE2 := hid (HE.out.trans (if_pos hsh))
          clear hsh
          go_wp2
          go_ret3
          refine ⟨?_, HB1.out.trans (HB.out.mono hz1)⟩
          rw [HE2.out]
          unfold veV
          simp only
          rw [show fr + (tw - fr) = tw by omega]
          rfl
        · have hshI : ¬ (tw : Int) - (fr : Int) < (lo : Int) := by omega
          have HE2 := hid (HE.out.trans (if_neg hsh))
          clear hsh
          go_wp2
          go_ret3
          refine ⟨?_, HB1.out.trans (HB.out.mono hz1)⟩
          rw [HE2.out]
          unfold veV
          simp only
          rw [show fr + (tw - fr) = tw by omega]
          rfl
end Go.Proofs.YtpplkoilpblpkaaDoor
