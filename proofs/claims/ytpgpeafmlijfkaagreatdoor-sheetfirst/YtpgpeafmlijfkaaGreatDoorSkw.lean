/-
  Sheets: writeCell, writeRow, Print.
-/
import Derived.Test.YtpgpeafmlijfkaaGreatDoorSkr
import Derived.Test.YtpgpeafmlijfkaaGreatDoorSkc
import Derived.Deep.RegionWith
namespace Go.Proofs.YtpgpeafmlijfkaaGreatDoor
open Go.RowKit
set_option maxRecDepth 100000
set_option linter.unusedVariables false
set_option linter.unusedSimpArgs false

set_option maxHeartbeats 2000000 in
theorem writeCell_any (B b : Nat) (l : List UInt8) (s : ByteArray) (w : World) (h : Isg B b l w) (hl : l.length ≤ 100000000) (hs : s.size ≤ 4096) (hBw : B ≤ w.heap.size) :
    Calls Tryz.prog 75 #[.pointer (some ⟨b, 0, none⟩), .string s] w fun e w' => e = .returned (.tuple #[]) ∧ Isg B b (l ++ pcl s.data.toList) w' ∧ Below B w w' := by
  have hds : s.data.toList.length = s.size := by rw [Array.length_toList]; rfl
  have hdl := dbl_len s.data.toList
  rw [hds] at hdl
  have HC := hid (cany s hs w)
  have HI := hid h
  obtain ⟨X, hX⟩ : ∃ X, X = pcl s.data.toList := ⟨_, rfl⟩
  rw [← hX]
  have HX := hid hX
  clear h hX hds
  cases hq : s.data.toList.any (fun c => nqB c.toNat)
  · rw [hq] at HC
    have hx : X = s.data.toList := by rw [HX.out]; unfold pcl; rw [if_neg (by rw [hq]; decide)]
    subst hx
    clear hq HX
    go_enter Tryz.func75, Tryz.ntmps75
    go_wp2_with fail
    refine Calls.mono HC.out ?_
    rintro e w1 ⟨rfl, hb1⟩
    have HI1 := hid (HI.out.kept hb1)
    have HB1 := hid (hb1.mono hBw)
    have hz1 : B ≤ w1.heap.size := Nat.le_trans hBw hb1.size
    clear hb1
    go_wp2_with fail
    refine Calls.mono (wStrg B b l s _ HI1.out (by omega) hz1) ?_
    rintro e w2 ⟨rfl, hi2, hb2⟩
    have HI2 := hid hi2
    have HB2 := hid (HB1.out.trans hb2)
    clear hi2 hb2
    go_wp2
    refine bodyPost_ret (by simp [results, Tryz.results75, go_sem]; try rfl) rfl ?_
    exact ⟨rfl, HI2.out, HB2.out⟩
  · rw [hq] at HC
    have hx : X = [34] ++ (dbl s.data.toList ++ [34]) := by rw [HX.out]; unfold pcl; rw [if_pos hq]; rfl
    have HR := hid (fun w => replaceAll_q s hs w)
    obtain ⟨D, hD⟩ : ∃ D, D = dbl s.data.toList := ⟨_, rfl⟩
    rw [← hD] at hx hdl HR
    have hDs : (⟨D.toArray⟩ : ByteArray).size = D.length := by simp [ByteArray.size]
    have hDl : (⟨D.toArray⟩ : ByteArray).data.toList = D := by simp
    subst hx
    clear hq HX hD
    go_enter Tryz.func75, Tryz.ntmps75
    go_wp2_with fail
    refine Calls.mono HC.out ?_
    rintro e w1 ⟨rfl, hb1⟩
    have HI1 := hid (HI.out.kept hb1)
    have HB1 := hid (hb1.mono hBw)
    have hz1 : B ≤ w1.heap.size := Nat.le_trans hBw hb1.size
    clear hb1
    go_wp2_with fail
    refine Calls.mono (wByteg B b l 34 34 _ HI1.out rfl (by omega) hz1) ?_
    rintro e w2 ⟨rfl, hi2, hb2⟩
    have HI2 := hid hi2
    have HB2 := hid (HB1.out.trans hb2)
    have hz2 : B ≤ w2.heap.size := Nat.le_trans hz1 hb2.size
    clear hi2 hb2
    have HRd := hid (HR.out w2.drew)
    have HI2d := hid (show Isg B b (l ++ [34]) w2.drew from HI2.out)
    go_wp2_with fail
    go_region_with (first | (go_at_call 84; refine Calls.mono HRd.out ?_; rintro e w3 ⟨rfl, hb3⟩; have HI3 := hid (HI2d.out.kept hb3); have HB3 := hid (HB2.out.drew.trans (hb3.mono hz2)); have hz3 : B ≤ w3.heap.size := (Nat.le_trans hz2 hb3.size); clear hb3) | (go_at_call 76; refine Calls.mono (wStrg B b (l ++ [34]) ⟨D.toArray⟩ _ HI3.out (by rw [hDs]; simp; omega) hz3) ?_; rintro e w4 ⟨rfl, hi4, hb4⟩; have HI4 := hid hi4; have HB4 := hid (HB3.out.trans hb4); have hz4 : B ≤ w4.heap.size := (Nat.le_trans hz3 hb4.size); clear hi4 hb4))
    all_goals
      go_wp2_with fail
      refine Calls.mono (wByteg B b (l ++ [34] ++ D) 34 34 _ HI4.out rfl (by simp; omega) hz4) ?_
      rintro e w5 ⟨rfl, hi5, hb5⟩
      have HI5 := hid hi5
      have HB5 := hid (HB4.out.trans hb5)
      clear hi5 hb5
      go_wp2
      go_end0
      refine ⟨rfl, ?_, HB5.out⟩
      have := HI5.out
      simpa using this
theorem pcl_len (T : List UInt8) (h : T.length ≤ 4096) : (pcl T).length ≤ 8194 := by
  unfold pcl
  have := dbl_len T
  split
  · simp; omega
  · omega
theorem pcs_len (cs : List (List UInt8)) (h : ∀ T ∈ cs, okC T) : (pcs cs).length ≤ cs.length * 8195 := by
  cases cs with
  | nil => simp [pcs]
  | cons T r =>
    have h1 := pcl_len T (h T (by simp)).1
    have h2 : (r.flatMap (fun U => 44 :: pcl U)).length ≤ r.length * 8195 := by
      have hr : ∀ U ∈ r, okC U := fun U hU => h U (by simp [hU])
      clear h h1
      induction r with
      | nil => simp
      | cons U r ih =>
        have h3 := pcl_len U (hr U (by simp)).1
        have := ih (fun V hV => hr V (by simp [hV]))
        simp at this ⊢
        omega
    rw [pcs, List.length_append, List.length_cons]
    omega
theorem pcs_one (T : List UInt8) : pcs [T] = pcl T := by simp [pcs]
set_option maxHeartbeats 2000000 in
theorem writeRow_any (w0 : World) (b : Nat) (l : List UInt8) (v : Value) (cs : List (List UInt8)) (w : World) (hT : Tx w0 v cs) (hb : Below w0.heap.size w0 w) (h : Isg w0.heap.size b l w) (hl : l.length ≤ 10000000) (hc : ∀ T ∈ cs, okC T) (h64 : cs.length ≤ 64) :
    Calls Tryz.prog 64 #[.pointer (some ⟨b, 0, none⟩), v] w fun e w' => e = .returned (.tuple #[]) ∧ Isg w0.heap.size b (l ++ prw cs) w' ∧ Below w0.heap.size w0 w' := by
  have HT := hid hT
  have HI := hid h
  have HB := hid hb
  have HC := hid hc
  obtain ⟨ao, cap, rfl⟩ := hT.form
  clear hT h hb hc
  go_enter Tryz.func64, Tryz.ntmps64
  go_wp2_with fail
  go_loopw [8] (fun i wr => ∃ k : Nat, k ≤ cs.length ∧ i = .int .i64 (k : Int) ∧ Isg w0.heap.size b (l ++ pcs (cs.take k)) wr ∧ Below w0.heap.size w0 wr) (fun i _ => cs.length - (intOf i).toNat)
  case atStart => exact ⟨0, by omega, rfl, by simpa [pcs] using HI.out, HB.out⟩
  case round =>
    obtain ⟨k, hk, rfl, hi, hbl⟩ := hrel
    have hpl : (l ++ pcs (cs.take k)).length ≤ 10000000 + 64 * 8195 := by
      have h1 := pcs_len (cs.take k) (fun T hT => HC.out T (List.mem_of_mem_take hT))
      have h2 : (cs.take k).length ≤ 64 := by simp; omega
      rw [List.length_append]
      have h3 : (cs.take k).length * 8195 ≤ 64 * 8195 := Nat.mul_le_mul_right _ h2
      omega
    have hz := hbl.size
    by_cases hlt : k < cs.length
    · have hI : (k : Int) < (cs.length : Int) := by omega
      obtain ⟨g, off, c, e1, hcp, c0⟩ := (HT.out.below hbl).at k hlt
      cases e1
      have hok : okC cs[k] := HC.out _ (List.getElem_mem hlt)
      obtain ⟨X, hX⟩ : ∃ X, X = cs[k]'hlt := ⟨_, rfl⟩
      rw [← hX] at c0 hok
      have hXs : (⟨X.toArray⟩ : ByteArray).size ≤ 4096 := by have := hok.1; simpa [ByteArray.size] using this
      have hXl : (⟨X.toArray⟩ : ByteArray).data.toList = X := rfl
      have htk : cs.take (k + 1) = cs.take k ++ [X] := by rw [hX]; exact List.take_succ_eq_append_getElem hlt
      have HI2 := hid hi
      have HBL := hid hbl
      by_cases h0 : k = 0
      · have g0 : ¬ (0 : Int) < (k : Int) := by omega
        have hN : l ++ pcs (cs.take (k + 1)) = l ++ pcl X := by rw [htk, h0]; simp [pcs]
        have hl0 : l ++ pcs (cs.take k) = l := by rw [h0]; simp [pcs]
        rw [hl0] at HI2
        have HN := hid hN
        clear hX htk hok hi hbl hpl hN hl0 h0
        go_wp2_with fail
        refine Calls.mono (writeCell_any w0.heap.size b l ⟨X.toArray⟩ _ HI2.out (by omega) hXs hz) ?_
        rintro e w2 ⟨rfl, hi2, hb2⟩
        have HI3 := hid hi2
        have HB3 := hid (HBL.out.trans hb2)
        clear hi2 hb2
        go_wp2
        go_roundw
        case rel => exact ⟨k + 1, by omega, by go_num, by rw [HN.out]; exact HI3.out, HB3.out⟩
        case measure => simp [intOf]; omega
      · have g0 : (0 : Int) < (k : Int) := by omega
        obtain ⟨M, hM⟩ : ∃ M, M = l ++ pcs (cs.take k) := ⟨_, rfl⟩
        have hN : l ++ pcs (cs.take (k + 1)) = M ++ [44] ++ pcl X := by
          rw [htk, pcs_snoc _ _ (by intro e; have h9 := congrArg List.length e; rw [List.length_take, List.length_nil] at h9; omega), hM]
          simp
        have HN := hid hN
        have hM1 : M.length ≤ 90000000 := by rw [hM]; omega
        rw [← hM] at HI2
        clear hX htk hok hi hbl hN h0 hM hpl
        go_wp2_with fail
        refine Calls.mono (wByteg w0.heap.size b M 44 44 _ HI2.out rfl (by omega) hz) ?_
        rintro e w2 ⟨rfl, hi2, hb2⟩
        have HI3 := hid hi2
        have HB3 := hid (HBL.out.trans hb2)
        have hz2 := HB3.out.size
        clear hi2 hb2
        go_wp2_with fail
        refine Calls.mono (writeCell_any w0.heap.size b (M ++ [44]) ⟨X.toArray⟩ _ HI3.out (by simp; omega) hXs hz2) ?_
        rintro e w3 ⟨rfl, hi3, hb3⟩
        have HI4 := hid hi3
        have HB4 := hid (HB3.out.trans hb3)
        clear hi3 hb3
        go_wp2
        go_roundw
        case rel => exact ⟨k + 1, by omega, by go_num, by rw [HN.out]; exact HI4.out, HB4.out⟩
        case measure => simp [intOf]; omega
    · have hI : ¬ (k : Int) < (cs.length : Int) := by omega
      have htk : cs.take k = cs := List.take_of_length_le (by omega)
      rw [htk] at hi hpl
      have HI2 := hid hi
      have HBL := hid hbl
      clear hi hbl htk
      go_wp2_with fail
      refine Calls.mono (wStrg w0.heap.size b (l ++ pcs cs) ⟨#[13, 10]⟩ _ HI2.out (by have h2 : (⟨#[13, 10]⟩ : ByteArray).size = 2 := rfl; rw [h2]; omega) hz) ?_
      rintro e w2 ⟨rfl, hi2, hb2⟩
      have HI3 := hid hi2
      have HB3 := hid (HBL.out.trans hb2)
      clear hi2 hb2
      go_wp2
      go_end0
      refine ⟨rfl, ?_, HB3.out⟩
      have := HI3.out
      simpa [prw] using this
/-- what Print answers -/
def PrR (A : Nat → Addr) (w' : World) (R : List (List (List UInt8))) (sv ev : Value) : Prop :=
  ((rck (R.headD []).length R 0).1 ≠ 0 ∧ sv = .string ⟨#[]⟩ ∧ FT A w' ev (rck (R.headD []).length R 0).1 ((rck (R.headD []).length R 0).2.1, (rck (R.headD []).length R 0).2.2))
  ∨ (okR R ∧ 262144 < (prt R).length ∧ sv = .string ⟨#[]⟩ ∧ FT A w' ev 20 (0, 0))
  ∨ (okR R ∧ (prt R).length ≤ 262144 ∧ sv = .string ⟨(prt R).toArray⟩ ∧ ev = .nilIface)
theorem prt_take (R : List (List (List UInt8))) (k : Nat) : (prt (R.take k)).length ≤ (prt R).length := by
  have : prt R = prt (R.take k) ++ prt (R.drop k) := by
    unfold prt
    rw [← List.flatMap_append, List.take_append_drop]
  rw [this, List.length_append]
  omega
theorem rck_is {R : List (List (List UInt8))} (h : (rck (R.headD []).length R 0).1 = 0) : okR R := by
  have := (rck_ok (n := (R.headD []).length) (R := R) 0 (.inr (by omega))).1 h
  exact ⟨by omega, this.2⟩
set_option maxHeartbeats 4000000 in
theorem print_any (A : Nat → Addr) (v : Value) (R : List (List (List UInt8))) (w : World) (hE : HE A w) (hT : ErT w) (hr : Rw w v R) :
    Calls Tryz.prog 45 #[v] w fun e w' => ∃ sv ev, e = .returned (.tuple #[sv, ev]) ∧ PrR A w' R sv ev ∧ Below w.heap.size w w' := by
  have HK := hid (checkRows_any A v R w hE hT hr)
  have HE := hid hE
  have HR := hid hr
  have hl := hr.len
  obtain ⟨ao, cap, rfl⟩ := hr.form
  clear hE hT hr
  go_enter Tryz.func45, Tryz.ntmps45
  go_wp2_with fail
  refine Calls.mono HK.out ?_
  rintro e w1 ⟨ev, rfl, hf, hb, hsame⟩
  by_cases hq : (rck (R.headD []).length R 0).1 = 0
  · have hok := rck_is hq
    replace hsame := (hsame hq).symm
    subst hsame
    rcases hf with ⟨_, rfl⟩ | ⟨hne, _⟩
    · have HO := hid hok
      clear hq hb
      have HI0 := hid (freshg w)
      have HB0 := hid (show Below w.heap.size w (w.alloc (.cells #[.pointer none, .slice none 0 0] 137)) from (Below.refl _ _).alloc (Nat.le_refl _) _)
      have hEl := HE.out.e20
      clear hok
      go_wp2_with fail
      generalize (w.alloc (.cells #[.pointer none, .slice none 0 0] 137)) = wp at *
      go_loopw [15] (fun i wr => ∃ k : Nat, k ≤ R.length ∧ i = .int .i64 (k : Int) ∧ Isg w.heap.size w.heap.size (prt (R.take k)) wr ∧ Below w.heap.size w wr ∧ (prt (R.take k)).length ≤ 262144) (fun i _ => R.length - (intOf i).toNat)
      case atStart => exact ⟨0, by omega, rfl, by simpa [prt] using HI0.out, HB0.out, by simp [prt]⟩
      case round =>
        obtain ⟨k, hk, rfl, hi, hbl, hpl⟩ := hrel
        by_cases hlt : k < R.length
        · have hI : (k : Int) < (R.length : Int) := by omega
          obtain ⟨g, off, c, u, e1, hcp, c0, t0⟩ := (HR.out.below hbl).at k hlt
          cases e1
          obtain ⟨g2, off2, c2, u2, e2, hcp2, c20, t2⟩ := HR.out.at k hlt
          have hbl' := hbl
          cases e2
          have hu : u = u2 := by
            have := cellB hbl c20
            rw [c0] at this
            exact Option.some.inj this
          subst hu
          have hcs := HO.out.2 _ (List.getElem_mem hlt)
          have HW := hid (writeRow_any w w.heap.size (prt (R.take k)) u _ wr t2 hbl hi (by omega) hcs.2.2.2 hcs.2.1)
          have htk : prt (R.take (k + 1)) = prt (R.take k) ++ prw (R[k]'hlt) := by
            rw [List.take_succ_eq_append_getElem hlt, prt_snoc]
          rw [← htk] at HW
          obtain ⟨ua, uc, rfl⟩ := t0.form
          clear t0 t2 hbl hbl' hi hcs htk c20
          have HPT := hid (prt_take R (k + 1))
          obtain ⟨M, hM⟩ : ∃ M, M = prt (R.take (k + 1)) := ⟨_, rfl⟩
          rw [← hM] at HW HPT
          have HM := hid hM
          clear hM
          go_wp2_with fail
          refine Calls.mono HW.out ?_
          rintro e w2 ⟨rfl, hi2, hb2⟩
          have HI2 := hid hi2
          have HB2 := hid hb2
          have HL := hid (leng w.heap.size w.heap.size M w2 hi2)
          clear hi2 hb2
          go_wp2_with fail
          refine Calls.mono HL.out ?_
          rintro e w3 ⟨rfl, hw⟩
          replace hw := hw.symm
          subst hw
          by_cases hbig : 262144 < M.length
          · have hbI : (262144 : Int) < (M.length : Int) := by omega
            have hE2 : w2.drew.cell? ⟨0, 0, none⟩ = some (.iface 208 (.pointer (some (A 20)))) := (HE.out.grown HB2.out).e20
            have HBg := hid hbig
            clear hbig
            go_wp2_with fail
            go_region
            all_goals
              go_wp2
              go_ret2
              refine ⟨_, _, rfl, .inr (.inl ⟨HO.out, by have := HPT.out; have := HBg.out; omega, rfl, .inr ⟨by decide, _, rfl, ?_⟩⟩), ?_⟩
              · exact heap_alloc_new w2 _
              · exact (HB2.out.alloc HB2.out.size _).drew
          · have hbI : ¬ (262144 : Int) < (M.length : Int) := by omega
            have HBg := hid hbig
            clear hbig
            go_wp2
            go_roundw
            case rel =>
              refine ⟨k + 1, by omega, by go_num, ?_, HB2.out, ?_⟩
              · rw [← HM.out]; exact HI2.out
              · rw [← HM.out]; have := HBg.out; omega
            case measure => simp [intOf]; omega
        · have hI : ¬ (k : Int) < (R.length : Int) := by omega
          have htk : R.take k = R := List.take_of_length_le (by omega)
          rw [htk] at hi hpl
          have HS := hid (strg w.heap.size w.heap.size (prt R) wr hi hbl.size)
          have HBL := hid hbl
          have HP := hid hpl
          clear htk hi hbl hpl
          go_wp2_with fail
          refine Calls.mono HS.out ?_
          rintro e w2 ⟨rfl, hb2⟩
          have HB2 := hid (HBL.out.trans hb2)
          clear hb2
          go_wp2
          go_ret2
          exact ⟨_, _, rfl, .inr (.inr ⟨HO.out, HP.out, rfl, rfl⟩), HB2.out⟩
    · exact absurd hq hne
  · rcases hf with ⟨hz, _⟩ | ⟨hne, f, rfl, hh⟩
    · exact absurd hz hq
    · have HQ := hid hq
      have HH := hid hh
      have HB := hid hb
      clear hq hh hb hne hsame
      go_wp2
      go_ret2
      exact ⟨_, _, rfl, .inl ⟨HQ.out, rfl, .inr ⟨HQ.out, f, rfl, HH.out⟩⟩, HB.out⟩
end Go.Proofs.YtpgpeafmlijfkaaGreatDoor
