/-
  The document's table: Ticket, Leave, turn, Odd, Even, New.
-/
import Derived.Test.YtehgjfokpcnneaaRt1
namespace Go.Proofs.Ytehgjfokpcnneaa
open Go.RowKit
set_option maxRecDepth 100000

set_option maxHeartbeats 1000000 in
theorem rticket_in (i : Nat) (w : World) {base d hb : Nat} {S : List Hd} (H : TQ w base d hb S) (hi : i < S.length) :
    Calls Try.prog 25 #[.pointer (some ⟨d, 0, none⟩), .int .i64 (i : Int)] w fun e w' => e = .returned (.tuple #[.int .i64 (tkN S[i]), .int .i64 (tkE S[i])]) ∧ TQ w' base d hb (S.set i (tkX S[i])) ∧ Kw (fun k => k = hb) w w' := by
  have HA := hid (rhas_in i w H hi)
  have c0 := H.cell0
  have hI : (i : Int) < (S.length : Int) := by omega
  obtain ⟨a1, _, _, a4⟩ := H.at i hi
  have f1 := a4 (i * 3)
  obtain ⟨o1, o2, o3, o4⟩ := H.ok i hi
  by_cases h0 : S[i].1 = 1073741824
  · have HX := hid (show tkX S[i] = S[i] by unfold tkX; rw [if_pos h0])
    have HN := hid (show tkN S[i] = 0 by unfold tkN; rw [if_pos h0])
    have HE := hid (show tkE S[i] = 5 by unfold tkE; rw [if_pos h0])
    have HB := hid H
    rw [h0] at a1
    clear H h0 a4 o1 o2 o3 o4
    go_enter Try.func25, Try.ntmps25
    go_wp2_with (go_at_call 37; refine HA.out.mono ?_; rintro e w3 ⟨rfl, rfl⟩)
    go_ret2
    rw [HX.out, HN.out, HE.out, List.set_getElem_self]
    exact ⟨rfl, HB.out, Kw.refl _ _⟩
  · have HX := hid (show tkX S[i] = (S[i].1 + 1, S[i].2) by unfold tkX; rw [if_neg h0])
    have HN := hid (show tkN S[i] = S[i].1 by unfold tkN; rw [if_neg h0])
    have HE := hid (show tkE S[i] = 0 by unfold tkE; rw [if_neg h0])
    have HT := hid (H.put i (i * 3) (.int .i64 (S[i].1 + 1)) (S[i].1 + 1, S[i].2) (hc_set1 S i hi _).1 ⟨o1, by simp only; omega, by simp only; omega, o4⟩)
    have ov : S[i].1 < 1073741824 := by omega
    have ov0 : 0 ≤ S[i].1 := by omega
    clear H h0 a4 o1 o2 o3 o4
    generalize hqq : S[i].1 = q at a1 ov ov0 HT HX HN
    go_enter Try.func25, Try.ntmps25
    go_wp2_with (go_at_call 37; refine HA.out.mono ?_; rintro e w3 ⟨rfl, rfl⟩)
    go_ret2
    rw [HX.out, HN.out, HE.out]
    exact ⟨by simp, HT.out.1, HT.out.2⟩
set_option maxHeartbeats 2000000 in
theorem rleave_in (i : Nat) (t : Int) (w : World) {base d hb : Nat} {S : List Hd} (H : TQ w base d hb S) (hi : i < S.length) :
    Calls Try.prog 27 #[.pointer (some ⟨d, 0, none⟩), .int .i64 (i : Int), .int .i64 t] w fun e w' => e = .returned (.int .i64 (hoE S[i] t 0)) ∧ TQ w' base d hb (S.set i (lvX S[i] t)) ∧ Kw (fun k => k = hb) w w' := by
  have HA := hid (rhas_in i w H hi)
  have HS := hid (rserved_in i t w H hi)
  have HB := hid H
  have c0 := H.cell0
  have hI : (i : Int) < (S.length : Int) := by omega
  clear H
  cases hs : svd S[i] t with
  | false =>
    have hoe : hoE S[i] t 0 = 81 := by unfold hoE; rw [hs]; rfl
    have HX := hid (show lvX S[i] t = S[i] by unfold lvX; rw [hoe]; rfl)
    rw [hoe]
    rw [hs] at HS
    clear hoe hs
    go_enter Try.func27, Try.ntmps27
    go_wp2_with (go_at_call 37; refine HA.out.mono ?_; rintro e w3 ⟨rfl, rfl⟩)
    refine Calls.mono HS.out ?_
    rintro e w4 ⟨rfl, hb4⟩
    have B4 := hid hb4
    clear hb4 HS
    go_wp2
    go_ret
    rw [HX.out, List.set_getElem_self]
    exact ⟨rfl, HB.out.below B4.out, Kw.below B4.out⟩
  | true =>
    have hsv : S[i].2.1 < S[i].1 := by have := hs; unfold svd at this; exact (of_decide_eq_true this).2
    by_cases h2 : S[i].2.2 % 2 = 0
    · have hoe : hoE S[i] t 0 = 0 := by unfold hoE; rw [hs, if_pos rfl, if_pos h2]
      have HX := hid (show lvX S[i] t = (S[i].1, S[i].2.1 + 1, S[i].2.2) by unfold lvX; rw [if_pos hoe])
      rw [hoe]
      rw [hs] at HS
      clear hoe hs
      go_enter Try.func27, Try.ntmps27
      go_wp2_with (go_at_call 37; refine HA.out.mono ?_; rintro e w3 ⟨rfl, rfl⟩)
      refine Calls.mono HS.out ?_
      rintro e w4 ⟨rfl, hb4⟩
      have hT := HB.out.below hb4
      have B4 := hid hb4
      have cz := hT.cell0
      obtain ⟨_, a2, a3, a4⟩ := hT.at i hi
      have f3 := a4 (i * 3 + 1)
      obtain ⟨o1, o2, o3, o4⟩ := hT.ok i hi
      have HT := hid (hT.put i (i * 3 + 1) (.int .i64 (S[i].2.1 + 1)) ((S[i].1, S[i].2.1 + 1, S[i].2.2)) (hc_set1 S i hi _).2.1 ⟨by simp only; omega, by simp only; omega, o3, o4⟩)
      have hq1 : S[i].2.2.tmod 2 = S[i].2.2 % 2 := Int.tmod_eq_emod_of_nonneg o4
      have hz1 : (S[i].2.2.tmod 2 == 1) = false := by rw [hq1]; simp; omega
      have hz2 : (S[i].2.2 % 2 == 1) = false := by simp; omega
      clear hb4 hT a4 HS h2 hq1
      generalize hqq : S[i].2.2 = q at a3 o4 HT HX hz1 hz2
      generalize hql : S[i].2.1 = ql at a2 o1 o2 hsv HT HX
      generalize S[i].1 = qa at o2 o3 hsv HT HX
      go_wp2
      go_region
      go_wp2
      go_ret
      rw [HX.out]
      exact ⟨rfl, HT.out.1.drew, ((Kw.below B4.out).trans HT.out.2).trans (Kw.drew _ _)⟩
    · have hoe : hoE S[i] t 0 = 82 := by unfold hoE; rw [hs, if_pos rfl, if_neg h2]
      have HX := hid (show lvX S[i] t = S[i] by unfold lvX; rw [hoe]; rfl)
      rw [hoe]
      rw [hs] at HS
      clear hoe hs
      go_enter Try.func27, Try.ntmps27
      go_wp2_with (go_at_call 37; refine HA.out.mono ?_; rintro e w3 ⟨rfl, rfl⟩)
      refine Calls.mono HS.out ?_
      rintro e w4 ⟨rfl, hb4⟩
      have hT := HB.out.below hb4
      have B4 := hid hb4
      have cz := hT.cell0
      obtain ⟨_, _, a3, _⟩ := hT.at i hi
      have o4 := (hT.ok i hi).2.2.2
      have hq1 : S[i].2.2.tmod 2 = S[i].2.2 % 2 := Int.tmod_eq_emod_of_nonneg o4
      have hz1 : (S[i].2.2.tmod 2 == 1) = true := by rw [hq1]; simp; omega
      have hz2 : (S[i].2.2 % 2 == 1) = true := by simp; omega
      clear hb4 hT HS h2 hq1
      generalize S[i].2.2 = q at a3 o4 hz1 hz2
      go_wp2
      go_ret
      rw [HX.out, List.set_getElem_self]
      exact ⟨rfl, HB.out.below B4.out, Kw.below B4.out⟩
set_option maxHeartbeats 2000000 in
theorem rturn_in (i : Nat) (t par : Int) (w : World) {base d hb : Nat} {S : List Hd} (H : TQ w base d hb S) (hi : i < S.length) (hq : S[i].2.2 < 4611686018427387904) :
    Calls Try.prog 38 #[.pointer (some ⟨d, 0, none⟩), .int .i64 (i : Int), .int .i64 t, .int .i64 par] w fun e w' => e = .returned (.int .i64 (hoE S[i] t par)) ∧ TQ w' base d hb (S.set i (ctX S[i] t par)) ∧ Kw (fun k => k = hb) w w' := by
  have HA := hid (rhas_in i w H hi)
  have HS := hid (rserved_in i t w H hi)
  have HB := hid H
  have c0 := H.cell0
  have hI : (i : Int) < (S.length : Int) := by omega
  clear H
  cases hs : svd S[i] t with
  | false =>
    have hoe : hoE S[i] t par = 81 := by unfold hoE; rw [hs]; rfl
    have HX := hid (show ctX S[i] t par = S[i] by unfold ctX; rw [hoe]; rfl)
    rw [hoe]
    rw [hs] at HS
    clear hoe hs
    go_enter Try.func38, Try.ntmps38
    go_wp2_with (go_at_call 37; refine HA.out.mono ?_; rintro e w3 ⟨rfl, rfl⟩)
    refine Calls.mono HS.out ?_
    rintro e w4 ⟨rfl, hb4⟩
    have B4 := hid hb4
    clear hb4 HS
    go_wp2
    go_ret
    rw [HX.out, List.set_getElem_self]
    exact ⟨rfl, HB.out.below B4.out, Kw.below B4.out⟩
  | true =>
    have hsv : S[i].2.1 < S[i].1 := by have := hs; unfold svd at this; exact (of_decide_eq_true this).2
    by_cases h2 : S[i].2.2 % 2 = par
    · have hoe : hoE S[i] t par = 0 := by unfold hoE; rw [hs, if_pos rfl, if_pos h2]
      have HX := hid (show ctX S[i] t par = (S[i].1, S[i].2.1, S[i].2.2 + 1) by unfold ctX; rw [if_pos hoe])
      rw [hoe]
      rw [hs] at HS
      clear hoe hs
      go_enter Try.func38, Try.ntmps38
      go_wp2_with (go_at_call 37; refine HA.out.mono ?_; rintro e w3 ⟨rfl, rfl⟩)
      refine Calls.mono HS.out ?_
      rintro e w4 ⟨rfl, hb4⟩
      have hT := HB.out.below hb4
      have B4 := hid hb4
      have cz := hT.cell0
      obtain ⟨_, a2, a3, a4⟩ := hT.at i hi
      have f3 := a4 (i * 3 + 2)
      obtain ⟨o1, o2, o3, o4⟩ := hT.ok i hi
      have HT := hid (hT.put i (i * 3 + 2) (.int .i64 (S[i].2.2 + 1)) ((S[i].1, S[i].2.1, S[i].2.2 + 1)) (hc_set1 S i hi _).2.2 ⟨o1, o2, o3, by simp only; omega⟩)
      have hq1 : S[i].2.2.tmod 2 = S[i].2.2 % 2 := Int.tmod_eq_emod_of_nonneg o4
      have hz1 : (S[i].2.2.tmod 2 == par) = true := by rw [hq1]; simp [h2]
      have hz2 : (S[i].2.2 % 2 == par) = true := by simp [h2]
      clear hb4 hT a4 HS h2 hq1
      generalize hqq : S[i].2.2 = q at a3 o4 HT HX hz1 hz2 hq
      generalize hql : S[i].2.1 = ql at a2 o1 o2 hsv HT HX
      generalize S[i].1 = qa at o2 o3 hsv HT HX
      go_wp2
      go_region
      go_wp2
      go_ret
      rw [HX.out]
      exact ⟨rfl, HT.out.1.drew, ((Kw.below B4.out).trans HT.out.2).trans (Kw.drew _ _)⟩
    · have hoe : hoE S[i] t par = 82 := by unfold hoE; rw [hs, if_pos rfl, if_neg h2]
      have HX := hid (show ctX S[i] t par = S[i] by unfold ctX; rw [hoe]; rfl)
      rw [hoe]
      rw [hs] at HS
      clear hoe hs
      go_enter Try.func38, Try.ntmps38
      go_wp2_with (go_at_call 37; refine HA.out.mono ?_; rintro e w3 ⟨rfl, rfl⟩)
      refine Calls.mono HS.out ?_
      rintro e w4 ⟨rfl, hb4⟩
      have hT := HB.out.below hb4
      have B4 := hid hb4
      have cz := hT.cell0
      obtain ⟨_, _, a3, _⟩ := hT.at i hi
      have o4 := (hT.ok i hi).2.2.2
      have hq1 : S[i].2.2.tmod 2 = S[i].2.2 % 2 := Int.tmod_eq_emod_of_nonneg o4
      have hz1 : (S[i].2.2.tmod 2 == par) = false := by rw [hq1]; simp [h2]
      have hz2 : (S[i].2.2 % 2 == par) = false := by simp [h2]
      clear hb4 hT HS h2 hq1
      generalize S[i].2.2 = q at a3 o4 hz1 hz2 hq
      go_wp2
      go_ret
      rw [HX.out, List.set_getElem_self]
      exact ⟨rfl, HB.out.below B4.out, Kw.below B4.out⟩
theorem rodd_in (i : Nat) (t : Int) (w : World) {base d hb : Nat} {S : List Hd} (H : TQ w base d hb S) (hi : i < S.length) (hq : S[i].2.2 < 4611686018427387904) :
    Calls Try.prog 28 #[.pointer (some ⟨d, 0, none⟩), .int .i64 (i : Int), .int .i64 t] w fun e w' => e = .returned (.int .i64 (hoE S[i] t 0)) ∧ TQ w' base d hb (S.set i (ctX S[i] t 0)) ∧ Kw (fun k => k = hb) w w' := by
  have HC := hid (rturn_in i t 0 w H hi hq)
  clear H
  go_enter Try.func28, Try.ntmps28
  go_wp2_with fail
  refine HC.out.mono ?_
  rintro e w4 ⟨rfl, hT, hK⟩
  have HT := hid hT
  have HK := hid hK
  clear hT hK
  go_wp2
  go_ret
  exact ⟨rfl, HT.out, HK.out⟩
theorem rodd_out (s t : Int) (w : World) {base d hb : Nat} {S : List Hd} (H : TQ w base d hb S) (hi : ¬ (0 ≤ s ∧ s < (S.length : Int))) :
    Calls Try.prog 28 #[.pointer (some ⟨d, 0, none⟩), .int .i64 s, .int .i64 t] w fun e w' => e = .returned (.int .i64 80) ∧ w' = w := by
  have HA := hid (rturn_out s t 0 w H hi)
  clear H hi
  go_enter Try.func28, Try.ntmps28
  go_wp2_with (go_at_call 38; refine HA.out.mono ?_; rintro e w3 ⟨rfl, rfl⟩)
  go_ret
  exact ⟨rfl, rfl⟩
theorem rodd_nil (s t : Int) (w : World) : Calls Try.prog 28 #[.pointer none, .int .i64 s, .int .i64 t] w fun e w' => e = .returned (.int .i64 0) ∧ w' = w := by
  have HA := hid (rturn_nil s t 0 w)
  go_enter Try.func28, Try.ntmps28
  go_wp2_with (go_at_call 38; refine HA.out.mono ?_; rintro e w3 ⟨rfl, rfl⟩)
  go_ret
  exact ⟨rfl, rfl⟩
theorem reven_in (i : Nat) (t : Int) (w : World) {base d hb : Nat} {S : List Hd} (H : TQ w base d hb S) (hi : i < S.length) (hq : S[i].2.2 < 4611686018427387904) :
    Calls Try.prog 29 #[.pointer (some ⟨d, 0, none⟩), .int .i64 (i : Int), .int .i64 t] w fun e w' => e = .returned (.int .i64 (hoE S[i] t 1)) ∧ TQ w' base d hb (S.set i (ctX S[i] t 1)) ∧ Kw (fun k => k = hb) w w' := by
  have HC := hid (rturn_in i t 1 w H hi hq)
  clear H
  go_enter Try.func29, Try.ntmps29
  go_wp2_with fail
  refine HC.out.mono ?_
  rintro e w4 ⟨rfl, hT, hK⟩
  have HT := hid hT
  have HK := hid hK
  clear hT hK
  go_wp2
  go_ret
  exact ⟨rfl, HT.out, HK.out⟩
theorem reven_out (s t : Int) (w : World) {base d hb : Nat} {S : List Hd} (H : TQ w base d hb S) (hi : ¬ (0 ≤ s ∧ s < (S.length : Int))) :
    Calls Try.prog 29 #[.pointer (some ⟨d, 0, none⟩), .int .i64 s, .int .i64 t] w fun e w' => e = .returned (.int .i64 80) ∧ w' = w := by
  have HA := hid (rturn_out s t 1 w H hi)
  clear H hi
  go_enter Try.func29, Try.ntmps29
  go_wp2_with (go_at_call 38; refine HA.out.mono ?_; rintro e w3 ⟨rfl, rfl⟩)
  go_ret
  exact ⟨rfl, rfl⟩
theorem reven_nil (s t : Int) (w : World) : Calls Try.prog 29 #[.pointer none, .int .i64 s, .int .i64 t] w fun e w' => e = .returned (.int .i64 0) ∧ w' = w := by
  have HA := hid (rturn_nil s t 1 w)
  go_enter Try.func29, Try.ntmps29
  go_wp2_with (go_at_call 38; refine HA.out.mono ?_; rintro e w3 ⟨rfl, rfl⟩)
  go_ret
  exact ⟨rfl, rfl⟩
theorem laneinfo : (Try.prog.info? 68).map (fun i => (i.zero, i.size, i.bytes)) = some (some (.agg #[.int .i64 0, .int .i64 0, .int .i64 0]), 3, 24) := by kernel_rfl
def mkL (a b : Value) : Sem Value := Instr.makeSlice 64 a b
theorem mkl_op (a b : Value) : Instr.makeSlice 64 a b = mkL a b := rfl
theorem run_mkL (n : Nat) (hn : n ≤ 1000) (w : World) : (mkL (.int .i64 (n : Int)) (.int .i64 (n : Int))).run Try.prog w = .ok (.slice (some ⟨w.heap.size, 0, none⟩) n n) (w.alloc (.cells (hc (List.replicate n (0, 0, 0))).toArray 68)) := by
  obtain ⟨i, hi, hz, hs, hb⟩ := info_parts laneinfo
  have := run_make (P := Try.prog) w 64 68 i _ Try.underlying64 hi hz .i64 .i64 (n : Int) (n : Int) (by omega) (by omega) (by rw [hb]; omega) (by omega)
  unfold mkL
  rw [this, hs]
  simp only [Int.toNat_natCast]
  rw [show (Value.agg #[Value.int IntKind.i64 0, Value.int IntKind.i64 0, Value.int IntKind.i64 0]).cells = #[.int .i64 0, .int .i64 0, .int .i64 0] from rfl, made_h]
attribute [local go_sem ↓] mkl_op
theorem rnew_in (n : Nat) (w : World) (hn : 1 ≤ n) (hn2 : n ≤ 64) :
    Calls Try.prog 23 #[.int .i64 (n : Int)] w fun e w' => (∃ d hb, e = .returned (.tuple #[.pointer (some ⟨d, 0, none⟩), .int .i64 0]) ∧ TQ w' w.heap.size d hb (List.replicate n (0, 0, 0))) ∧ Below w.heap.size w w' := by
  have hm := run_mkL n (by omega)
  have h1 : 1 ≤ (n : Int) := by omega
  have h2 : (n : Int) ≤ 64 := by omega
  have HT := hid (TB.made 66 68 n w hn hn2)
  have BV := hid (fun o o' => ((Below.refl w.heap.size w).alloc (Nat.le_refl _) o).alloc (by simp) o')
  go_enter Try.func23, Try.ntmps23
  go_wp2
  go_ret2
  exact ⟨⟨_, _, rfl, HT.out⟩, BV.out _ _⟩
theorem rnew_out (n : Int) (w : World) (hn : ¬ (1 ≤ n ∧ n ≤ 64)) :
    Calls Try.prog 23 #[.int .i64 n] w fun e w' => e = .returned (.tuple #[.pointer none, .int .i64 2]) ∧ w' = w := by
  go_enter Try.func23, Try.ntmps23
  by_cases h0 : n < 1
  · clear hn
    go_wp2
    go_ret2
    exact ⟨rfl, rfl⟩
  · have h1 : n > 64 := by omega
    clear hn
    go_wp2
    go_ret2
    exact ⟨rfl, rfl⟩
end Go.Proofs.Ytehgjfokpcnneaa
