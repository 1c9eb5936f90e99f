/-
  A table: Odd, Even, Leave, Ticket, Served, Seq, Waiting, Stripes, New; a table that there isn't.
-/
import Derived.Test.YtokpncfnkokmcaaTb2
namespace Go.Proofs.Ytokpncfnkokmcaa
open Go.RowKit
set_option maxRecDepth 100000

theorem count_out (s t par : Int) (w : World) {base d hb : Nat} {S : List Hd} (H : TP w base d hb S) (hi : ¬ (0 ≤ s ∧ s < (S.length : Int))) :
    Calls Try.prog 23 #[.pointer (some ⟨d, 0, none⟩), .int .i64 s, .int .i64 t, .int .i64 par] w fun e w' => e = .returned (.int .i64 80) ∧ w' = w := by
  have HA := hid (holder_out s t par w H hi)
  clear H hi
  go_enter Try.func23, Try.ntmps23
  go_wp2_with (go_at_call 22; refine HA.out.mono ?_; rintro e w3 ⟨rfl, rfl⟩)
  go_ret
  exact ⟨rfl, rfl⟩
theorem count_nil (s t par : Int) (w : World) : Calls Try.prog 23 #[.pointer none, .int .i64 s, .int .i64 t, .int .i64 par] w fun e w' => e = .returned (.int .i64 0) ∧ w' = w := by
  go_enter Try.func23, Try.ntmps23
  go_wp2
  go_ret
  exact ⟨rfl, rfl⟩
theorem odd_in (i : Nat) (t : Int) (w : World) {base d hb : Nat} {S : List Hd} (H : TP w base d hb S) (hi : i < S.length) (hq : S[i].2.2 < 4611686018427387904) :
    Calls Try.prog 17 #[.pointer (some ⟨d, 0, none⟩), .int .i64 (i : Int), .int .i64 t] w fun e w' => e = .returned (.int .i64 (hoE S[i] t 0)) ∧ TP w' base d hb (S.set i (ctX S[i] t 0)) ∧ Kw (fun k => k = hb) w w' := by
  have HC := hid (count_in i t 0 w H hi hq)
  clear H
  go_enter Try.func17, Try.ntmps17
  go_wp2_with fail
  refine HC.out.mono ?_
  rintro e w4 ⟨rfl, hT, hK⟩
  have HT := hid hT
  have HK := hid hK
  clear hT hK
  go_wp2
  go_ret
  exact ⟨rfl, HT.out, HK.out⟩
theorem odd_out (s t : Int) (w : World) {base d hb : Nat} {S : List Hd} (H : TP w base d hb S) (hi : ¬ (0 ≤ s ∧ s < (S.length : Int))) :
    Calls Try.prog 17 #[.pointer (some ⟨d, 0, none⟩), .int .i64 s, .int .i64 t] w fun e w' => e = .returned (.int .i64 80) ∧ w' = w := by
  have HA := hid (count_out s t 0 w H hi)
  clear H hi
  go_enter Try.func17, Try.ntmps17
  go_wp2_with (go_at_call 23; refine HA.out.mono ?_; rintro e w3 ⟨rfl, rfl⟩)
  go_ret
  exact ⟨rfl, rfl⟩
theorem odd_nil (s t : Int) (w : World) : Calls Try.prog 17 #[.pointer none, .int .i64 s, .int .i64 t] w fun e w' => e = .returned (.int .i64 0) ∧ w' = w := by
  have HA := hid (count_nil s t 0 w)
  go_enter Try.func17, Try.ntmps17
  go_wp2_with (go_at_call 23; refine HA.out.mono ?_; rintro e w3 ⟨rfl, rfl⟩)
  go_ret
  exact ⟨rfl, rfl⟩
theorem even_in (i : Nat) (t : Int) (w : World) {base d hb : Nat} {S : List Hd} (H : TP w base d hb S) (hi : i < S.length) (hq : S[i].2.2 < 4611686018427387904) :
    Calls Try.prog 18 #[.pointer (some ⟨d, 0, none⟩), .int .i64 (i : Int), .int .i64 t] w fun e w' => e = .returned (.int .i64 (hoE S[i] t 1)) ∧ TP w' base d hb (S.set i (ctX S[i] t 1)) ∧ Kw (fun k => k = hb) w w' := by
  have HC := hid (count_in i t 1 w H hi hq)
  clear H
  go_enter Try.func18, Try.ntmps18
  go_wp2_with fail
  refine HC.out.mono ?_
  rintro e w4 ⟨rfl, hT, hK⟩
  have HT := hid hT
  have HK := hid hK
  clear hT hK
  go_wp2
  go_ret
  exact ⟨rfl, HT.out, HK.out⟩
theorem even_out (s t : Int) (w : World) {base d hb : Nat} {S : List Hd} (H : TP w base d hb S) (hi : ¬ (0 ≤ s ∧ s < (S.length : Int))) :
    Calls Try.prog 18 #[.pointer (some ⟨d, 0, none⟩), .int .i64 s, .int .i64 t] w fun e w' => e = .returned (.int .i64 80) ∧ w' = w := by
  have HA := hid (count_out s t 1 w H hi)
  clear H hi
  go_enter Try.func18, Try.ntmps18
  go_wp2_with (go_at_call 23; refine HA.out.mono ?_; rintro e w3 ⟨rfl, rfl⟩)
  go_ret
  exact ⟨rfl, rfl⟩
theorem even_nil (s t : Int) (w : World) : Calls Try.prog 18 #[.pointer none, .int .i64 s, .int .i64 t] w fun e w' => e = .returned (.int .i64 0) ∧ w' = w := by
  have HA := hid (count_nil s t 1 w)
  go_enter Try.func18, Try.ntmps18
  go_wp2_with (go_at_call 23; refine HA.out.mono ?_; rintro e w3 ⟨rfl, rfl⟩)
  go_ret
  exact ⟨rfl, rfl⟩
/-- a stripe behind Leave -/
def lvX (x : Hd) (t : Int) : Hd := if hoE x t 0 = 0 then (x.1, x.2.1 + 1, x.2.2) else x
theorem hoE_sv {x : Hd} {t par : Int} (h : hoE x t par = 0) : t = x.2.1 ∧ x.2.1 < x.1 := by
  unfold hoE at h
  split at h
  · rename_i h1; simpa [svd] using h1
  · omega
theorem leave_in (i : Nat) (t : Int) (w : World) {base d hb : Nat} {S : List Hd} (H : TP w base d hb S) (hi : i < S.length) :
    Calls Try.prog 16 #[.pointer (some ⟨d, 0, none⟩), .int .i64 (i : Int), .int .i64 t] w fun e w' => e = .returned (.int .i64 (hoE S[i] t 0)) ∧ TP w' base d hb (S.set i (lvX S[i] t)) ∧ Kw (fun k => k = hb) w w' := by
  have HH := hid (holder_in i t 0 w H hi)
  have HB := hid H
  clear H
  by_cases h0 : hoE S[i] t 0 = 0
  · have HX := hid (show lvX S[i] t = (S[i].1, S[i].2.1 + 1, S[i].2.2) by unfold lvX; rw [if_pos h0])
    have HP : hoP hb i S[i] t 0 = .pointer (some ⟨hb, i * 3, none⟩) := by unfold hoP; rw [if_pos h0]
    have hsv := (hoE_sv h0).2
    rw [HP, h0] at HH
    rw [h0]
    clear HP h0
    go_enter Try.func16, Try.ntmps16
    go_wp2_with fail
    refine HH.out.mono ?_
    rintro e w4 ⟨rfl, hb4⟩
    have hT := HB.out.below hb4
    have B4 := hid hb4
    obtain ⟨_, a3, _, a4⟩ := hT.at i hi
    have f3 := a4 (i * 3 + 1)
    obtain ⟨o1, o2, o3, o4⟩ := hT.ok i hi
    have HT := hid (hT.put i (i * 3 + 1) (.int .i64 (S[i].2.1 + 1)) (S[i].1, S[i].2.1 + 1, S[i].2.2) (hc_set1 S i hi _).2.1 ⟨by simp only; omega, by simp only; omega, o3, o4⟩)
    clear hb4 hT a4 HH
    generalize hqq : S[i].2.1 = q at a3 o1 o2 hsv HT
    generalize S[i].1 = qa at o2 o3 hsv HX HT
    go_wp2
    go_ret
    rw [HX.out, hqq]
    exact ⟨rfl, HT.out.1, (Kw.below B4.out).trans HT.out.2⟩
  · have HX := hid (show lvX S[i] t = S[i] by unfold lvX; rw [if_neg h0])
    have HP : hoP hb i S[i] t 0 = .pointer none := by unfold hoP; rw [if_neg h0]
    rw [HP] at HH
    generalize hoE S[i] t 0 = e0 at h0 HH
    have hb0 : (e0 == 0) = false := by simp [h0]
    clear HP h0
    go_enter Try.func16, Try.ntmps16
    go_wp2_with fail
    refine HH.out.mono ?_
    rintro e w4 ⟨rfl, hb4⟩
    have B4 := hid hb4
    clear hb4 HH
    go_wp2
    go_ret
    rw [HX.out, List.set_getElem_self]
    exact ⟨rfl, HB.out.below B4.out, Kw.below B4.out⟩
theorem leave_out (s t : Int) (w : World) {base d hb : Nat} {S : List Hd} (H : TP w base d hb S) (hi : ¬ (0 ≤ s ∧ s < (S.length : Int))) :
    Calls Try.prog 16 #[.pointer (some ⟨d, 0, none⟩), .int .i64 s, .int .i64 t] w fun e w' => e = .returned (.int .i64 80) ∧ w' = w := by
  have HA := hid (holder_out s t 0 w H hi)
  clear H hi
  go_enter Try.func16, Try.ntmps16
  go_wp2_with (go_at_call 22; refine HA.out.mono ?_; rintro e w3 ⟨rfl, rfl⟩)
  go_ret
  exact ⟨rfl, rfl⟩
theorem leave_nil (s t : Int) (w : World) : Calls Try.prog 16 #[.pointer none, .int .i64 s, .int .i64 t] w fun e w' => e = .returned (.int .i64 0) ∧ w' = w := by
  go_enter Try.func16, Try.ntmps16
  go_wp2
  go_ret
  exact ⟨rfl, rfl⟩
/-- Ticket's ticket, its error, the stripe behind it -/
def tkN (x : Hd) : Int := if x.1 = 1073741824 then 0 else x.1
def tkE (x : Hd) : Int := if x.1 = 1073741824 then 5 else 0
def tkX (x : Hd) : Hd := if x.1 = 1073741824 then x else (x.1 + 1, x.2)
theorem ticket_in (i : Nat) (w : World) {base d hb : Nat} {S : List Hd} (H : TP w base d hb S) (hi : i < S.length) :
    Calls Try.prog 14 #[.pointer (some ⟨d, 0, none⟩), .int .i64 (i : Int)] w fun e w' => e = .returned (.tuple #[.int .i64 (tkN S[i]), .int .i64 (tkE S[i])]) ∧ TP w' base d hb (S.set i (tkX S[i])) ∧ Kw (fun k => k = hb) w w' := by
  have HA := hid (at_in i w H hi)
  obtain ⟨a1, _, _, a4⟩ := H.at i hi
  have f1 := a4 (i * 3)
  obtain ⟨o1, o2, o3, o4⟩ := H.ok i hi
  by_cases h0 : S[i].1 = 1073741824
  · have HX := hid (show tkX S[i] = S[i] by unfold tkX; rw [if_pos h0])
    have HN := hid (show tkN S[i] = 0 by unfold tkN; rw [if_pos h0])
    have HE := hid (show tkE S[i] = 5 by unfold tkE; rw [if_pos h0])
    have HB := hid H
    rw [h0] at a1
    clear H h0 a4 o1 o2 o3 o4
    go_enter Try.func14, Try.ntmps14
    go_wp2_with (go_at_call 20; refine HA.out.mono ?_; rintro e w3 ⟨rfl, rfl⟩)
    go_ret2
    rw [HX.out, HN.out, HE.out, List.set_getElem_self]
    exact ⟨rfl, HB.out, Kw.refl _ _⟩
  · have HX := hid (show tkX S[i] = (S[i].1 + 1, S[i].2) by unfold tkX; rw [if_neg h0])
    have HN := hid (show tkN S[i] = S[i].1 by unfold tkN; rw [if_neg h0])
    have HE := hid (show tkE S[i] = 0 by unfold tkE; rw [if_neg h0])
    have HT := hid (H.put i (i * 3) (.int .i64 (S[i].1 + 1)) (S[i].1 + 1, S[i].2) (hc_set1 S i hi _).1 ⟨o1, by simp only; omega, by simp only; omega, o4⟩)
    have hb0 : (S[i].1 == 1073741824) = false := by simp [h0]
    have ov : S[i].1 < 1073741824 := by omega
    have ov0 : 0 ≤ S[i].1 := by omega
    clear H h0 a4 o1 o2 o3 o4
    generalize hqq : S[i].1 = q at a1 ov ov0 hb0 HT HX HN
    go_enter Try.func14, Try.ntmps14
    go_wp2_with (go_at_call 20; refine HA.out.mono ?_; rintro e w3 ⟨rfl, rfl⟩)
    go_ret2
    rw [HX.out, HN.out, HE.out]
    exact ⟨by simp, HT.out.1, HT.out.2⟩
theorem ticket_out (s : Int) (w : World) {base d hb : Nat} {S : List Hd} (H : TP w base d hb S) (hi : ¬ (0 ≤ s ∧ s < (S.length : Int))) :
    Calls Try.prog 14 #[.pointer (some ⟨d, 0, none⟩), .int .i64 s] w fun e w' => e = .returned (.tuple #[.int .i64 0, .int .i64 80]) ∧ w' = w := by
  have HA := hid (at_out s w H hi)
  clear H hi
  go_enter Try.func14, Try.ntmps14
  go_wp2_with (go_at_call 20; refine HA.out.mono ?_; rintro e w3 ⟨rfl, rfl⟩)
  go_ret2
  exact ⟨rfl, rfl⟩
theorem ticket_nil (s : Int) (w : World) : Calls Try.prog 14 #[.pointer none, .int .i64 s] w fun e w' => e = .returned (.tuple #[.int .i64 0, .int .i64 0]) ∧ w' = w := by
  go_enter Try.func14, Try.ntmps14
  go_wp2
  go_ret2
  exact ⟨rfl, rfl⟩
theorem served_in (i : Nat) (t : Int) (w : World) {base d hb : Nat} {S : List Hd} (H : TP w base d hb S) (hi : i < S.length) :
    Calls Try.prog 15 #[.pointer (some ⟨d, 0, none⟩), .int .i64 (i : Int), .int .i64 t] w fun e w' => e = .returned (.bool (svd S[i] t)) ∧ Below w.heap.size w w' := by
  have HA := hid (at_in i w H hi)
  obtain ⟨a1, a2, _, _⟩ := H.at i hi
  have HS := hid (serves_any hb i S[i] t w a1 a2)
  clear H
  go_enter Try.func15, Try.ntmps15
  go_wp2_with (go_at_call 20; refine HA.out.mono ?_; rintro e w3 ⟨rfl, rfl⟩)
  refine HS.out.mono ?_
  rintro e w4 ⟨rfl, hb4⟩
  have B4 := hid hb4
  clear hb4
  go_wp2
  go_ret
  exact ⟨rfl, B4.out⟩
theorem served_out (s t : Int) (w : World) {base d hb : Nat} {S : List Hd} (H : TP w base d hb S) (hi : ¬ (0 ≤ s ∧ s < (S.length : Int))) :
    Calls Try.prog 15 #[.pointer (some ⟨d, 0, none⟩), .int .i64 s, .int .i64 t] w fun e w' => e = .returned (.bool false) ∧ w' = w := by
  have HA := hid (at_out s w H hi)
  clear H hi
  go_enter Try.func15, Try.ntmps15
  go_wp2_with (go_at_call 20; refine HA.out.mono ?_; rintro e w3 ⟨rfl, rfl⟩)
  go_ret
  exact ⟨rfl, rfl⟩
theorem served_nil (s t : Int) (w : World) :
    Calls Try.prog 15 #[.pointer none, .int .i64 s, .int .i64 t] w fun e w' => e = .returned (.bool false) ∧ w' = w := by
  have HA := hid (at_nil s w)
  go_enter Try.func15, Try.ntmps15
  go_wp2_with (go_at_call 20; refine HA.out.mono ?_; rintro e w3 ⟨rfl, rfl⟩)
  go_ret
  exact ⟨rfl, rfl⟩
theorem seq_out (s : Int) (w : World) {base d hb : Nat} {S : List Hd} (H : TP w base d hb S) (hi : ¬ (0 ≤ s ∧ s < (S.length : Int))) :
    Calls Try.prog 12 #[.pointer (some ⟨d, 0, none⟩), .int .i64 s] w fun e w' => e = .returned (.int .i64 0) ∧ w' = w := by
  have HA := hid (at_out s w H hi)
  clear H hi
  go_enter Try.func12, Try.ntmps12
  go_wp2_with (go_at_call 20; refine HA.out.mono ?_; rintro e w3 ⟨rfl, rfl⟩)
  go_ret
  exact ⟨rfl, rfl⟩
theorem seq_nil (s : Int) (w : World) :
    Calls Try.prog 12 #[.pointer none, .int .i64 s] w fun e w' => e = .returned (.int .i64 0) ∧ w' = w := by
  have HA := hid (at_nil s w)
  go_enter Try.func12, Try.ntmps12
  go_wp2_with (go_at_call 20; refine HA.out.mono ?_; rintro e w3 ⟨rfl, rfl⟩)
  go_ret
  exact ⟨rfl, rfl⟩
theorem waiting_out (s : Int) (w : World) {base d hb : Nat} {S : List Hd} (H : TP w base d hb S) (hi : ¬ (0 ≤ s ∧ s < (S.length : Int))) :
    Calls Try.prog 13 #[.pointer (some ⟨d, 0, none⟩), .int .i64 s] w fun e w' => e = .returned (.int .i64 0) ∧ w' = w := by
  have HA := hid (at_out s w H hi)
  clear H hi
  go_enter Try.func13, Try.ntmps13
  go_wp2_with (go_at_call 20; refine HA.out.mono ?_; rintro e w3 ⟨rfl, rfl⟩)
  go_ret
  exact ⟨rfl, rfl⟩
theorem waiting_nil (s : Int) (w : World) :
    Calls Try.prog 13 #[.pointer none, .int .i64 s] w fun e w' => e = .returned (.int .i64 0) ∧ w' = w := by
  have HA := hid (at_nil s w)
  go_enter Try.func13, Try.ntmps13
  go_wp2_with (go_at_call 20; refine HA.out.mono ?_; rintro e w3 ⟨rfl, rfl⟩)
  go_ret
  exact ⟨rfl, rfl⟩
theorem seq_in (i : Nat) (w : World) {base d hb : Nat} {S : List Hd} (H : TP w base d hb S) (hi : i < S.length) :
    Calls Try.prog 12 #[.pointer (some ⟨d, 0, none⟩), .int .i64 (i : Int)] w fun e w' => e = .returned (.int .i64 S[i].2.2) ∧ w' = w := by
  have HA := hid (at_in i w H hi)
  obtain ⟨_, _, a3, _⟩ := H.at i hi
  clear H
  go_enter Try.func12, Try.ntmps12
  go_wp2_with (go_at_call 20; refine HA.out.mono ?_; rintro e w3 ⟨rfl, rfl⟩)
  go_ret
  exact ⟨rfl, rfl⟩
theorem waiting_in (i : Nat) (w : World) {base d hb : Nat} {S : List Hd} (H : TP w base d hb S) (hi : i < S.length) :
    Calls Try.prog 13 #[.pointer (some ⟨d, 0, none⟩), .int .i64 (i : Int)] w fun e w' => e = .returned (.int .i64 (S[i].1 - S[i].2.1)) ∧ Below w.heap.size w w' := by
  have HA := hid (at_in i w H hi)
  obtain ⟨a1, a2, _, _⟩ := H.at i hi
  obtain ⟨o1, o2, o3, o4⟩ := H.ok i hi
  clear H
  generalize S[i].1 = q1 at a1 o2 o3
  generalize S[i].2.1 = q2 at a2 o1 o2
  clear o4
  go_enter Try.func13, Try.ntmps13
  go_wp2_with (go_at_call 20; refine HA.out.mono ?_; rintro e w3 ⟨rfl, rfl⟩)
  go_quiet (fail)
  go_wp2
  go_ret
  exact ⟨rfl, below_drewN (Below.refl _ _) nq⟩
theorem stripes_any (w : World) {base d hb : Nat} {S : List Hd} (H : TP w base d hb S) :
    Calls Try.prog 7 #[.pointer (some ⟨d, 0, none⟩)] w fun e w' => e = .returned (.int .i64 (S.length : Int)) ∧ w' = w := by
  have c0 := H.cell0
  clear H
  go_enter Try.func7, Try.ntmps7
  go_wp2
  go_ret
  exact ⟨rfl, rfl⟩
theorem stripes_nil (w : World) : Calls Try.prog 7 #[.pointer none] w fun e w' => e = .returned (.int .i64 0) ∧ w' = w := by
  go_enter Try.func7, Try.ntmps7
  go_wp2
  go_ret
  exact ⟨rfl, rfl⟩
end Go.Proofs.Ytokpncfnkokmcaa
