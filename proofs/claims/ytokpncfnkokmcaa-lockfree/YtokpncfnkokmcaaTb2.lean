/-
  A table: holder, count, Ticket, Served, Leave, Odd, Even, Seq, Waiting, Stripes; a table that there isn't.
-/
import Derived.Test.YtokpncfnkokmcaaTb1
namespace Go.Proofs.Ytokpncfnkokmcaa
open Go.RowKit
set_option maxRecDepth 100000

/-- what a ticket's call answers: 81 it is not served, 82 the counter is odd, or even, 0 it may -/
def hoE (x : Hd) (t par : Int) : Int := if svd x t then (if x.2.2 % 2 = par then 0 else 82) else 81
/-- where it may: the stripe's place -/
def hoP (hb i : Nat) (x : Hd) (t par : Int) : Value := .pointer (if hoE x t par = 0 then some ⟨hb, i * 3, none⟩ else none)
theorem holder_in (i : Nat) (t par : Int) (w : World) {base d hb : Nat} {S : List Hd} (H : TP w base d hb S) (hi : i < S.length) :
    Calls Try.prog 22 #[.pointer (some ⟨d, 0, none⟩), .int .i64 (i : Int), .int .i64 t, .int .i64 par] w fun e w' => e = .returned (.tuple #[hoP hb i S[i] t par, .int .i64 (hoE S[i] t par)]) ∧ Below w.heap.size w w' := by
  have HA := hid (at_in i w H hi)
  obtain ⟨a1, a2, a3, _⟩ := H.at i hi
  obtain ⟨o1, o2, o3, o4⟩ := H.ok i hi
  have HS := hid (serves_any hb i S[i] t w a1 a2)
  clear H
  generalize S[i] = x at a1 a2 a3 o1 o2 o3 o4 HS
  obtain ⟨a, b, q⟩ := x
  simp only at a1 a2 a3 o1 o2 o3 o4
  go_enter Try.func22, Try.ntmps22
  go_wp2_with (go_at_call 20; refine HA.out.mono ?_; rintro e w3 ⟨rfl, rfl⟩)
  refine HS.out.mono ?_
  rintro e w4 ⟨rfl, hb4⟩
  have c3 : w4.cell? ⟨hb, i * 3 + 2, none⟩ = some (.int .i64 q) := below_cells hb4 _ _ a3
  have B4 := hid hb4
  clear hb4 HS
  cases hs : svd (a, b, q) t with
  | false =>
    have HE := hid (show hoE (a, b, q) t par = 81 by unfold hoE; rw [hs]; rfl)
    have HP := hid (show hoP hb i (a, b, q) t par = .pointer none by unfold hoP; rw [HE.out]; rfl)
    go_wp2
    go_ret2
    rw [HE.out, HP.out]
    exact ⟨rfl, B4.out⟩
  | true =>
    have hq : q.tmod 2 = q % 2 := Int.tmod_eq_emod_of_nonneg o4
    by_cases h2 : q % 2 = par
    · have HE := hid (show hoE (a, b, q) t par = 0 by unfold hoE; rw [hs, if_pos rfl, if_pos h2])
      have HP := hid (show hoP hb i (a, b, q) t par = .pointer (some ⟨hb, i * 3, none⟩) by unfold hoP; rw [if_pos HE.out])
      have hb2 : (q.tmod 2 == par) = true := by rw [hq]; simp [h2]
      have hb3 : (q % 2 == par) = true := by simp [h2]
      clear h2 hq
      go_wp2
      go_ret2
      rw [HE.out, HP.out]
      exact ⟨rfl, B4.out⟩
    · have HE := hid (show hoE (a, b, q) t par = 82 by unfold hoE; rw [hs, if_pos rfl, if_neg h2])
      have HP := hid (show hoP hb i (a, b, q) t par = .pointer none by unfold hoP; rw [HE.out]; rfl)
      have hb2 : (q.tmod 2 == par) = false := by rw [hq]; simp [h2]
      have hb3 : (q % 2 == par) = false := by simp [h2]
      clear h2 hq
      go_wp2
      go_ret2
      rw [HE.out, HP.out]
      exact ⟨rfl, B4.out⟩
theorem holder_out (s t par : Int) (w : World) {base d hb : Nat} {S : List Hd} (H : TP w base d hb S) (hi : ¬ (0 ≤ s ∧ s < (S.length : Int))) :
    Calls Try.prog 22 #[.pointer (some ⟨d, 0, none⟩), .int .i64 s, .int .i64 t, .int .i64 par] w fun e w' => e = .returned (.tuple #[.pointer none, .int .i64 80]) ∧ w' = w := by
  have HA := hid (at_out s w H hi)
  clear H hi
  go_enter Try.func22, Try.ntmps22
  go_wp2_with (go_at_call 20; refine HA.out.mono ?_; rintro e w3 ⟨rfl, rfl⟩)
  go_ret2
  exact ⟨rfl, rfl⟩
/-- a stripe behind Odd or Even -/
def ctX (x : Hd) (t par : Int) : Hd := if hoE x t par = 0 then (x.1, x.2.1, x.2.2 + 1) else x
theorem count_in (i : Nat) (t par : Int) (w : World) {base d hb : Nat} {S : List Hd} (H : TP w base d hb S) (hi : i < S.length) (hq : S[i].2.2 < 4611686018427387904) :
    Calls Try.prog 23 #[.pointer (some ⟨d, 0, none⟩), .int .i64 (i : Int), .int .i64 t, .int .i64 par] w fun e w' => e = .returned (.int .i64 (hoE S[i] t par)) ∧ TP w' base d hb (S.set i (ctX S[i] t par)) ∧ Kw (fun k => k = hb) w w' := by
  have HH := hid (holder_in i t par w H hi)
  have HB := hid H
  clear H
  by_cases h0 : hoE S[i] t par = 0
  · have HX := hid (show ctX S[i] t par = (S[i].1, S[i].2.1, S[i].2.2 + 1) by unfold ctX; rw [if_pos h0])
    have HP : hoP hb i S[i] t par = .pointer (some ⟨hb, i * 3, none⟩) := by unfold hoP; rw [if_pos h0]
    rw [HP, h0] at HH
    rw [h0]
    clear HP h0
    go_enter Try.func23, Try.ntmps23
    go_wp2_with fail
    refine HH.out.mono ?_
    rintro e w4 ⟨rfl, hb4⟩
    have hT := HB.out.below hb4
    have B4 := hid hb4
    obtain ⟨_, _, a3, a4⟩ := hT.at i hi
    have f3 := a4 (i * 3 + 2)
    have o4 := (hT.ok i hi).2.2.2
    have HT := hid (hT.put i (i * 3 + 2) (.int .i64 (S[i].2.2 + 1)) (S[i].1, S[i].2.1, S[i].2.2 + 1) (hc_set1 S i hi _).2.2 (by obtain ⟨p1, p2, p3, p4⟩ := hT.ok i hi; exact ⟨p1, p2, p3, by simp only; omega⟩))
    clear hb4 hT a4 HH
    generalize hqq : S[i].2.2 = q at a3 o4 hq HT
    go_wp2
    go_ret
    rw [HX.out, hqq]
    exact ⟨rfl, HT.out.1, (Kw.below B4.out).trans HT.out.2⟩
  · have HX := hid (show ctX S[i] t par = S[i] by unfold ctX; rw [if_neg h0])
    have HP : hoP hb i S[i] t par = .pointer none := by unfold hoP; rw [if_neg h0]
    rw [HP] at HH
    generalize hoE S[i] t par = e0 at h0 HH
    have hb0 : (e0 == 0) = false := by simp [h0]
    clear HP h0
    go_enter Try.func23, Try.ntmps23
    go_wp2_with fail
    refine HH.out.mono ?_
    rintro e w4 ⟨rfl, hb4⟩
    have B4 := hid hb4
    clear hb4 HH
    go_wp2
    go_ret
    rw [HX.out, List.set_getElem_self]
    exact ⟨rfl, HB.out.below B4.out, Kw.below B4.out⟩
end Go.Proofs.Ytokpncfnkokmcaa
