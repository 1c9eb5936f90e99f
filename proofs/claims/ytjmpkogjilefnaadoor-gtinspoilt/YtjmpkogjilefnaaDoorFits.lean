/-
  The document's own fits.
-/
import Derived.Test.YtjmpkogjilefnaaDoorRefB
import Derived.Test.YtjmpkogjilefnaaDoorRefKind
import Derived.Test.YtjmpkogjilefnaaDoorIsDay
namespace Go.Proofs.YtjmpkogjilefnaaDoor
open Go.RowKit
set_option maxRecDepth 100000

/-- what fits says of a Value, by a kind's own fields -/
def fR (d c dy : Bool) (lo hi : Nat) (x : List UInt8) : Int :=
  if x.length < lo then 3 else if hi < x.length then 26 else if byF (if d then dF else chF) x ≠ 0 then byF (if d then dF else chF) x else if c = true ∧ sm x % 10 ≠ 0 then 22 else if dy = true ∧ ¬ DayOk (yy x) (mm x) (dd x) then 28 else 0

theorem fE_code (a b : Nat) (x : List UInt8) : fltE a b dF (cF x).1 x = fR true true false a b x := by
  unfold fltE fR cF
  by_cases h : sm x % 10 = 0 <;> simp [h]
theorem fE_day (a b : Nat) (x : List UInt8) : fltE a b dF (if DayOk (yy x) (mm x) (dd x) then 0 else 28) x = fR true false true a b x := by
  unfold fltE fR
  by_cases h : DayOk (yy x) (mm x) (dd x)
  · rw [if_pos h]
    simp [show DayB (yy x) (mm x) (dd x) = true from h]
  · rw [if_neg h]
    simp [show DayB (yy x) (mm x) (dd x) = false by simpa using h]
theorem fE_dig (a b : Nat) (x : List UInt8) : fltE a b dF 0 x = fR true false false a b x := by
  unfold fltE fR
  simp
theorem fE_chr (a b : Nat) (x : List UInt8) : fltE a b chF 0 x = fR false false false a b x := by
  unfold fltE fR
  simp

theorem rk_of (q : Int) (h0 : 0 ≤ q) (h1 : q ≤ 12) : ∃ (d c dy am : Bool) (lo hi : Nat), rkOf q = rk (plK q) d lo hi c dy am ∧ (∀ x, fltK q x = fR d c dy lo hi x) ∧ hi ≤ 90 ∧ (dy = true → lo = 6 ∧ hi = 6) := by
  have hk : q = 0 ∨ q = 1 ∨ q = 2 ∨ q = 3 ∨ q = 4 ∨ q = 5 ∨ q = 6 ∨ q = 7 ∨ q = 8 ∨ q = 9 ∨ q = 10 ∨ q = 11 ∨ q = 12 := by omega
  rcases hk with rfl | rfl | rfl | rfl | rfl | rfl | rfl | rfl | rfl | rfl | rfl | rfl | rfl
  · exact ⟨true, true, false, false, 18, 18, rfl, fun x => fE_code 18 18 x, by omega, fun h => by cases h⟩
  · exact ⟨true, true, false, false, 14, 14, rfl, fun x => fE_code 14 14 x, by omega, fun h => by cases h⟩
  · exact ⟨true, true, false, false, 13, 13, rfl, fun x => fE_code 13 13 x, by omega, fun h => by cases h⟩
  · exact ⟨true, false, true, false, 6, 6, rfl, fun x => fE_day 6 6 x, by omega, fun _ => ⟨rfl, rfl⟩⟩
  · exact ⟨true, false, false, false, 2, 2, rfl, fun x => fE_dig 2 2 x, by omega, fun h => by cases h⟩
  · exact ⟨true, false, false, false, 1, 8, rfl, fun x => fE_dig 1 8 x, by omega, fun h => by cases h⟩
  · exact ⟨true, false, false, true, 6, 6, rfl, fun x => fE_dig 6 6 x, by omega, fun h => by cases h⟩
  · exact ⟨true, false, false, true, 1, 15, rfl, fun x => fE_dig 1 15 x, by omega, fun h => by cases h⟩
  · exact ⟨true, false, false, false, 6, 6, rfl, fun x => fE_dig 6 6 x, by omega, fun h => by cases h⟩
  · exact ⟨false, false, false, false, 1, 20, rfl, fun x => fE_chr 1 20 x, by omega, fun h => by cases h⟩
  · exact ⟨false, false, false, false, 1, 25, rfl, fun x => fE_chr 1 25 x, by omega, fun h => by cases h⟩
  · exact ⟨false, false, false, false, 1, 30, rfl, fun x => fE_chr 1 30 x, by omega, fun h => by cases h⟩
  · exact ⟨false, false, false, false, 1, 90, rfl, fun x => fE_chr 1 90 x, by omega, fun h => by cases h⟩

/-- a kind in a block of its own -/
def KBx (w : World) (b : Nat) (p d : Bool) (lo hi : Nat) (c dy am : Bool) : Prop := w.heap[b]? = some (.cells #[.bool p, .bool d, .int .i64 (lo : Int), .int .i64 (hi : Int), .bool c, .bool dy, .bool am] 52 (0, 0))
theorem KBx.facts {w : World} {b : Nat} {p d c dy am : Bool} {lo hi : Nat} (h : KBx w b p d lo hi c dy am) : w.cell? ⟨b, 0, none⟩ = some (.bool p) ∧ w.cell? ⟨b, 1, none⟩ = some (.bool d) ∧ w.cell? ⟨b, 2, none⟩ = some (.int .i64 (lo : Int)) ∧ w.cell? ⟨b, 3, none⟩ = some (.int .i64 (hi : Int)) ∧ w.cell? ⟨b, 4, none⟩ = some (.bool c) ∧ w.cell? ⟨b, 5, none⟩ = some (.bool dy) ∧ b < w.heap.size :=
  ⟨by rw [Lib.cell_of_heap h]; rfl, by rw [Lib.cell_of_heap h]; rfl, by rw [Lib.cell_of_heap h]; rfl, by rw [Lib.cell_of_heap h]; rfl, by rw [Lib.cell_of_heap h]; rfl, by rw [Lib.cell_of_heap h]; rfl, (Array.getElem?_eq_some_iff.1 h).1⟩
theorem KBx.later {w w' : World} {b : Nat} {p d c dy am : Bool} {lo hi : Nat} (h : KBx w b p d lo hi c dy am) (hb : Below w.heap.size w w') : KBx w' b p d lo hi c dy am := (hb.block b h.facts.2.2.2.2.2.2).trans h

theorem dig_chB {c : UInt8} (h : isDB c = true) : chB c = true := by unfold chB; rw [h]; simp

set_option maxHeartbeats 4000000 in
theorem fits_any (v : Value) (L : List El) (a x : ByteArray) (w : World) (hr : RE w v L) (hl : L.length ≤ 9223372036854775000) (hx : x.size ≤ 9223372036854775807) :
    Calls Tryd.prog 47 #[v, .agg #[.string a, .string x]] w fun e w' => e = .returned (.int .i64 (ftE L a.data.toList x.data.toList)) ∧ Below w.heap.size w w' := by
  have HX := hid hx
  have hxl := len_list x
  have HK := hid (fun w => refKindOf_any a w)
  have HBs := hid (fun W (h : Below w.heap.size w W) => beside_any v L a W (hr.below h) hl)
  obtain ⟨R, hR⟩ : ∃ R, ftE L a.data.toList x.data.toList = R := ⟨_, rfl⟩
  rw [hR]
  have HR := hid hR
  clear hx hr hl hR
  unfold rkV at HK
  cases hf : kfind a.data.toList with
  | none =>
    have HE := hid (show R = 23 by rw [← HR.out]; unfold ftE; rw [hf])
    rw [hf] at HK
    simp only [Option.getD_none, Option.isSome_none] at HK
    unfold rkOf rk at HK
    simp only [Int.reduceEq, if_false] at HK
    clear hf
    go_enter Tryd.func47, Tryd.ntmps47
    go_wp2_with fail
    refine (HK.out _).mono ?_
    rintro e w1 ⟨rfl, hb1⟩
    obtain ⟨_, _, hB, _⟩ := box_cells w w1 a x hb1
    have HB := hid (hB.alloc hB.size (.cells #[.bool false, .bool false, .int .i64 0, .int .i64 0, .bool false, .bool false, .bool false] 52))
    clear hb1 hB
    go_wp2
    go_ret
    exact ⟨ret_int HE.out.symm, by first | exact HB.out | (have := HB.out; simpa using this)⟩
  | some q =>
    obtain ⟨q0, q1⟩ := kfind_12 hf
    obtain ⟨d, c, dy, am, lo, hi, hrk, hfl, hhi, hdy⟩ := rk_of q q0 q1
    have HE := hid (show R = if clE L a.data.toList ≠ 0 then clE L a.data.toList else fR d c dy lo hi x.data.toList by rw [← HR.out]; unfold ftE; rw [hf, ← hfl])
    rw [hf] at HK
    simp only [Option.getD_some, Option.isSome_some] at HK
    rw [hrk] at HK
    unfold rk at HK
    generalize plK q = pl at HK
    obtain ⟨cl, hcl⟩ : ∃ cl, clE L a.data.toList = cl := ⟨_, rfl⟩
    rw [hcl] at HBs HE
    clear hf hfl hrk q0 q1 HR hcl
    go_enter Tryd.func47, Tryd.ntmps47
    go_wp2_with fail
    refine (HK.out _).mono ?_
    rintro e w1 ⟨rfl, hb1⟩
    obtain ⟨e0, e1, hB1, _⟩ := box_cells w w1 a x hb1
    clear hb1
    have K2 := hid (show KBx (w1.alloc (.cells #[.bool pl, .bool d, .int .i64 (lo : Int), .int .i64 (hi : Int), .bool c, .bool dy, .bool am] 52)) w1.heap.size pl d lo hi c dy am from heap_alloc_new _ _)
    have B2 := hid (hB1.alloc hB1.size (.cells #[.bool pl, .bool d, .int .i64 (lo : Int), .int .i64 (hi : Int), .bool c, .bool dy, .bool am] 52))
    have f0 := below_cells ((Below.refl w1.heap.size w1).alloc (Nat.le_refl _) (.cells #[.bool pl, .bool d, .int .i64 (lo : Int), .int .i64 (hi : Int), .bool c, .bool dy, .bool am] 52)) _ _ e0
    have f1 := below_cells ((Below.refl w1.heap.size w1).alloc (Nat.le_refl _) (.cells #[.bool pl, .bool d, .int .i64 (lo : Int), .int .i64 (hi : Int), .bool c, .bool dy, .bool am] 52)) _ _ e1
    obtain ⟨W, hW⟩ : ∃ W, w1.alloc (.cells #[.bool pl, .bool d, .int .i64 (lo : Int), .int .i64 (hi : Int), .bool c, .bool dy, .bool am] 52) = W := ⟨_, rfl⟩
    rw [hW] at K2 B2 f0 f1
    obtain ⟨k0, k1, k2, k3, k4, k5, kl⟩ := K2.out.facts
    clear hB1 HK e0 e1 K2
    go_wp2_with fail
    refine (HBs.out _ B2.out).mono ?_
    rintro e w2 ⟨rfl, hw2⟩
    have hws := hw2.symm
    clear hw2
    subst hws
    clear HBs hW
    have hx := HX.out
    by_cases hc0 : cl = 0
    · subst hc0
      have HE2 := hid (show R = fR d c dy lo hi x.data.toList by rw [HE.out]; simp)
      unfold fR at HE2
      rw [hxl] at HE2
      clear HE
      by_cases l1 : x.size < lo
      · have l1I : (x.size : Int) < (lo : Int) := by omega
        have HF := hid (show R = 3 by rw [HE2.out, if_pos l1])
        go_wp2
        go_ret
        exact ⟨ret_int HF.out.symm, B2.out⟩
      · have l1I : ¬ (x.size : Int) < (lo : Int) := by omega
        rw [if_neg l1] at HE2
        by_cases l2 : hi < x.size
        · have l2I : (hi : Int) < (x.size : Int) := by omega
          have HF := hid (show R = 26 by rw [HE2.out, if_pos l2])
          go_wp2
          go_ret
          exact ⟨ret_int HF.out.symm, B2.out⟩
        · have l2I : ¬ (hi : Int) < (x.size : Int) := by omega
          rw [if_neg l2] at HE2
          have hdy6 : dy = true → x.size = 6 := fun h => by have := hdy h; omega
          have HDY := hid hdy6
          clear hdy hdy6
          obtain ⟨P, hP⟩ : ∃ P : UInt8 → Int, (if d then dF else chF) = P := ⟨_, rfl⟩
          rw [hP] at HE2
          have HPd := hid hP
          clear hP
          go_wp2_with fail
          go_loopw [8] (fun i wr => ∃ k : Nat, k ≤ x.size ∧ i = .int .i64 (k : Int) ∧ (∀ j (hj : j < k) (hk : k ≤ x.size), P (x[j]'(by omega)) = 0) ∧ wr = W) (fun i _ => x.size - (intOf i).toNat)
          case atStart => exact ⟨0, by omega, rfl, fun j hj => by omega, rfl⟩
          case round =>
            obtain ⟨k, hk, rfl, hall, hwr⟩ := hrel
            have hws := hwr.symm
            clear hwr
            subst hws
            have HA := hid hall
            clear hall
            by_cases hlt : k < x.size
            · have hltI : (k : Int) < (x.size : Int) := by omega
              have hkl : k < x.data.toList.length := by omega
              have hso := byF_some (P := P) hkl (fun i hi => by rw [byte_list x i (by omega)]; exact HA.out i hi hk)
              rw [byte_list x k hlt] at hso
              have HSo := hid hso
              clear hso
              have HNx : Hid (P (x[k]'hlt) = 0 → ∀ j (hj : j < k + 1) (hk1 : k + 1 ≤ x.size), P (x[j]'(by omega)) = 0) := fun h j hj hk1 => by
                by_cases e : j = k
                · subst e; exact h
                · exact HA.out j (by omega) (by omega)
              have HD := hid (fun w => refIsDigit_any (x[k]'hlt) w)
              have HCh := hid (fun w => char_any (x[k]'hlt) w)
              have HCF := hid (chF_is (x[k]'hlt))
              cases d with
              | true =>
                have HPk := hid (show P (x[k]'hlt) = dF (x[k]'hlt) by rw [← HPd.out]; rfl)
                cases hdb : isDB (x[k]'hlt) with
                | true =>
                  rw [hdb] at HD
                  rw [dig_chB hdb] at HCh
                  have HZ := hid (HNx.out (by rw [HPk.out]; unfold dF; rw [hdb]; rfl))
                  clear hdb HSo HNx HPk HCF
                  go_wp2_with fail
                  refine (HD.out _).mono ?_
                  rintro e w3 ⟨rfl, hw3⟩
                  have hws := hw3.symm
                  clear hw3
                  subst hws
                  go_wp2_with fail
                  refine (HCh.out _).mono ?_
                  rintro e w3 ⟨rfl, hw3⟩
                  have hws := hw3.symm
                  clear hw3
                  subst hws
                  clear HD HCh
                  go_wp2
                  go_roundw
                  case rel => exact ⟨k + 1, by omega, by go_num, HZ.out, by simp⟩
                  case measure => simp [intOf]; omega
                | false =>
                  rw [hdb] at HD
                  have hpk : P (x[k]'hlt) = 20 := by rw [HPk.out]; unfold dF; rw [hdb]; rfl
                  have hb := HSo.out (by rw [hpk]; decide)
                  have HF := hid (show R = 20 by rw [HE2.out, hb, hpk]; rfl)
                  clear hdb HSo HNx HPk HCF hpk hb HCh
                  go_wp2_with fail
                  refine (HD.out _).mono ?_
                  rintro e w3 ⟨rfl, hw3⟩
                  have hws := hw3.symm
                  clear hw3
                  subst hws
                  go_wp2
                  go_ret
                  exact ⟨ret_int HF.out.symm, B2.out⟩
              | false =>
                have HPk := hid (show P (x[k]'hlt) = chF (x[k]'hlt) by rw [← HPd.out]; rfl)
                cases hcb : chB (x[k]'hlt) with
                | true =>
                  rw [hcb] at HCh
                  have HZ := hid (HNx.out (by rw [HPk.out, HCF.out, hcb]; rfl))
                  clear hcb HSo HNx HPk HCF HD
                  go_wp2_with fail
                  refine (HCh.out _).mono ?_
                  rintro e w3 ⟨rfl, hw3⟩
                  have hws := hw3.symm
                  clear hw3
                  subst hws
                  clear HCh
                  go_wp2
                  go_roundw
                  case rel => exact ⟨k + 1, by omega, by go_num, HZ.out, by simp⟩
                  case measure => simp [intOf]; omega
                | false =>
                  rw [hcb] at HCh
                  have hpk : P (x[k]'hlt) = 27 := by rw [HPk.out, HCF.out, hcb]; rfl
                  have hb := HSo.out (by rw [hpk]; decide)
                  have HF := hid (show R = 27 by rw [HE2.out, hb, hpk]; rfl)
                  clear hcb HSo HNx HPk HCF hpk hb HD
                  go_wp2_with fail
                  refine (HCh.out _).mono ?_
                  rintro e w3 ⟨rfl, hw3⟩
                  have hws := hw3.symm
                  clear hw3
                  subst hws
                  go_wp2
                  go_ret
                  exact ⟨ret_int HF.out.symm, B2.out⟩
            · have hltI : ¬ (k : Int) < (x.size : Int) := by omega
              have hz : byF P x.data.toList = 0 := by
                refine byF_none fun c hc => ?_
                obtain ⟨i, hi, rfl⟩ := List.mem_iff_getElem.1 hc
                rw [len_list] at hi
                rw [byte_list x i hi]
                exact HA.out i (by omega) hk
              rw [hz] at HE2
              simp only [ne_eq, not_true_eq_false, if_false] at HE2
              clear hz HA HPd
              have HSm := hid (fun w => refSum_any x w (by omega))
              have HDa := hid (fun h w => isDay_any x w h)
              cases c with
              | true =>
                have hm : ((sm x.data.toList : Nat) : Int).tmod 10 = ((sm x.data.toList % 10 : Nat) : Int) := by rw [Int.tmod_eq_emod_of_nonneg (by omega)]; omega
                by_cases hs : sm x.data.toList % 10 = 0
                · rw [hs] at hm
                  rw [if_neg (by simp [hs])] at HE2
                  generalize sm x.data.toList = SM at *
                  clear hs
                  go_wp2_with fail
                  refine (HSm.out _).mono ?_
                  rintro e w3 ⟨rfl, hw3⟩
                  have hws := hw3.symm
                  clear hw3
                  subst hws
                  cases dy with
                  | true =>
                    have HDb := hid (HDa.out (HDY.out rfl))
                    by_cases hok : DayOk (yy x.data.toList) (mm x.data.toList) (dd x.data.toList)
                    · have HF := hid (show R = 0 by rw [HE2.out, if_neg (fun h => h.2 hok)])
                      rw [decide_eq_true hok] at HDb
                      clear hok
                      go_wp2_with fail
                      refine (HDb.out _).mono ?_
                      rintro e w4 ⟨rfl, hb4⟩
                      have B4 := hid (B2.out.trans (hb4.mono B2.out.size))
                      clear hb4 HDb
                      go_wp2
                      go_ret
                      exact ⟨ret_int HF.out.symm, B4.out⟩
                    · have HF := hid (show R = 28 by rw [HE2.out, if_pos ⟨rfl, hok⟩])
                      rw [decide_eq_false hok] at HDb
                      clear hok
                      go_wp2_with fail
                      refine (HDb.out _).mono ?_
                      rintro e w4 ⟨rfl, hb4⟩
                      have B4 := hid (B2.out.trans (hb4.mono B2.out.size))
                      clear hb4 HDb
                      go_wp2
                      go_ret
                      exact ⟨ret_int HF.out.symm, B4.out⟩
                  | false =>
                    have HF := hid (show R = 0 by rw [HE2.out, if_neg (by simp)])
                    clear HDa
                    go_wp2
                    go_ret
                    exact ⟨ret_int HF.out.symm, B2.out⟩
                · rw [if_pos ⟨rfl, hs⟩] at HE2
                  obtain ⟨r, hr⟩ : ∃ r : Nat, sm x.data.toList % 10 = r := ⟨_, rfl⟩
                  rw [hr] at hm hs
                  have hmb : ((r : Int) != 0) = true := by simp; omega
                  clear hr
                  generalize sm x.data.toList = SM at *
                  clear hs
                  go_wp2_with fail
                  refine (HSm.out _).mono ?_
                  rintro e w3 ⟨rfl, hw3⟩
                  have hws := hw3.symm
                  clear hw3
                  subst hws
                  go_wp2
                  go_ret
                  exact ⟨ret_int HE2.out.symm, B2.out⟩
              | false =>
                rw [if_neg (by simp)] at HE2
                clear HSm
                cases dy with
                | true =>
                  have HDb := hid (HDa.out (HDY.out rfl))
                  by_cases hok : DayOk (yy x.data.toList) (mm x.data.toList) (dd x.data.toList)
                  · have HF := hid (show R = 0 by rw [HE2.out, if_neg (fun h => h.2 hok)])
                    rw [decide_eq_true hok] at HDb
                    clear hok
                    go_wp2_with fail
                    refine (HDb.out _).mono ?_
                    rintro e w4 ⟨rfl, hb4⟩
                    have B4 := hid (B2.out.trans (hb4.mono B2.out.size))
                    clear hb4 HDb
                    go_wp2
                    go_ret
                    exact ⟨ret_int HF.out.symm, B4.out⟩
                  · have HF := hid (show R = 28 by rw [HE2.out, if_pos ⟨rfl, hok⟩])
                    rw [decide_eq_false hok] at HDb
                    clear hok
                    go_wp2_with fail
                    refine (HDb.out _).mono ?_
                    rintro e w4 ⟨rfl, hb4⟩
                    have B4 := hid (B2.out.trans (hb4.mono B2.out.size))
                    clear hb4 HDb
                    go_wp2
                    go_ret
                    exact ⟨ret_int HF.out.symm, B4.out⟩
                | false =>
                  have HF := hid (show R = 0 by rw [HE2.out, if_neg (by simp)])
                  clear HDa
                  go_wp2
                  go_ret
                  exact ⟨ret_int HF.out.symm, B2.out⟩
    · have hcb : (cl != 0) = true := by simp [hc0]
      have HE2 := hid (show R = cl by rw [HE.out, if_pos hc0])
      go_wp2
      go_ret
      exact ⟨ret_int HE2.out.symm, B2.out⟩
end Go.Proofs.YtjmpkogjilefnaaDoor
