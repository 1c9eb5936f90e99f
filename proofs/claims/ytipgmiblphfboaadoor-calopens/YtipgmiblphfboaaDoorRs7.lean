/-
  The document's rules: how many open days lie between two days?
-/
import Derived.Test.YtipgmiblphfboaaDoorRs6
import Derived.Test.YtipgmiblphfboaaDoorShf
namespace Go.Proofs.YtipgmiblphfboaaDoor
open Go.RowKit
set_option maxRecDepth 100000

/-- of the week's days, the first k -/
def cW (wk : Nat → Bool) : Nat → Int
  | 0 => 0
  | k + 1 => cW wk k + (if wk k then 1 else 0)
theorem cW_bound (wk : Nat → Bool) (k : Nat) : 0 ≤ cW wk k ∧ cW wk k ≤ k := by
  induction k with
  | zero => simp [cW]
  | succ k ih => rw [cW]; split <;> omega
theorem cI_bound (f : Int → Bool) (a : Int) (k : Nat) : 0 ≤ cI f a k ∧ cI f a k ≤ k := by
  induction k with
  | zero => simp [cI]
  | succ k ih => rw [cI]; split <;> omega
theorem cL_bound (f : Int → Bool) (v : Bool) (a : Int) (k : Nat) : ∀ S : List Int, -(S.length : Int) ≤ cL f v a k S ∧ cL f v a k S ≤ S.length
  | [] => by simp [cL]
  | s :: S => by
    have ih := cL_bound f v a k S
    rw [cL, List.length_cons]
    repeat' split
    all_goals omega
theorem cL_take (f : Int → Bool) (v : Bool) (a : Int) (k : Nat) (D : List (Int × Int × Int)) (i : Nat) (hi : i < D.length) : cL f v a k ((D.take (i + 1)).map nbT) = cL f v a k ((D.take i).map nbT) + (if a ≤ nbT D[i] ∧ nbT D[i] < a + k then (if v then 1 else 0) - (if f (nbT D[i]) then 1 else 0) else 0) := by
  rw [List.take_succ_eq_append_getElem hi, List.map_append, List.map_cons, List.map_nil, cL_snoc]
theorem cW_seven (wk : Nat → Bool) : cW wk 7 = cI (fun i => wk (wd i).toNat) 2 7 := by
  have h : ∀ i : Nat, i < 7 → (wd (2 + (i : Int))).toNat = i := by intro i hi; unfold wd; omega
  simp only [cW, cI]
  simp only [h 0 (by omega), h 1 (by omega), h 2 (by omega), h 3 (by omega), h 4 (by omega), h 5 (by omega), h 6 (by omega)]

set_option maxHeartbeats 4000000 in
theorem between_any (wk : Nat → Bool) (D E : List (Int × Int × Int)) (A : List (Int × Bool)) (hA : rlA D E = some A) (v1 v2 : Value) (a b : Int) (ha : 0 ≤ a) (hab : a ≤ b) (hb : b ≤ 3652425) (w : World) (h1 : RL eD 3 w v1 D) (h2 : RL eD 3 w v2 E) :
    Calls Tryd.prog 38 #[rlV wk v1 v2, .int .i64 a, .int .i64 b] w fun e w' => e = .returned (.int .i64 (cntO wk A a b : Int)) ∧ Below w.heap.size w w' := by
  rw [cntO_sum hA]
  obtain ⟨kk, hkk⟩ : ∃ kk : Nat, (b - a).toNat = kk := ⟨_, rfl⟩
  have hba : b - a = (kk : Int) := by omega
  rw [hkk, cI_split, ← cW_seven]
  obtain ⟨W, hWW⟩ : ∃ W : Nat, kk / 7 = W := ⟨_, rfl⟩
  obtain ⟨r, hr⟩ : ∃ r : Nat, kk % 7 = r := ⟨_, rfl⟩
  have hd1 : (b - a) / 7 = (W : Int) := by omega
  have hd2 : (b - a).tdiv 7 = (W : Int) := by rw [Int.tdiv_eq_ediv_of_nonneg (by omega)]; exact hd1
  have hr7 : r < 7 := by omega
  obtain ⟨i0, hi0⟩ : ∃ i0 : Int, a + 7 * (W : Int) = i0 := ⟨_, rfl⟩
  have hbi : i0 + (r : Int) = b := by omega
  have hi1 : a + 7 * (W : Int) = i0 := hi0
  have hia : a ≤ i0 := by omega
  have hwk : W ≤ 521775 := by omega
  rw [hWW, hr]
  rw [hi0]
  have HKK := hid (show b = a + (kk : Int) by omega)
  clear hba hkk hWW hr hi0
  have hW7 := cW_bound wk 7
  obtain ⟨R, hRR⟩ : ∃ R : Int, (W : Int) * cW wk 7 + cI (fun i => wk (wd i).toNat) i0 r + cL (fun i => wk (wd i).toNat) false a kk (D.map nbT) + cL (fun i => wk (wd i).toNat) true a kk (E.map nbT) = R := ⟨_, rfl⟩
  rw [hRR]
  have HRR := hid hRR
  clear hRR
  obtain ⟨⟨ro1, ro2⟩, _⟩ := rlA_some hA
  have hlD := ro1.1
  have hlE := ro2.1
  have hR : RZ (w.alloc (.cells (rlC wk v1 v2) 26)) w.heap.size wk v1 v2 := heap_alloc_new _ _
  have HB0 := hid (alloc_below w (.cells (rlC wk v1 v2) 26))
  have HR0 := hid hR
  have H1 := hid h1
  have H2 := hid h2
  have RO1 := hid ro1
  have RO2 := hid ro2
  clear hR h1 h2 ro1 ro2 hA
  unfold rlV at *
  unfold rlC at *
  go_enter Tryd.func38, Tryd.ntmps38
  go_wp2_with fail
  generalize w.alloc (.cells #[.bool (wk 0), .bool (wk 1), .bool (wk 2), .bool (wk 3), .bool (wk 4), .bool (wk 5), .bool (wk 6), v1, v2] 26) = w0 at *
  go_loopg [8, 9] 7 (fun g s8 s9 wr => ∃ k : Nat, k ≤ 7 ∧ 7 - k ≤ g ∧ s9 = .int .i64 (k : Int) ∧ s8 = .int .i64 (cW wk k) ∧ Hid (RZ wr w.heap.size wk v1 v2) ∧ Hid (Below w.heap.size w wr))
  case atStart => exact ⟨0, Nat.zero_le _, Nat.le_refl _, rfl, rfl, HR0, HB0⟩
  case round =>
    obtain ⟨k, hk, hm, rfl, rfl, HR, HB⟩ := hrel
    clear HR0 HB0
    by_cases hlt : k < 7
    · have hlt' : (k : Int) < 7 := by omega
      have cw := HR.out.wcell k hlt
      have hWk := cW_bound wk k
      have hWs : cW wk (k + 1) = cW wk k + (if wk k then 1 else 0) := rfl
      cases hb1 : wk k with
      | true =>
        rw [hb1] at cw hWs
        simp only [if_true] at hWs
        generalize cW wk k = c at *
        go_wp2
        go_roundg (gk - 1)
        case measure => omega
        case rel => exact ⟨k + 1, by omega, by omega, by first | rfl | go_num, by rw [hWs], HR, HB⟩
      | false =>
        rw [hb1] at cw hWs
        simp only [Bool.false_eq_true, if_false] at hWs
        generalize cW wk k = c at *
        go_wp2
        go_roundg (gk - 1)
        case measure => omega
        case rel => exact ⟨k + 1, by omega, by omega, by first | rfl | go_num, by rw [hWs, Int.add_zero], HR, HB⟩
    · have hk7 : k = 7 := by omega
      subst hk7
      generalize cW wk 7 = per at *
      have hpm : 0 ≤ (W : Int) * per ∧ (W : Int) * per ≤ 521775 * 7 := ⟨Int.mul_nonneg (by omega) (by omega), Int.mul_le_mul (by omega) (by omega) (by omega) (by omega)⟩
      obtain ⟨n0, hn0⟩ : ∃ n0 : Int, (W : Int) * per = n0 := ⟨_, rfl⟩
      rw [hn0] at hpm HRR
      go_wp2_with fail
      clear hn0 hd1 hd2
      have WE := hid (fun n h1 h2 w => refWeekday_any n h1 h2 w)
      have HCI := hid (fun q : Nat => cI_bound (fun i => wk (wd i).toNat) i0 q)
      go_loopg [7, 11] 7 (fun g s7 s11 wr => ∃ q : Nat, q ≤ r ∧ r - q ≤ g ∧ s11 = .int .i64 (i0 + (q : Int)) ∧ s7 = .int .i64 (n0 + cI (fun i => wk (wd i).toNat) i0 q) ∧ Hid (RZ wr w.heap.size wk v1 v2) ∧ Hid (Below w.heap.size w wr))
      case atStart => exact ⟨0, Nat.zero_le _, by omega, by go_num, by first | rfl | (simp only [cI]; go_num), HR, HB⟩
      case round =>
        obtain ⟨q, hq, hm2, rfl, rfl, HR1, HB1⟩ := hrel
        clear HR HB
        by_cases hlt2 : q < r
        · have hs : cI (fun i => wk (wd i).toNat) i0 (q + 1) = cI (fun i => wk (wd i).toNat) i0 q + (if wk (wd (i0 + (q : Int))).toNat then 1 else 0) := rfl
          have hcb := HCI.out q
          have W1 := hid (WE.out (i0 + (q : Int)) (by omega) (by omega))
          have hwl := wd_lt (i0 + (q : Int))
          obtain ⟨x, hx, hx7⟩ : ∃ x : Nat, wd (i0 + (q : Int)) = (x : Int) ∧ x < 7 := ⟨(wd (i0 + (q : Int))).toNat, by omega, by omega⟩
          have hxn : (wd (i0 + (q : Int))).toNat = x := by omega
          rw [hxn] at hs
          rw [hx] at W1
          have cw := HR1.out.wcell x hx7
          have HS := hid hs
          clear hs hxn hx hwl
          have HS1 := hid (fun h : wk x = true => (show n0 + cI (fun i => wk (wd i).toNat) i0 (q + 1) = n0 + cI (fun i => wk (wd i).toNat) i0 q + 1 by rw [HS.out, if_pos h]; omega))
          have HS0 := hid (fun h : wk x = false => (show n0 + cI (fun i => wk (wd i).toNat) i0 (q + 1) = n0 + cI (fun i => wk (wd i).toNat) i0 q by rw [HS.out, h]; simp))
          clear HS HCI
          cases hb1 : wk x with
          | true =>
            rw [hb1] at cw
            have HS := hid (HS1.out hb1)
            clear HS1 HS0
            generalize cI (fun i => wk (wd i).toNat) i0 q = c at *
            go_wp2_with fail
            refine (W1.out _).mono ?_
            rintro e w1 ⟨rfl, rfl⟩
            go_wp2
            go_roundg (gk - 1)
            case measure => omega
            case rel => exact ⟨q + 1, by omega, by omega, by go_num, by rw [HS.out], HR1, HB1⟩
          | false =>
            rw [hb1] at cw
            have HS := hid (HS0.out hb1)
            clear HS1 HS0
            generalize cI (fun i => wk (wd i).toNat) i0 q = c at *
            go_wp2_with fail
            refine (W1.out _).mono ?_
            rintro e w1 ⟨rfl, rfl⟩
            go_wp2
            go_roundg (gk - 1)
            case measure => omega
            case rel => exact ⟨q + 1, by omega, by omega, by go_num, by rw [HS.out], HR1, HB1⟩
        · have hqr : q = r := by omega
          subst hqr
          have hcb := HCI.out q
          clear HCI
          generalize cI (fun i => wk (wd i).toNat) i0 q = c at *
          generalize hm0 : n0 + c = m0 at *
          have hmb : 0 ≤ m0 ∧ m0 ≤ 4000000 := by omega
          clear hm0 hcb hpm
          have c7 := HR1.out.facts.1.2.2.2.2.2.2.2.1
          go_wp2_with fail
          clear hbi hm2 hlt2 hq hr7 hi1 hia hwk hW7 hk hm hlt
          obtain ⟨ao, cc, rfl, hc, hn, hcell⟩ := H1.out
          have HQ := hid hcell
          clear hcell c7 hn
          go_loopg [7, 12] D.length (fun g s7 s12 wr => ∃ i : Nat, i ≤ D.length ∧ D.length - i ≤ g ∧ s12 = .int .i64 (i : Int) ∧ s7 = .int .i64 (m0 + cL (fun i => wk (wd i).toNat) false a kk ((D.take i).map nbT)) ∧ Hid (RZ wr w.heap.size wk _ v2) ∧ Hid (Below w.heap.size w wr))
          case atStart => exact ⟨0, Nat.zero_le _, by omega, rfl, by simp only [List.take_zero, List.map_nil, cL, Int.add_zero], HR1, HB1⟩
          case round =>
            obtain ⟨i, hi, hmm, rfl, rfl, HR2, HB2⟩ := hrel
            clear HR1 HB1
            have c7 := HR2.out.facts.1.2.2.2.2.2.2.2.1
            have hcl := cL_bound (fun i => wk (wd i).toNat) false a kk ((D.take i).map nbT)
            rw [List.length_map, List.length_take] at hcl
            by_cases hlt : i < D.length
            · have hlt' : (i : Int) < (D.length : Int) := by omega
              obtain ⟨g, off, ha', hq⟩ := HQ.out i hlt
              subst ha'
              have r0 : wr.cell? ⟨g, off + i * 3, none⟩ = some (.int .i64 D[i].1) := below_cells HB2.out _ _ (hq 0 _ rfl)
              have r1 : wr.cell? ⟨g, off + i * 3 + 1, none⟩ = some (.int .i64 D[i].2.1) := below_cells HB2.out _ _ (hq 1 _ rfl)
              have r2 : wr.cell? ⟨g, off + i * 3 + 2, none⟩ = some (.int .i64 D[i].2.2) := below_cells HB2.out _ _ (hq 2 _ rfl)
              have hvd : VD D[i].1 D[i].2.1 D[i].2.2 := (RO1.out.2 i hlt hlt).1
              have N1 := hid (fun w => refNumber_any D[i].1 D[i].2.1 D[i].2.2 hvd w)
              have hn1 : nb D[i].1 D[i].2.1 D[i].2.2 = nbT D[i] := rfl
              rw [hn1] at N1
              have HS := hid (cL_take (fun i => wk (wd i).toNat) false a kk D i hlt)
              generalize nbT D[i] = kn at *
              generalize D[i].1 = y at *
              generalize D[i].2.1 = mo at *
              generalize D[i].2.2 = d at *
              generalize cL (fun i => wk (wd i).toNat) false a kk ((D.take i).map nbT) = c at *
              unfold dV at N1
              clear hq hvd hn1
              go_wp2_with fail
              refine (N1.out _).mono ?_
              rintro e w1 ⟨rfl, hb1⟩
              have HR3 := hid (HR2.out.later hb1)
              have HB3 := hid (HB2.out.trans (hb1.mono HB2.out.size))
              clear hb1 HR2 HB2 r0 r1 r2 c7
              by_cases h1 : a ≤ kn
              · by_cases h2 : kn < b
                · have W1 := hid (WE.out kn (by omega) (by omega))
                  have hwl := wd_lt kn
                  obtain ⟨x, hx, hx7⟩ : ∃ x : Nat, wd kn = (x : Int) ∧ x < 7 := ⟨(wd kn).toNat, by omega, by omega⟩
                  have hxn : (wd kn).toNat = x := by omega
                  rw [hx] at W1
                  have cw := HR3.out.wcell x hx7
                  have hkk : kn < a + (kk : Int) := by rw [← HKK.out]; exact h2
                  have HS2 := hid (show m0 + cL (fun i => wk (wd i).toNat) false a kk ((D.take (i + 1)).map nbT) = m0 + c + ((if false then 1 else 0) - (if wk x then 1 else 0)) by rw [HS.out, if_pos ⟨h1, hkk⟩, hxn, Int.add_assoc])
                  clear HS hwl hx hxn hkk
                  cases hb1 : wk x with
                  | true =>
                    rw [hb1] at cw
                    have HS' := hid (show m0 + cL (fun i => wk (wd i).toNat) false a kk ((D.take (i + 1)).map nbT) = m0 + c - 1 by rw [HS2.out, hb1]; simp; try omega)
                    clear HS2
                    go_wp2_with fail
                    refine (W1.out _).mono ?_
                    rintro e w2 ⟨rfl, rfl⟩
                    go_wp2
                    go_roundg (gk - 1)
                    case measure => omega
                    case rel => exact ⟨i + 1, by omega, by omega, by first | rfl | go_num, by rw [HS'.out], HR3, HB3⟩
                  | false =>
                    rw [hb1] at cw
                    have HS' := hid (show m0 + cL (fun i => wk (wd i).toNat) false a kk ((D.take (i + 1)).map nbT) = m0 + c by rw [HS2.out, hb1]; simp; try omega)
                    clear HS2
                    go_wp2_with fail
                    refine (W1.out _).mono ?_
                    rintro e w2 ⟨rfl, rfl⟩
                    go_wp2
                    go_roundg (gk - 1)
                    case measure => omega
                    case rel => exact ⟨i + 1, by omega, by omega, by first | rfl | go_num, by rw [HS'.out], HR3, HB3⟩
                · have HS' := hid (show m0 + cL (fun i => wk (wd i).toNat) false a kk ((D.take (i + 1)).map nbT) = m0 + c by rw [HS.out, if_neg (fun h => h2 (by rw [HKK.out]; exact h.2)), Int.add_zero])
                  clear HS
                  go_wp2
                  go_roundg (gk - 1)
                  case measure => omega
                  case rel => exact ⟨i + 1, by omega, by omega, by first | rfl | go_num, by rw [HS'.out], HR3, HB3⟩
              · have HS' := hid (show m0 + cL (fun i => wk (wd i).toNat) false a kk ((D.take (i + 1)).map nbT) = m0 + c by rw [HS.out, if_neg (fun h => h1 h.1), Int.add_zero])
                clear HS
                go_wp2
                go_roundg (gk - 1)
                case measure => omega
                case rel => exact ⟨i + 1, by omega, by omega, by first | rfl | go_num, by rw [HS'.out], HR3, HB3⟩
            · have hlt' : ¬ (i : Int) < (D.length : Int) := by omega
              have hil : i = D.length := by omega
              rw [hil, List.take_length] at hcl ⊢
              generalize hm1 : m0 + cL (fun i => wk (wd i).toNat) false a kk (D.map nbT) = m1 at *
              have hmb1 : -1000 ≤ m1 ∧ m1 ≤ 4001000 := by omega
              clear hm1 hcl
              have c8 := HR2.out.facts.1.2.2.2.2.2.2.2.2
              go_wp2_with fail
              clear c7 c8 HQ hlt' hil hmm hi hlt hmb hc
              obtain ⟨ao2, cc2, rfl, hc2, hn2, hcell2⟩ := H2.out
              have HQ := hid hcell2
              clear hcell2 hn2
              go_loopg [7, 14] E.length (fun g s7 s14 wr => ∃ i : Nat, i ≤ E.length ∧ E.length - i ≤ g ∧ s14 = .int .i64 (i : Int) ∧ s7 = .int .i64 (m1 + cL (fun i => wk (wd i).toNat) true a kk ((E.take i).map nbT)) ∧ Hid (RZ wr w.heap.size wk _ _) ∧ Hid (Below w.heap.size w wr))
              case atStart => exact ⟨0, Nat.zero_le _, by omega, rfl, by simp only [List.take_zero, List.map_nil, cL, Int.add_zero], HR2, HB2⟩
              case round =>
                obtain ⟨i, hi, hmm, rfl, rfl, HR4, HB4⟩ := hrel
                clear HR2 HB2
                have c8 := HR4.out.facts.1.2.2.2.2.2.2.2.2
                have hcl := cL_bound (fun i => wk (wd i).toNat) true a kk ((E.take i).map nbT)
                rw [List.length_map, List.length_take] at hcl
                by_cases hlt : i < E.length
                · have hlt' : (i : Int) < (E.length : Int) := by omega
                  obtain ⟨g, off, ha', hq⟩ := HQ.out i hlt
                  subst ha'
                  have r0 : wr.cell? ⟨g, off + i * 3, none⟩ = some (.int .i64 E[i].1) := below_cells HB4.out _ _ (hq 0 _ rfl)
                  have r1 : wr.cell? ⟨g, off + i * 3 + 1, none⟩ = some (.int .i64 E[i].2.1) := below_cells HB4.out _ _ (hq 1 _ rfl)
                  have r2 : wr.cell? ⟨g, off + i * 3 + 2, none⟩ = some (.int .i64 E[i].2.2) := below_cells HB4.out _ _ (hq 2 _ rfl)
                  have hvd : VD E[i].1 E[i].2.1 E[i].2.2 := (RO2.out.2 i hlt hlt).1
                  have N1 := hid (fun w => refNumber_any E[i].1 E[i].2.1 E[i].2.2 hvd w)
                  have hn1 : nb E[i].1 E[i].2.1 E[i].2.2 = nbT E[i] := rfl
                  rw [hn1] at N1
                  have HS := hid (cL_take (fun i => wk (wd i).toNat) true a kk E i hlt)
                  generalize nbT E[i] = kn at *
                  generalize E[i].1 = y at *
                  generalize E[i].2.1 = mo at *
                  generalize E[i].2.2 = d at *
                  generalize cL (fun i => wk (wd i).toNat) true a kk ((E.take i).map nbT) = c at *
                  unfold dV at N1
                  clear hq hvd hn1
                  go_wp2_with fail
                  refine (N1.out _).mono ?_
                  rintro e w1 ⟨rfl, hb1⟩
                  have HR3 := hid (HR4.out.later hb1)
                  have HB3 := hid (HB4.out.trans (hb1.mono HB4.out.size))
                  clear hb1 HR4 HB4 r0 r1 r2 c8
                  by_cases h1 : a ≤ kn
                  · by_cases h2 : kn < b
                    · have W1 := hid (WE.out kn (by omega) (by omega))
                      have hwl := wd_lt kn
                      obtain ⟨x, hx, hx7⟩ : ∃ x : Nat, wd kn = (x : Int) ∧ x < 7 := ⟨(wd kn).toNat, by omega, by omega⟩
                      have hxn : (wd kn).toNat = x := by omega
                      rw [hx] at W1
                      have cw := HR3.out.wcell x hx7
                      have hkk : kn < a + (kk : Int) := by rw [← HKK.out]; exact h2
                      have HS2 := hid (show m1 + cL (fun i => wk (wd i).toNat) true a kk ((E.take (i + 1)).map nbT) = m1 + c + ((if true then 1 else 0) - (if wk x then 1 else 0)) by rw [HS.out, if_pos ⟨h1, hkk⟩, hxn, Int.add_assoc]; simp only [if_true])
                      clear HS hwl hx hxn hkk
                      cases hb1 : wk x with
                      | true =>
                        rw [hb1] at cw
                        have HS' := hid (show m1 + cL (fun i => wk (wd i).toNat) true a kk ((E.take (i + 1)).map nbT) = m1 + c by rw [HS2.out, hb1]; simp; try omega)
                        clear HS2
                        go_wp2_with fail
                        refine (W1.out _).mono ?_
                        rintro e w2 ⟨rfl, rfl⟩
                        go_wp2
                        go_roundg (gk - 1)
                        case measure => omega
                        case rel => exact ⟨i + 1, by omega, by omega, by first | rfl | go_num, by rw [HS'.out], HR3, HB3⟩
                      | false =>
                        rw [hb1] at cw
                        have HS' := hid (show m1 + cL (fun i => wk (wd i).toNat) true a kk ((E.take (i + 1)).map nbT) = m1 + c + 1 by rw [HS2.out, hb1]; simp; try omega)
                        clear HS2
                        go_wp2_with fail
                        refine (W1.out _).mono ?_
                        rintro e w2 ⟨rfl, rfl⟩
                        go_wp2
                        go_roundg (gk - 1)
                        case measure => omega
                        case rel => exact ⟨i + 1, by omega, by omega, by first | rfl | go_num, by rw [HS'.out], HR3, HB3⟩
                    · have HS' := hid (show m1 + cL (fun i => wk (wd i).toNat) true a kk ((E.take (i + 1)).map nbT) = m1 + c by rw [HS.out, if_neg (fun h => h2 (by rw [HKK.out]; exact h.2)), Int.add_zero])
                      clear HS
                      go_wp2
                      go_roundg (gk - 1)
                      case measure => omega
                      case rel => exact ⟨i + 1, by omega, by omega, by first | rfl | go_num, by rw [HS'.out], HR3, HB3⟩
                  · have HS' := hid (show m1 + cL (fun i => wk (wd i).toNat) true a kk ((E.take (i + 1)).map nbT) = m1 + c by rw [HS.out, if_neg (fun h => h1 h.1), Int.add_zero])
                    clear HS
                    go_wp2
                    go_roundg (gk - 1)
                    case measure => omega
                    case rel => exact ⟨i + 1, by omega, by omega, by first | rfl | go_num, by rw [HS'.out], HR3, HB3⟩
                · have hlt' : ¬ (i : Int) < (E.length : Int) := by omega
                  have hil : i = E.length := by omega
                  rw [hil, List.take_length, HRR.out]
                  go_wp2
                  go_ret
                  exact ⟨rfl, HB4.out⟩
end Go.Proofs.YtipgmiblphfboaaDoor
