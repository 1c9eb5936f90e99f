/-
  CalWalk: the law's own walk, out of the contracts.
-/
import Derived.Test.YtmndpeknebjmiaaDoorRDay
namespace Go.Proofs.YtmndpeknebjmiaaDoor
open Go.RowKit
set_option maxRecDepth 100000

theorem wk_big {n : Nat} (h : n ≤ 3652425) : wkK n 1073741824 = n := by
  unfold wkK
  rw [if_neg (by omega)]
  omega

/-- the numbers of a walk there and back -/
theorem walk_nums (lo hi s : Int) (h0 : 0 ≤ lo) (h1 : lo ≤ hi) (h2 : hi ≤ 3652424) (hs : 1 ≤ s) : ∃ M : Nat, (hi - lo).tdiv s = (M : Int) ∧ (M : Int) * s ≤ hi - lo ∧ 0 ≤ (M : Int) * s ∧ (M : Int) ≤ 3652424 ∧
    cnE lo hi s = M + 1 ∧ cnE (lo + (M : Int) * s) lo (-s) = M + 1 := by
  have hd : 0 ≤ (hi - lo) / s := Int.ediv_nonneg (by omega) (by omega)
  obtain ⟨M, hM⟩ := Int.eq_ofNat_of_zero_le hd
  have hm := Int.ediv_mul_le (hi - lo) (show s ≠ 0 by omega)
  rw [hM] at hm
  have hp : 0 ≤ (M : Int) * s := Int.mul_nonneg (by omega) (by omega)
  have hle : (M : Int) * 1 ≤ (M : Int) * s := Int.mul_le_mul_of_nonneg_left hs (by omega)
  refine ⟨M, ?_, hm, hp, by omega, ?_, ?_⟩
  · rw [Int.tdiv_eq_ediv_of_nonneg (by omega)]; exact hM
  · unfold cnE
    rw [if_pos (by omega), if_pos h1, hM]
    omega
  · unfold cnE
    rw [if_neg (by omega), if_pos (by omega), if_pos (by omega)]
    have e : lo + (M : Int) * s - lo = (M : Int) * s := by omega
    rw [e, Int.neg_neg, Int.mul_ediv_cancel _ (by omega)]
    omega
theorem walk_none (lo hi s : Int) (h1 : lo ≤ hi) (hs : 1 ≤ s) : wkK (cnE hi lo s) 5 = if lo = hi then 1 else 0 := by
  unfold cnE wkK
  rw [if_neg (show ¬ (5 : Int) < 1 by omega), if_pos (show 0 < s by omega)]
  by_cases e : lo = hi
  · subst e
    simp
  · rw [if_neg (show ¬ hi ≤ lo by omega), if_neg e]
    rfl

/-- the same since w1 -/
def LaterB (w1 w : World) : Prop := Below w1.heap.size w1 w
/-- nothing older has turned; the table is there -/
def Su1 (w0 w : World) : Prop := HasAh w ∧ Below w0.heap.size w0 w
theorem Su1.call {w0 w w' : World} (h : Su1 w0 w) (hb : Below w.heap.size w w') : Su1 w0 w' := ⟨h.1.below hb, h.2.trans (hb.mono h.2.size)⟩

set_option maxHeartbeats 4000000 in
theorem walk_any (a b st : Int) (ha : -9223372036854775808 ≤ a ∧ a ≤ 9223372036854775807) (hb : -9223372036854775808 ≤ b ∧ b ≤ 9223372036854775807) (hst : -9223372036854775808 ≤ st ∧ st ≤ 9223372036854775807) (w : World) (hA : HasAh w) :
    Calls Tryd.prog 3 #[.int .i64 a, .int .i64 b, .int .i64 st] w fun e w' => e = .returned (.bool true) ∧ Below w.heap.size w w' := by
  have W1 := hid (fun w => within_any a 0 3652424 ha (by omega) (by omega) (by omega) w)
  have W2 := hid (fun w => within_any b 0 3652424 hb (by omega) (by omega) (by omega) w)
  have W3 := hid (fun w => within_any st 1 4000 hst (by omega) (by omega) (by omega) w)
  have i1 := wi_in a 0 3652424 (by omega)
  have i2 := wi_in b 0 3652424 (by omega)
  have i3 := wi_in st 1 4000 (by omega)
  generalize wi a 0 3652424 = A at *
  generalize wi b 0 3652424 = B at *
  generalize wi st 1 4000 = s0 at *
  have S0 := hid (show Su1 w w from ⟨hA, Below.refl _ _⟩)
  clear ha hb hst hA
  obtain ⟨lo, hi, hlh, hl0, hh1, hc⟩ : ∃ lo hi : Int, lo ≤ hi ∧ 0 ≤ lo ∧ hi ≤ 3652424 ∧ ((B < A ∧ lo = B ∧ hi = A) ∨ (A ≤ B ∧ lo = A ∧ hi = B)) := by
    by_cases h : B < A
    · exact ⟨B, A, by omega, by omega, by omega, .inl ⟨h, rfl, rfl⟩⟩
    · exact ⟨A, B, by omega, by omega, by omega, .inr ⟨by omega, rfl, rfl⟩⟩
  have hq : (hi - lo).tdiv 20000 = (hi - lo) / 20000 := Int.tdiv_eq_ediv_of_nonneg (by omega)
  have hq1 : 0 ≤ (hi - lo) / 20000 ∧ (hi - lo) / 20000 ≤ 182 := by omega
  generalize (hi - lo) / 20000 = q at *
  obtain ⟨s, hs⟩ : ∃ s, s0 + q = s := ⟨_, rfl⟩
  have hs1 : 1 ≤ s ∧ s ≤ 4182 := by omega
  obtain ⟨M, hM1, hM2, hM3, hM4, hM5, hM6⟩ := walk_nums lo hi s hl0 hlh hh1 hs1.1
  have hno := walk_none lo hi s hlh hs1.1
  have U1 := hid (fun w h => walked_dt lo hi s 1073741824 (M + 1) ⟨hl0, by omega⟩ ⟨by omega, hh1⟩ (by omega) (by rw [hM5]; exact wk_big (by omega)) w h)
  have U2 := hid (fun w h => walked_dt (lo + (M : Int) * s) lo (-s) 1073741824 (M + 1) ⟨by omega, by omega⟩ ⟨hl0, by omega⟩ (by omega) (by rw [hM6]; exact wk_big (by omega)) w h)
  have U3 := hid (fun w h => walked_dt hi lo s 5 _ ⟨by omega, hh1⟩ ⟨hl0, by omega⟩ (by omega) hno w h)
  have T1 := hid (fun w h => at_good lo hl0 (by omega) w h)
  have T2 := hid (fun w h => at_good hi (by omega) hh1 w h)
  have T3 := hid (fun w h => at_good (lo + (M : Int) * s) (by omega) (by omega) w h)
  have TK := hid (fun (k : Nat) (hk : k ≤ M) w h => at_good (lo + (k : Int) * s) (by have := Int.mul_nonneg (show 0 ≤ (k : Int) by omega) (show 0 ≤ s by omega); omega)
    (by have := Int.mul_le_mul_of_nonneg_right (show (k : Int) ≤ M by omega) (show 0 ≤ s by omega); omega) w h)
  have HKM := hid (fun (k : Nat) (hk : k ≤ M) => show 0 ≤ (k : Int) * s ∧ (k : Int) * s ≤ 3652424 from ⟨Int.mul_nonneg (by omega) (by omega), by have := Int.mul_le_mul_of_nonneg_right (show (k : Int) ≤ M by omega) (show 0 ≤ s by omega); omega⟩)
  have HKN := hid (fun (k : Nat) (hk : k ≤ M) => show lo + (M : Int) * s + (k : Int) * (-s) = lo + ((M - k : Nat) : Int) * s from by
    rw [Int.ofNat_sub hk, Int.sub_mul, Int.mul_neg]; omega)
  clear hM5 hM6 hno
  obtain ⟨T, hT⟩ : ∃ T : Int, (M : Int) * s = T := ⟨_, rfl⟩
  rw [hT] at hM2 hM3 U2 T3 HKN
  obtain ⟨La, hLa⟩ : ∃ La : Int, lo + T = La := ⟨_, rfl⟩
  rw [hLa] at U2 T3 HKN
  obtain ⟨hq0, hq1⟩ := hq1
  obtain ⟨i30, i31⟩ := i3
  obtain ⟨hs1, hs2⟩ := hs1
  clear i1 i2
  unfold dV at *
  rcases hc with ⟨hc, rfl, rfl⟩ | ⟨hc, rfl, rfl⟩
  all_goals
    go_enter Tryd.func3, Tryd.ntmps3
    go_wp2_with fail
    refine (W1.out _).mono ?_
    rintro e w1 ⟨rfl, rfl⟩
    go_wp2_with fail
    refine (W2.out _).mono ?_
    rintro e w1 ⟨rfl, rfl⟩
    go_wp2_with fail
    refine (W3.out _).mono ?_
    rintro e w1 ⟨rfl, rfl⟩
    clear W1 W2 W3
    go_wp2_with fail
    refine (T1.out _ S0.out.1).mono ?_
    rintro e w2 ⟨rfl, hb2⟩
    have S2 := hid (S0.out.call hb2)
    clear hb2
    go_wp2_with fail
    refine (T2.out _ S2.out.1).mono ?_
    rintro e w3 ⟨rfl, hb3⟩
    have S3 := hid (S2.out.call hb3)
    clear hb3 S2
    go_wp2_with fail
    refine (U1.out _ S3.out.1).mono ?_
    rintro e w4 ⟨⟨v, rfl, hv⟩, hb4⟩
    have S4 := hid (S3.out.call hb4)
    clear hb4 S3
    rcases hv with ⟨h0, _⟩ | ⟨g, cap, rfl, hcap, hcell⟩
    · omega
    go_wp2_with fail
    have HC := hid hcell
    clear hcell
    go_loopw [13] (fun i wr => ∃ k : Nat, i = .int .i64 (k : Int) ∧ k ≤ M + 1 ∧ Su1 w1 wr ∧ Below w4.heap.size w4 wr) (fun i _ => M + 1 - (intOf i).toNat)
    case atStart => exact ⟨0, rfl, by omega, S4.out, Below.refl _ _⟩
    case round =>
      obtain ⟨k, rfl, hk, hS, hB⟩ := hrel
      have HS := hid hS
      have HB := hid hB
      clear hS hB
      by_cases hlt : k < M + 1
      · have c := HC.out k hlt
        have c0 := cell_old c.1 HB.out
        have c1 := cell_old c.2.1 HB.out
        have c2 := cell_old c.2.2 HB.out
        clear c
        obtain ⟨p, hp⟩ : ∃ p, (k : Int) * s = p := ⟨_, rfl⟩
        have hpb := HKM.out k (by omega)
        have TKk := hid (TK.out k (by omega))
        have hpl : lo + p ≤ 3652424 := by
          have := Int.mul_le_mul_of_nonneg_right (show (k : Int) ≤ M by omega) (show 0 ≤ s by omega)
          omega
        rw [hp] at hpb TKk c0 c1 c2
        have r1 : IntKind.i64.wrap p = p := by rw [IntKind.wrap_i64]; omega
        have r2 : IntKind.i64.wrap (lo + p) = lo + p := by rw [IntKind.wrap_i64]; omega
        obtain ⟨z, hz⟩ : ∃ z, lo + p = z := ⟨_, rfl⟩
        rw [hz] at r2 TKk c0 c1 c2
        generalize dY z = y1 at *
        generalize dM z = m1 at *
        generalize dD z = d1 at *
        have CC := hid (fun wx (h : LaterB wr wx) => And.intro (cell_old c0 h) (And.intro (cell_old c1 h) (cell_old c2 h)))
        have sd : LaterB wr wr.drew := (Below.refl _ _).drew
        have HAd := hid (HS.out.1.below ((Below.refl _ _).drew))
        go_wp2_with fail
        first | go_region_held (fun wx => wx.cell? ⟨g, k * 3, none⟩ = some (.int .i64 y1) ∧ wx.cell? ⟨g, k * 3 + 1, none⟩ = some (.int .i64 m1) ∧ wx.cell? ⟨g, k * 3 + 2, none⟩ = some (.int .i64 d1)) (first | exact CC.out _ (by assumption) | go_keep) (first
          | (go_at_call 9; refine (TKk.out _ HAd.out).mono ?_; rintro e w5 ⟨rfl, hb5⟩; have s5 : LaterB wr w5 := Below.trans sd hb5; obtain ⟨e0, e1, e2⟩ := CC.out _ s5)) | fail
        have HS5 := hid (HS.out.call s5)
        have HB5 := hid (HB.out.trans (Below.mono s5 HB.out.size))
        clear e0 e1 e2 c0 c1 c2 r1 r2 CC TKk
        go_wp2
        go_roundw
        case rel => exact ⟨k + 1, by go_num, by omega, HS5.out, HB5.out⟩
        case measure => simp [intOf]; omega
      · clear TK HKM
        go_wp2_with fail
        refine (T3.out _ HS.out.1).mono ?_
        rintro e w6 ⟨rfl, hb6⟩
        have S6 := hid (HS.out.call hb6)
        have B6 := hid (HB.out.trans (hb6.mono HB.out.size))
        clear hb6 HS HB S4 U1 T3
        go_wp2_with fail
        refine (T1.out _ S6.out.1).mono ?_
        rintro e w7 ⟨rfl, hb7⟩
        have S7 := hid (S6.out.call hb7)
        have B7 := hid (B6.out.trans (hb7.mono B6.out.size))
        clear hb7 S6 B6
        go_wp2_with fail
        refine (U2.out _ S7.out.1).mono ?_
        rintro e w8 ⟨⟨v2, rfl, hv2⟩, hb8⟩
        have S8 := hid (S7.out.call hb8)
        have B8 := hid (B7.out.trans (hb8.mono B7.out.size))
        clear hb8 S7 B7 U2
        rcases hv2 with ⟨h0, _⟩ | ⟨g2, cap2, rfl, hcap2, hcell2⟩
        · omega
        have HD := hid hcell2
        clear hcell2
        go_wp2_with fail
        go_loopw [16] (fun i wr => ∃ k : Nat, i = .int .i64 (k : Int) ∧ k ≤ M + 1 ∧ Su1 w1 wr ∧ Below w4.heap.size w4 wr ∧ Below w8.heap.size w8 wr) (fun i _ => M + 1 - (intOf i).toNat)
        case atStart => exact ⟨0, rfl, by omega, S8.out, B8.out, Below.refl _ _⟩
        case round =>
          obtain ⟨j, rfl, hj, hS, hB, hB8⟩ := hrel
          have HS := hid hS
          have HB := hid hB
          have HB8 := hid hB8
          clear hS hB hB8 S8 B8
          by_cases hlt2 : j < M + 1
          · obtain ⟨r, hr, hrM⟩ : ∃ r : Nat, (M : Int) - (j : Int) = (r : Int) ∧ r = M - j := ⟨M - j, by omega, rfl⟩
            have c := HC.out r (by omega)
            have d := HD.out j hlt2
            have hk2 := HKN.out j (by omega)
            rw [← hrM] at hk2
            simp only [hk2] at d
            have c0 := cell_old c.1 HB.out
            have c1 := cell_old c.2.1 HB.out
            have c2 := cell_old c.2.2 HB.out
            have d0 := cell_old d.1 HB8.out
            have d1 := cell_old d.2.1 HB8.out
            have d2 := cell_old d.2.2 HB8.out
            have hrl : r < M + 1 := by omega
            clear c d hk2 hrM
            generalize lo + (r : Int) * s = z at *
            generalize dY z = y1 at *
            generalize dM z = m1 at *
            generalize dD z = dd1 at *
            go_wp2_with fail
            go_quiet (fail)
            have HSd := hid (HS.out.call (below_drewN (Below.refl _ _) nq))
            have HBd := hid (HB.out.trans (below_drewN (Below.refl _ _) nq))
            have HB8d := hid (HB8.out.trans (below_drewN (Below.refl _ _) nq))
            clear c0 c1 c2 d0 d1 d2
            go_wp2
            go_roundw
            case rel => exact ⟨j + 1, by go_num, by omega, HSd.out, HBd.out, HB8d.out⟩
            case measure => simp [intOf]; omega
          · go_wp2_with fail
            refine (T2.out _ HS.out.1).mono ?_
            rintro e w9 ⟨rfl, hb9⟩
            have S9 := hid (HS.out.call hb9)
            clear hb9 HS HB HB8
            go_wp2_with fail
            refine (T1.out _ S9.out.1).mono ?_
            rintro e w10 ⟨rfl, hb10⟩
            have S10 := hid (S9.out.call hb10)
            clear hb10 S9
            go_wp2_with fail
            refine (U3.out _ S10.out.1).mono ?_
            rintro e w11 ⟨⟨v3, rfl, hv3⟩, hb11⟩
            have S11 := hid (S10.out.call hb11)
            clear hb11 S10
            by_cases he : lo = hi
            · rw [if_pos he] at hv3
              rcases hv3 with ⟨h0, _⟩ | ⟨g3, cap3, rfl, hcap3, _⟩
              · omega
              have hbe : (lo == hi) = true := by simpa using he
              have HE := hid he
              clear he
              go_wp2
              go_ret
              exact ⟨rfl, S11.out.2⟩
            · rw [if_neg he] at hv3
              have hbe : (lo == hi) = false := by simpa using he
              obtain ⟨ao, cap3, rfl⟩ : ∃ ao cap3, v3 = .slice ao 0 cap3 := by
                rcases hv3 with ⟨_, ao, c, h⟩ | ⟨g3, c, h, _⟩
                · exact ⟨ao, c, h⟩
                · exact ⟨_, c, h⟩
              clear hv3 he
              go_wp2
              go_ret
              exact ⟨rfl, S11.out.2⟩
end Go.Proofs.YtmndpeknebjmiaaDoor
