/-
  gtin.Day.
-/
import Derived.Test.YtcenlpfanikdnaaDoorIsDay
import Derived.Test.YtcenlpfanikdnaaDoorRefAmount
namespace Go.Proofs.YtcenlpfanikdnaaDoor
open Go.RowKit
set_option maxRecDepth 100000
attribute [local go_sem ↓] Go.wp_at_zero Go.wp_at_succ

/-- an element says a day -/
def DayFine (a v : List UInt8) (now : Int) : Prop := kfind a = some 3 ∧ v.length = 6 ∧ AllD v ∧ DayOk (yy v) (mm v) (dd v) ∧ 100 ≤ now ∧ now ≤ 9900

/-- the year -/
def yr (now : Int) (y : Nat) : Int := (now - 49) + (((y : Int) + 100 - (now - 49) % 100) % 100)

def badDay : Value := .tuple #[.int .i64 0, .int .i64 0, .int .i64 0, .bool false]
def goodDay (now : Int) (v : List UInt8) : Value := .tuple #[.int .i64 (yr now (yy v)), .int .i64 (mm v : Nat), .int .i64 (dd v : Nat), .bool true]

theorem fltE_zeroq {least most : Nat} {q : Int} {l : List UInt8} : fltE least most dF q l = 0 ↔ least ≤ l.length ∧ l.length ≤ most ∧ AllD l ∧ q = 0 := by
  unfold fltE
  constructor
  · intro h
    split at h
    · cases h
    · split at h
      · cases h
      · split at h
        · next h3 => exact absurd h h3
        · next h1 h2 h3 => exact ⟨by omega, by omega, (byF_zero l).1 (Decidable.not_not.1 h3), h⟩
  · rintro ⟨h1, h2, h3, h4⟩
    rw [if_neg (by omega), if_neg (by omega), if_neg (by rw [(byF_zero l).2 h3]; simp), h4]

/-- a day's fault -/
def dyE (v : List UInt8) : Int := fltE 6 6 dF (if DayOk (yy v) (mm v) (dd v) then 0 else 28) v

theorem dyE_zero (v : List UInt8) : dyE v = 0 ↔ v.length = 6 ∧ AllD v ∧ DayOk (yy v) (mm v) (dd v) := by
  unfold dyE
  rw [fltE_zeroq]
  constructor
  · rintro ⟨h1, h2, h3, h4⟩
    refine ⟨by omega, h3, ?_⟩
    by_cases h : DayOk (yy v) (mm v) (dd v)
    · exact h
    · rw [if_neg h] at h4; cases h4
  · rintro ⟨h1, h2, h3⟩
    exact ⟨by omega, by omega, h2, if_pos h3⟩

theorem faultDD_since (v : ByteArray) (hv : v.size ≤ 9223372036854775807) (w1 w : World) (h : Later w1 w) :
    Calls Tryd.prog 28 #[frmOf 3, .string v] w fun e w' => e = .returned (.int .i64 (dyE v.data.toList)) ∧ Later w1 w' := by
  rw [show frmOf 3 = frm 6 6 true 48 46 from rfl]
  refine (faultDD 6 6 true v w hv _ 0 (by omega) (fun h1 h2 _ w => dayFault_any v w (by omega))).mono ?_
  rintro e w' ⟨rfl, hb⟩
  exact ⟨rfl, h.trans (hb.mono h.size)⟩

set_option maxHeartbeats 4000000 in
theorem day_any (a v : ByteArray) (now : Int) (w : World) (hkn : HasKn w) (hv : v.size ≤ 9223372036854775807) :
    Calls Tryd.prog 13 #[.agg #[.string a, .string v], .int .i64 now] w fun e w' => (¬ DayFine a.data.toList v.data.toList now ∧ e = .returned badDay ∨ DayFine a.data.toList v.data.toList now ∧ e = .returned (goodDay now v.data.toList)) ∧ Below w.heap.size w w' := by
  have HK : Hid (∀ w, HasKn w → Calls Tryd.prog 26 #[.string a] w fun e w' => e = .returned (kofV a.data.toList) ∧ Below w.heap.size w w') := fun w h => kindOf_any a w h
  have HK1 : Hid (_) := hkn.below ((Below.refl w.heap.size w).alloc (Nat.le_refl _) (.cells #[.string a, .string v] 34))
  clear hkn
  unfold kofV at HK
  cases hf : kfind a.data.toList with
  | none =>
    have HN : Hid (_) := (show ¬ DayFine a.data.toList v.data.toList now by rintro ⟨h, _⟩; rw [hf] at h; cases h)
    rw [hf] at HK
    simp only [Option.getD_none, Option.isSome_none] at HK
    clear hf hv
    go_enter Tryd.func13, Tryd.ntmps13
    go_wp2_with fail
    refine (HK.out _ HK1.out).mono ?_
    rintro e w1 ⟨rfl, hb1⟩
    obtain ⟨_, _, hB, _⟩ := box_cells w w1 a v hb1
    clear hb1
    go_wp2_with fail
    go_quiet (fail)
    go_wp2
    go_returns
    exact ⟨.inl ⟨HN.out, rfl⟩, below_drewN hB nq⟩
  | some k =>
    rw [hf] at HK
    simp only [Option.getD_some, Option.isSome_some] at HK
    by_cases h3 : k = 3
    · subst h3
      have HF : Hid (_) := fun w1 w hw => faultDD_since v hv w1 w hw
      have HO : Hid (_) := fun w1 w hw => formOf_since 3 (by omega) (by omega) w1 w hw
      have hl := len_list v
      generalize hfo : frmOf 3 = fo at HF HO
      clear hfo
      by_cases hq : dyE v.data.toList = 0
      · rw [hq] at HF
        obtain ⟨q1, q2, q3⟩ := (dyE_zero _).1 hq
        by_cases h100 : now < 100
        · have HN : Hid (_) := (show ¬ DayFine a.data.toList v.data.toList now by rintro ⟨_, _, _, _, h, _⟩; omega)
          have b1 : decide (now < 100) = true := decide_eq_true h100
          clear hf hv hl hq q1 q2 q3
          go_enter Tryd.func13, Tryd.ntmps13
          go_wp2_with fail
          refine (HK.out _ HK1.out).mono ?_
          rintro e w1 ⟨rfl, hb1⟩
          obtain ⟨_, c1, hB, _⟩ := box_cells w w1 a v hb1
          clear hb1
          have cc := later_cell c1
          have s0 : Later w1 w1.drew := (Below.refl _ _).drew
          have s00 : Later w1 w1 := Below.refl _ _
          clear c1
          go_upto_region 2 with fail
          go_cut [39] from 18 to 39 (fun s wx => s = .bool true ∧ Below w1.heap.size w1 wx)
          case first =>
            first | go_region_held (fun wx => Later w1 wx ∧ wx.cell? ⟨w.heap.size, 1, none⟩ = some (.string v)) (exact ⟨by assumption, cc _ (by assumption)⟩) (first
              | (go_at_call 27; refine (HO.out w1 _ (by assumption)).mono ?_; rintro e w2 ⟨rfl, s2⟩)
              | (go_at_call 28; refine (HF.out w1 _ (by assumption)).mono ?_; rintro e w3 ⟨rfl, s3⟩)) | fail
            all_goals (go_wp2_with fail; go_meet; exact ⟨rfl, s3⟩)
          case rest =>
            obtain ⟨rfl, hbc⟩ := hcut
            go_wp2
            go_returns
            exact ⟨.inl ⟨HN.out, rfl⟩, hB.trans (hbc.mono hB.size)⟩
        · have b1 : decide (now < 100) = false := decide_eq_false h100
          by_cases h99 : 9900 < now
          · have HN : Hid (_) := (show ¬ DayFine a.data.toList v.data.toList now by rintro ⟨_, _, _, _, _, h⟩; omega)
            have b2 : decide (9900 < now) = true := decide_eq_true h99
            clear hf hv hl hq q1 q2 q3
            go_enter Tryd.func13, Tryd.ntmps13
            go_wp2_with fail
            refine (HK.out _ HK1.out).mono ?_
            rintro e w1 ⟨rfl, hb1⟩
            obtain ⟨_, c1, hB, _⟩ := box_cells w w1 a v hb1
            clear hb1
            have cc := later_cell c1
            have s0 : Later w1 w1.drew := (Below.refl _ _).drew
            have s00 : Later w1 w1 := Below.refl _ _
            clear c1
            go_upto_region 2 with fail
            go_cut [39] from 18 to 39 (fun s wx => s = .bool true ∧ Below w1.heap.size w1 wx)
            case first =>
              first | go_region_held (fun wx => Later w1 wx ∧ wx.cell? ⟨w.heap.size, 1, none⟩ = some (.string v)) (exact ⟨by assumption, cc _ (by assumption)⟩) (first
                | (go_at_call 27; refine (HO.out w1 _ (by assumption)).mono ?_; rintro e w2 ⟨rfl, s2⟩)
                | (go_at_call 28; refine (HF.out w1 _ (by assumption)).mono ?_; rintro e w3 ⟨rfl, s3⟩)) | fail
              all_goals (go_wp2_with fail; go_meet; exact ⟨rfl, s3⟩)
            case rest =>
              obtain ⟨rfl, hbc⟩ := hcut
              go_wp2
              go_returns
              exact ⟨.inl ⟨HN.out, rfl⟩, hB.trans (hbc.mono hB.size)⟩
          · have HN : Hid (_) := (show DayFine a.data.toList v.data.toList now from ⟨hf, q1, q2, q3, by omega, by omega⟩)
            have b2 : decide (9900 < now) = false := decide_eq_false h99
            have h6 : v.size = 6 := by omega
            obtain ⟨e1, e2, e3, s1, s2, s3⟩ := day_parts v h6
            have N1 : Hid (∀ w, Calls Tryd.prog 29 #[.string (v.extract 0 2)] w fun e w' => e = .returned (.int .i64 (yy v.data.toList : Nat)) ∧ w' = w) := fun w => by
              have := number_any (v.extract 0 2) w (by omega)
              rw [e1] at this
              exact this
            have N2 : Hid (∀ w, Calls Tryd.prog 29 #[.string (v.extract 2 4)] w fun e w' => e = .returned (.int .i64 (mm v.data.toList : Nat)) ∧ w' = w) := fun w => by
              have := number_any (v.extract 2 4) w (by omega)
              rw [e2] at this
              exact this
            have N3 : Hid (∀ w, Calls Tryd.prog 29 #[.string (v.extract 4 6)] w fun e w' => e = .returned (.int .i64 (dd v.data.toList : Nat)) ∧ w' = w) := fun w => by
              have := number_any (v.extract 4 6) w (by omega)
              rw [e3] at this
              exact this
            have hyb : yy v.data.toList ≤ 2805 := nm_two_le _ (by rw [List.length_take]; omega)
            unfold goodDay
            generalize yy v.data.toList = y at N1 hyb
            generalize mm v.data.toList = m at N2
            generalize dd v.data.toList = d at N3
            have v2 : 2 ≤ v.size := by omega
            have v4 : 4 ≤ v.size := by omega
            have n1 : 100 ≤ now := by omega
            have n2 : now ≤ 9900 := by omega
            clear e1 e2 e3 s1 s2 s3 hf hv hl hq q1 q2 q3 h100 h99
            go_enter Tryd.func13, Tryd.ntmps13
            go_wp2_with fail
            refine (HK.out _ HK1.out).mono ?_
            rintro e w1 ⟨rfl, hb1⟩
            obtain ⟨_, c1, hB, _⟩ := box_cells w w1 a v hb1
            clear hb1
            have cc := later_cell c1
            have s0 : Later w1 w1.drew := (Below.refl _ _).drew
            have s00 : Later w1 w1 := Below.refl _ _
            clear c1
            go_upto_region 2 with fail
            go_cut [39] from 18 to 39 (fun s wx => s = .bool false ∧ Below w1.heap.size w1 wx)
            case first =>
              first | go_region_held (fun wx => Later w1 wx ∧ wx.cell? ⟨w.heap.size, 1, none⟩ = some (.string v)) (exact ⟨by assumption, cc _ (by assumption)⟩) (first
                | (go_at_call 27; refine (HO.out w1 _ (by assumption)).mono ?_; rintro e w2 ⟨rfl, s2⟩)
                | (go_at_call 28; refine (HF.out w1 _ (by assumption)).mono ?_; rintro e w3 ⟨rfl, s3⟩)) | fail
              all_goals (go_wp2_with fail; go_meet; exact ⟨rfl, s3⟩)
            case rest =>
              obtain ⟨rfl, hbc⟩ := hcut
              have d1 := cc wc hbc
              have hBc := hB.trans (hbc.mono hB.size)
              clear cc hbc hB s0 s00
              have hr1 : Int.tmod (now - 49) 100 = (now - 49) % 100 := Int.tmod_eq_emod_of_nonneg (by omega)
              go_wp2_with fail
              refine (N1.out wc).mono ?_
              rintro e w4 ⟨rfl, rfl⟩
              go_wp2_with fail
              go_quiet (first
                | (go_at_call_of 29 (v.extract 2 4); exact Calls.quiet_of_same (N2.out _))
                | (go_at_call 29; exact Calls.quiet_of_same (N3.out _)))
              go_wp2
              go_returns
              refine ⟨.inr ⟨HN.out, ?_⟩, below_drewN hBc nq⟩
              have hyr : now - 49 + ((y : Int) + 100 - (now - 49)) % 100 = yr now y := by unfold yr; omega
              rw [← hyr]
      · have HN : Hid (_) := (show ¬ DayFine a.data.toList v.data.toList now by rintro ⟨_, h1, h2, h3, _⟩; exact hq ((dyE_zero _).2 ⟨h1, h2, h3⟩))
        have hqb : (dyE v.data.toList != 0) = true := by simpa using hq
        generalize dyE v.data.toList = q at HF hqb
        clear hf hv hl hq
        go_enter Tryd.func13, Tryd.ntmps13
        go_wp2_with fail
        refine (HK.out _ HK1.out).mono ?_
        rintro e w1 ⟨rfl, hb1⟩
        obtain ⟨_, c1, hB, _⟩ := box_cells w w1 a v hb1
        clear hb1
        have cc := later_cell c1
        have s0 : Later w1 w1.drew := (Below.refl _ _).drew
        have s00 : Later w1 w1 := Below.refl _ _
        clear c1
        go_upto_region 2 with fail
        go_cut [39] from 18 to 39 (fun s wx => s = .bool true ∧ Below w1.heap.size w1 wx)
        case first =>
          first | go_region_held (fun wx => Later w1 wx ∧ wx.cell? ⟨w.heap.size, 1, none⟩ = some (.string v)) (exact ⟨by assumption, cc _ (by assumption)⟩) (first
            | (go_at_call 27; refine (HO.out w1 _ (by assumption)).mono ?_; rintro e w2 ⟨rfl, s2⟩)
            | (go_at_call 28; refine (HF.out w1 _ (by assumption)).mono ?_; rintro e w3 ⟨rfl, s3⟩)) | fail
          all_goals (go_wp2_with fail; go_meet; exact ⟨rfl, s3⟩)
        case rest =>
          obtain ⟨rfl, hbc⟩ := hcut
          go_wp2
          go_returns
          exact ⟨.inl ⟨HN.out, rfl⟩, hB.trans (hbc.mono hB.size)⟩
    · have HN : Hid (_) := (show ¬ DayFine a.data.toList v.data.toList now by rintro ⟨h, _⟩; rw [hf] at h; exact h3 (Option.some.inj h))
      have n3 : (k != 3) = true := by simpa using h3
      clear hf hv h3
      go_enter Tryd.func13, Tryd.ntmps13
      go_wp2_with fail
      refine (HK.out _ HK1.out).mono ?_
      rintro e w1 ⟨rfl, hb1⟩
      obtain ⟨_, _, hB, _⟩ := box_cells w w1 a v hb1
      clear hb1
      go_wp2_with fail
      go_quiet (fail)
      go_wp2
      go_returns
      exact ⟨.inl ⟨HN.out, rfl⟩, below_drewN hB nq⟩
end Go.Proofs.YtcenlpfanikdnaaDoor
