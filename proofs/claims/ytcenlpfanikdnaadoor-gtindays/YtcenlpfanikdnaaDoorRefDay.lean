/-
  larderref02.Day, and GtinDays' own walk.
-/
import Derived.Test.YtcenlpfanikdnaaDoorGoDay
namespace Go.Proofs.YtcenlpfanikdnaaDoor
open Go.RowKit
set_option maxRecDepth 100000
attribute [local go_sem ↓] Go.wp_at_zero Go.wp_at_succ

theorem rk_day {k : Int} (h0 : 0 ≤ k) (h1 : k ≤ 12) : (∃ p d c m, ∃ least most : Nat, rkOf k = rk p d least most c true m ∧ k = 3) ∨ (∃ p d c m, ∃ least most : Nat, rkOf k = rk p d least most c false m ∧ k ≠ 3) := by
  have hk : k = 0 ∨ k = 1 ∨ k = 2 ∨ k = 3 ∨ k = 4 ∨ k = 5 ∨ k = 6 ∨ k = 7 ∨ k = 8 ∨ k = 9 ∨ k = 10 ∨ k = 11 ∨ k = 12 := by omega
  rcases hk with rfl | rfl | rfl | rfl | rfl | rfl | rfl | rfl | rfl | rfl | rfl | rfl | rfl
  all_goals first
    | exact .inl ⟨_, _, _, _, _, _, rfl, rfl⟩
    | exact .inr ⟨_, _, _, _, _, _, rfl, by decide⟩

theorem nm_two_digits (l : List UInt8) (h : l.length = 2) (ha : AllD l) : nm l ≤ 99 := by
  rw [nm_two l h]
  have a0 := ha _ (List.getElem_mem (l := l) (n := 0) (by omega))
  have a1 := ha _ (List.getElem_mem (l := l) (n := 1) (by omega))
  rw [dv_digit _ a0, dv_digit _ a1]
  unfold IsD at a0 a1
  omega

set_option maxHeartbeats 8000000 in
theorem refDay_any (a v : ByteArray) (now : Int) (w : World) (hv : v.size ≤ 9223372036854775807) :
    Calls Tryd.prog 14 #[.agg #[.string a, .string v], .int .i64 now] w fun e w' => (¬ DayFine a.data.toList v.data.toList now ∧ e = .returned badDay ∨ DayFine a.data.toList v.data.toList now ∧ e = .returned (goodDay now v.data.toList)) ∧ Below w.heap.size w w' := by
  have hl := len_list v
  have HV : Hid (_) := hv
  have HK : Hid (∀ w, Calls Tryd.prog 30 #[.string a] w fun e w' => e = .returned (rkV a.data.toList) ∧ Below w.heap.size w w') := fun w => refKindOf_any a w
  clear hv
  unfold rkV at HK
  cases hf : kfind a.data.toList with
  | none =>
    have HN : Hid (_) := (show ¬ DayFine a.data.toList v.data.toList now by rintro ⟨h, _⟩; rw [hf] at h; cases h)
    rw [hf] at HK
    simp only [Option.getD_none, Option.isSome_none] at HK
    rw [show rkOf 13 = rk false false 0 0 false false false from rfl] at HK
    unfold rk at HK
    clear hf hl
    go_enter Tryd.func14, Tryd.ntmps14
    go_wp2_with fail
    refine (HK.out _).mono ?_
    rintro e w1 ⟨rfl, hb1⟩
    obtain ⟨_, c1, hB, _⟩ := box_cells w w1 a v hb1
    have hz := hB.size
    have d1 := alloc_cells c1
    clear hb1
    go_wp2
    go_returns
    exact ⟨.inl ⟨HN.out, rfl⟩, hB.alloc hz _⟩
  | some k =>
    have hr := kfind_range hf
    rw [hf] at HK
    simp only [Option.getD_some, Option.isSome_some] at HK
    rcases rk_day hr.1 hr.2 with ⟨p, d, c, am, least, most, hrk, h3⟩ | ⟨p, d, c, am, least, most, hrk, h3⟩
    · subst h3
      rw [hrk] at HK
      unfold rk at HK
      clear hrk hr
      by_cases h6 : v.size = 6
      · have h6b : ((v.size : Int) != 6) = false := by simp; omega
        by_cases h100 : now < 100
        · have HN : Hid (_) := (show ¬ DayFine a.data.toList v.data.toList now by rintro ⟨_, _, _, _, h, _⟩; omega)
          clear hf hl
          go_enter Tryd.func14, Tryd.ntmps14
          go_wp2_with fail
          refine (HK.out _).mono ?_
          rintro e w1 ⟨rfl, hb1⟩
          obtain ⟨_, c1, hB, _⟩ := box_cells w w1 a v hb1
          have hz := hB.size
          have d1 := alloc_cells c1
          clear hb1
          go_wp2
          go_returns
          exact ⟨.inl ⟨HN.out, rfl⟩, hB.alloc hz _⟩
        · by_cases h99 : 9900 < now
          · have HN : Hid (_) := (show ¬ DayFine a.data.toList v.data.toList now by rintro ⟨_, _, _, _, _, h⟩; omega)
            clear hf hl
            go_enter Tryd.func14, Tryd.ntmps14
            go_wp2_with fail
            refine (HK.out _).mono ?_
            rintro e w1 ⟨rfl, hb1⟩
            obtain ⟨_, c1, hB, _⟩ := box_cells w w1 a v hb1
            have hz := hB.size
            have d1 := alloc_cells c1
            clear hb1
            go_wp2
            go_returns
            exact ⟨.inl ⟨HN.out, rfl⟩, hB.alloc hz _⟩
          · have HFine : Hid (_) := (show AllD v.data.toList → DayOk (yy v.data.toList) (mm v.data.toList) (dd v.data.toList) → DayFine a.data.toList v.data.toList now from fun h1 h2 => ⟨hf, by omega, h1, h2, by omega, by omega⟩)
            have n1 : 100 ≤ now := by omega
            have n2 : now ≤ 9900 := by omega
            obtain ⟨e1, e2, e3, s1, s2, s3⟩ := day_parts v h6
            have T1 : Hid (∀ w, Calls Tryd.prog 33 #[.string (v.extract 0 2)] w fun e w' => e = .returned (.int .i64 (yy v.data.toList : Nat)) ∧ Below w.heap.size w w') := fun w => by
              have := two_any (v.extract 0 2) w s1
              rw [e1] at this
              exact this.mono (by rintro e w' ⟨rfl, hn⟩; exact ⟨rfl, below_of_drewN hn⟩)
            have T2 : Hid (∀ w, Calls Tryd.prog 33 #[.string (v.extract 2 4)] w fun e w' => e = .returned (.int .i64 (mm v.data.toList : Nat)) ∧ ∃ n, w' = w.drewN n) := fun w => by
              have := two_any (v.extract 2 4) w s2
              rw [e2] at this
              exact this
            have T3 : Hid (∀ w, Calls Tryd.prog 33 #[.string (v.extract 4 6)] w fun e w' => e = .returned (.int .i64 (dd v.data.toList : Nat)) ∧ ∃ n, w' = w.drewN n) := fun w => by
              have := two_any (v.extract 4 6) w s3
              rw [e3] at this
              exact this
            have HI : Hid (_) := fun w => isDay_any v w h6
            have HY : Hid (_) := (show AllD v.data.toList → yy v.data.toList ≤ 99 from fun h => nm_two_digits _ (by rw [List.length_take]; omega) (fun x hx => h x (List.mem_of_mem_take hx)))
            have v2 : 2 ≤ v.size := by omega
            have v4 : 4 ≤ v.size := by omega
            clear e1 e2 e3 s1 s2 s3 hf h100 h99
            go_enter Tryd.func14, Tryd.ntmps14
            go_wp2_with fail
            refine (HK.out _).mono ?_
            rintro e w1 ⟨rfl, hb1⟩
            obtain ⟨_, c1, hB, hltw⟩ := box_cells w w1 a v hb1
            have hz := hB.size
            have d1 := alloc_cells c1
            have hBA := fun ob => hB.alloc hz ob
            clear hb1
            go_wp2_with fail
            go_loop [10] (fun i => ∃ j : Nat, j ≤ 6 ∧ i = .int .i64 (j : Nat) ∧ ∀ x (hx : x < j) (hj : j ≤ 6), isDB (v[x]'(by omega)) = true) (fun i => 6 - (intOf i).toNat)
            case atStart => exact ⟨0, by omega, rfl, fun x hx => by omega⟩
            case round =>
              obtain ⟨j, hj, rfl, hall⟩ := hrel
              have HA : Hid (_) := hall
              clear hall
              by_cases hlt : j < 6
              · have hjv : j < v.size := by omega
                have hjI : (j : Int) < (v.size : Int) := by omega
                cases hd : isDB (v[j]'hjv) with
                | true =>
                  go_wp2_with (go_at_call 31; refine (refIsDigit_any _ _).mono ?_; rintro e w' ⟨rfl, rfl⟩)
                  go_round
                  case rel =>
                    refine ⟨j + 1, by omega, by go_num, fun x hx hj1 => ?_⟩
                    by_cases e : x = j
                    · subst e; exact hd
                    · exact HA.out x (by omega) (by omega)
                  case measure => simp [intOf]; omega
                | false =>
                  go_wp2_with (go_at_call 31; refine (refIsDigit_any _ _).mono ?_; rintro e w' ⟨rfl, rfl⟩)
                  go_returns
                  refine ⟨.inl ⟨fun h => ?_, rfl⟩, hBA _⟩
                  have h5 := h.2.2.1 _ (List.getElem_mem (l := v.data.toList) (n := j) (by omega))
                  rw [byte_list v j hjv, ← isDB_iff, hd] at h5
                  cases h5
              · have hj6 : j = 6 := by omega
                subst hj6
                have hall : AllD v.data.toList := by
                  intro x hx
                  obtain ⟨i, hi, rfl⟩ := List.mem_iff_getElem.1 hx
                  rw [len_list] at hi
                  rw [byte_list v i hi]
                  exact (isDB_iff _).1 (HA.out i (by omega) (Nat.le_refl _))
                have HAll : Hid (_) := hall
                have hy99 := HY.out hall
                clear hall HA
                by_cases hok : DayOk (yy v.data.toList) (mm v.data.toList) (dd v.data.toList)
                · have HN := HFine.out HAll.out hok
                  have HNN : Hid (_) := HN
                  have HI2 : Hid (∀ w, Calls Tryd.prog 32 #[.string v] w fun e w' => e = .returned (.bool true) ∧ Below w.heap.size w w') := fun w => by
                    have := HI.out w
                    rw [decide_eq_true hok] at this
                    exact this
                  clear HN HFine HI hok
                  obtain ⟨y, hy⟩ : ∃ y, y = yy v.data.toList := ⟨_, rfl⟩
                  obtain ⟨m, hm⟩ : ∃ m, m = mm v.data.toList := ⟨_, rfl⟩
                  obtain ⟨dv', hdv⟩ : ∃ d, d = dd v.data.toList := ⟨_, rfl⟩
                  rw [← hy] at T1 hy99
                  rw [← hm] at T2
                  rw [← hdv] at T3
                  have HG : Hid (_) := (show goodDay now v.data.toList = .tuple #[.int .i64 (yr now y), .int .i64 (m : Nat), .int .i64 (dv' : Nat), .bool true] by unfold goodDay; rw [hy, hm, hdv])
                  clear hy hm hdv
                  go_wp2_with fail
                  refine (HI2.out _).mono ?_
                  rintro e w2 ⟨rfl, hb2⟩
                  have d2 : w2.cell? ⟨w.heap.size, 1, none⟩ = some (.string v) := cell_old' (d1 _) hb2
                  have hB2 := (hBA _).trans (hb2.mono (hBA _).size)
                  have cc := later_cell d2
                  clear d2 hb2
                  go_wp2_with fail
                  go_loopw [11] (fun i wr => ∃ j : Nat, i = .int .i64 (now - 49 + (j : Int)) ∧ (j : Int) ≤ (((y : Int) + 100 - (now - 49) % 100) % 100) ∧ Below w2.heap.size w2 wr) (fun i _ => ((now + 100) - intOf i).toNat)
                  case atStart => exact ⟨0, by simp, by omega, Below.refl _ _⟩
                  case round =>
                    obtain ⟨j, rfl, hj, hbl⟩ := hrel
                    have d3 := cc wr hbl
                    have hz3 := hbl.size
                    have hmod : Int.tmod (now - 49 + (j : Int)) 100 = (now - 49 + (j : Int)) % 100 := Int.tmod_eq_emod_of_nonneg (by omega)
                    go_wp2_with fail
                    refine (T1.out wr).mono ?_
                    rintro e w4 ⟨rfl, hb4⟩
                    have d4 := cc w4 (hbl.trans (hb4.mono hz3))
                    by_cases hJ : (j : Int) = (((y : Int) + 100 - (now - 49) % 100) % 100)
                    · have hne : ((now - 49 + (j : Int)) % 100 != (y : Int)) = false := by simp; omega
                      go_wp2_with fail
                      go_quiet (first
                        | (go_at_call_of 33 (v.extract 2 4); refine Calls.quiet_of (T2.out _))
                        | (go_at_call 33; refine Calls.quiet_of (T3.out _)))
                      go_wp2
                      go_returns
                      refine ⟨.inr ⟨HNN.out, ?_⟩, below_drewN ((hB2.trans (hbl.mono hB2.size)).trans (hb4.mono (by have := hB2.size; omega))) nq⟩
                      have hyr : now - 49 + ((y : Int) + 100 - (now - 49)) % 100 = yr now y := by unfold yr; omega
                      rw [HG.out, ← hyr]
                    · have hne : ((now - 49 + (j : Int)) % 100 != (y : Int)) = true := by simp; omega
                      go_wp2
                      go_roundw
                      case rel => exact ⟨j + 1, by go_num, by omega, hbl.trans (hb4.mono hz3)⟩
                      case measure => simp [intOf]; omega
                · have HI2 : Hid (∀ w, Calls Tryd.prog 32 #[.string v] w fun e w' => e = .returned (.bool false) ∧ Below w.heap.size w w') := fun w => by
                    have := HI.out w
                    rw [decide_eq_false hok] at this
                    exact this
                  have HN : Hid (_) := (show ¬ DayFine a.data.toList v.data.toList now by rintro ⟨_, _, _, h, _⟩; exact hok h)
                  clear HI hok HFine
                  go_wp2_with fail
                  refine (HI2.out _).mono ?_
                  rintro e w2 ⟨rfl, hb2⟩
                  have hB2 := (hBA _).trans (hb2.mono (hBA _).size)
                  go_wp2
                  go_returns
                  exact ⟨.inl ⟨HN.out, rfl⟩, hB2⟩
      · have h6b : ((v.size : Int) != 6) = true := by simp; omega
        have HN : Hid (_) := (show ¬ DayFine a.data.toList v.data.toList now by rintro ⟨_, h, _⟩; omega)
        clear hf hl
        go_enter Tryd.func14, Tryd.ntmps14
        go_wp2_with fail
        refine (HK.out _).mono ?_
        rintro e w1 ⟨rfl, hb1⟩
        obtain ⟨_, c1, hB, _⟩ := box_cells w w1 a v hb1
        have hz := hB.size
        have d1 := alloc_cells c1
        clear hb1
        go_wp2
        go_returns
        exact ⟨.inl ⟨HN.out, rfl⟩, hB.alloc hz _⟩
    · rw [hrk] at HK
      unfold rk at HK
      have HN : Hid (_) := (show ¬ DayFine a.data.toList v.data.toList now by rintro ⟨h, _⟩; rw [hf] at h; exact h3 (Option.some.inj h))
      clear hf hl hr hrk h3
      go_enter Tryd.func14, Tryd.ntmps14
      go_wp2_with fail
      refine (HK.out _).mono ?_
      rintro e w1 ⟨rfl, hb1⟩
      obtain ⟨_, c1, hB, _⟩ := box_cells w w1 a v hb1
      have hz := hB.size
      have d1 := alloc_cells c1
      clear hb1
      go_wp2
      go_returns
      exact ⟨.inl ⟨HN.out, rfl⟩, hB.alloc hz _⟩

set_option maxHeartbeats 2000000 in
theorem days_any (a v : ByteArray) (now : Int) (w : World) (hkn : HasKn w) (hv : v.size ≤ 9223372036854775807) :
    Calls Tryd.prog 4 #[.agg #[.string a, .string v], .int .i64 now] w fun e w' => e = .returned (.bool true) ∧ Below w.heap.size w w' := by
  have hb0 := (Below.refl w.heap.size w).alloc (Nat.le_refl _) (.cells #[.string a, .string v] 34)
  have hk0 := hkn.below hb0
  obtain ⟨x, y, z, b, H1, H2⟩ : ∃ (x y z : Int) (b : Bool), Hid (Calls Tryd.prog 13 #[.agg #[.string a, .string v], .int .i64 now] (w.alloc (.cells #[.string a, .string v] 34)) fun e w' => e = .returned (.tuple #[.int .i64 x, .int .i64 y, .int .i64 z, .bool b]) ∧ Below (w.alloc (.cells #[.string a, .string v] 34)).heap.size (w.alloc (.cells #[.string a, .string v] 34)) w') ∧
      Hid (∀ w, Calls Tryd.prog 14 #[.agg #[.string a, .string v], .int .i64 now] w fun e w' => e = .returned (.tuple #[.int .i64 x, .int .i64 y, .int .i64 z, .bool b]) ∧ Below w.heap.size w w') := by
    by_cases h : DayFine a.data.toList v.data.toList now
    · refine ⟨yr now (yy v.data.toList), (mm v.data.toList : Nat), (dd v.data.toList : Nat), true, (day_any a v now _ hk0 hv).mono ?_, fun w => (refDay_any a v now w hv).mono ?_⟩
      · rintro e w' ⟨⟨hn, _⟩ | ⟨_, rfl⟩, hb⟩
        · exact absurd h hn
        · exact ⟨rfl, hb⟩
      · rintro e w' ⟨⟨hn, _⟩ | ⟨_, rfl⟩, hb⟩
        · exact absurd h hn
        · exact ⟨rfl, hb⟩
    · refine ⟨0, 0, 0, false, (day_any a v now _ hk0 hv).mono ?_, fun w => (refDay_any a v now w hv).mono ?_⟩
      · rintro e w' ⟨⟨_, rfl⟩ | ⟨hn, _⟩, hb⟩
        · exact ⟨rfl, hb⟩
        · exact absurd hn h
      · rintro e w' ⟨⟨_, rfl⟩ | ⟨hn, _⟩, hb⟩
        · exact ⟨rfl, hb⟩
        · exact absurd hn h
  clear hv hkn hk0 hb0
  go_enter Tryd.func4, Tryd.ntmps4
  go_wp2_with fail
  refine Calls.mono H1.out ?_
  rintro e w1 ⟨rfl, hb1⟩
  obtain ⟨c0, c1, hB, hlt⟩ := box_cells w w1 a v hb1
  clear hb1
  have hz := hB.size
  go_wp2_with fail
  refine (H2.out w1).mono ?_
  rintro e w2 ⟨rfl, hb2⟩
  go_wp2
  go_ret
  exact ⟨rfl, hB.trans (hb2.mono hz)⟩
end Go.Proofs.YtcenlpfanikdnaaDoor
