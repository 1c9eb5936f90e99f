/-
  Days: the document's isDay; gtin.Day; larderref02.Day; GtinDays' own walk.
-/
import Derived.Test.YtjmpkogjilefnaaDoorDay
namespace Go.Proofs.YtjmpkogjilefnaaDoor
open Go.RowKit
set_option maxRecDepth 100000
attribute [local go_sem ↓] Go.wp_at_zero Go.wp_at_succ

set_option maxHeartbeats 4000000 in
theorem isDay_any (v : ByteArray) (w : World) (h : v.size = 6) :
    Calls Tryd.prog 37 #[.string v] w fun e w' => e = .returned (.bool (decide (DayOk (yy v.data.toList) (mm v.data.toList) (dd v.data.toList)))) ∧ Below w.heap.size w w' := by
  obtain ⟨e1, e2, e3, s1, s2, s3⟩ := day_parts v h
  have T1 : Hid (∀ w, Calls Tryd.prog 59 #[.string (v.extract 0 2)] w fun e w' => e = .returned (.int .i64 (yy v.data.toList : Nat)) ∧ Below w.heap.size w w') := fun w => by
    have := two_any (v.extract 0 2) w s1
    rw [e1] at this
    exact this.mono (by rintro e w' ⟨rfl, hn⟩; exact ⟨rfl, below_of_drewN hn⟩)
  have T2 : Hid (∀ w, Calls Tryd.prog 59 #[.string (v.extract 2 4)] w fun e w' => e = .returned (.int .i64 (mm v.data.toList : Nat)) ∧ Below w.heap.size w w') := fun w => by
    have := two_any (v.extract 2 4) w s2
    rw [e2] at this
    exact this.mono (by rintro e w' ⟨rfl, hn⟩; exact ⟨rfl, below_of_drewN hn⟩)
  have T3 : Hid (∀ w, Calls Tryd.prog 59 #[.string (v.extract 4 6)] w fun e w' => e = .returned (.int .i64 (dd v.data.toList : Nat)) ∧ Below w.heap.size w w') := fun w => by
    have := two_any (v.extract 4 6) w s3
    rw [e3] at this
    exact this.mono (by rintro e w' ⟨rfl, hn⟩; exact ⟨rfl, below_of_drewN hn⟩)
  have v2 : 2 ≤ v.size := by omega
  have v4 : 4 ≤ v.size := by omega
  generalize yy v.data.toList = y at T1
  generalize mm v.data.toList = m at T2
  generalize dd v.data.toList = d at T3
  clear e1 e2 e3 s1 s2 s3
  by_cases hm2 : m = 2
  · subst hm2
    by_cases hy : y % 4 = 0
    · have hyb : ((y : Int) % 4 == 0) = true := by simp; omega
      have hld : lastD y 2 = 29 := by unfold lastD; rw [if_pos rfl, if_pos hy]
      have hdo : DayOk y 2 d ↔ d ≤ 29 := by rw [dayOk_iff, hld]; omega
      have HD : Hid (_) := hdo
      clear hdo hld hy
      by_cases hd : d ≤ 29
      · have hdI : (d : Int) ≤ 29 := by omega
        go_enter Tryd.func37, Tryd.ntmps37
        go_wp2_with fail
        refine (T2.out w).mono ?_
        rintro e w1 ⟨rfl, hb1⟩
        have hz1 := hb1.size
        go_wp2_with fail
        refine (T1.out w1).mono ?_
        rintro e w2 ⟨rfl, hb2⟩
        have hz2 := hb2.size
        go_wp2_with fail
        refine (T3.out w2).mono ?_
        rintro e w3 ⟨rfl, hb3⟩
        go_wp2
        go_ret
        exact ⟨ret_bool (by rw [decide_eq_true (HD.out.2 hd)] <;> (simp <;> omega)), (hb1.trans (hb2.mono hz1)).trans (hb3.mono (by omega))⟩
      · have hdI : ¬ (d : Int) ≤ 29 := by omega
        go_enter Tryd.func37, Tryd.ntmps37
        go_wp2_with fail
        refine (T2.out w).mono ?_
        rintro e w1 ⟨rfl, hb1⟩
        have hz1 := hb1.size
        go_wp2_with fail
        refine (T1.out w1).mono ?_
        rintro e w2 ⟨rfl, hb2⟩
        have hz2 := hb2.size
        go_wp2_with fail
        refine (T3.out w2).mono ?_
        rintro e w3 ⟨rfl, hb3⟩
        go_wp2
        go_ret
        exact ⟨ret_bool (by rw [decide_eq_false (fun x => hd (HD.out.1 x))] <;> (simp <;> omega)), (hb1.trans (hb2.mono hz1)).trans (hb3.mono (by omega))⟩
    · have hyb : ((y : Int) % 4 == 0) = false := by simp; omega
      have hld : lastD y 2 = 28 := by unfold lastD; rw [if_pos rfl, if_neg hy]
      have hdo : DayOk y 2 d ↔ d ≤ 28 := by rw [dayOk_iff, hld]; omega
      have HD : Hid (_) := hdo
      clear hdo hld hy
      by_cases hd : d ≤ 28
      · have hdI : (d : Int) ≤ 28 := by omega
        go_enter Tryd.func37, Tryd.ntmps37
        go_wp2_with fail
        refine (T2.out w).mono ?_
        rintro e w1 ⟨rfl, hb1⟩
        have hz1 := hb1.size
        go_wp2_with fail
        refine (T1.out w1).mono ?_
        rintro e w2 ⟨rfl, hb2⟩
        have hz2 := hb2.size
        go_wp2_with fail
        refine (T3.out w2).mono ?_
        rintro e w3 ⟨rfl, hb3⟩
        go_wp2
        go_ret
        exact ⟨ret_bool (by rw [decide_eq_true (HD.out.2 hd)] <;> (simp <;> omega)), (hb1.trans (hb2.mono hz1)).trans (hb3.mono (by omega))⟩
      · have hdI : ¬ (d : Int) ≤ 28 := by omega
        go_enter Tryd.func37, Tryd.ntmps37
        go_wp2_with fail
        refine (T2.out w).mono ?_
        rintro e w1 ⟨rfl, hb1⟩
        have hz1 := hb1.size
        go_wp2_with fail
        refine (T1.out w1).mono ?_
        rintro e w2 ⟨rfl, hb2⟩
        have hz2 := hb2.size
        go_wp2_with fail
        refine (T3.out w2).mono ?_
        rintro e w3 ⟨rfl, hb3⟩
        go_wp2
        go_ret
        exact ⟨ret_bool (by rw [decide_eq_false (fun x => hd (HD.out.1 x))] <;> (simp <;> omega)), (hb1.trans (hb2.mono hz1)).trans (hb3.mono (by omega))⟩
  · have b2 : ((m : Int) == 2) = false := by simp; omega
    by_cases h4 : m = 4 ∨ m = 6 ∨ m = 9 ∨ m = 11
    · have hld : lastD y m = 30 := by unfold lastD; rw [if_neg hm2, if_pos h4]
      have hdo : DayOk y m d ↔ d ≤ 30 := by rw [dayOk_iff, hld]; omega
      clear hld hm2 b2
      rcases h4 with rfl | rfl | rfl | rfl
      all_goals
        have HD : Hid (_) := hdo
        clear hdo
        by_cases hd : d ≤ 30
        · have hdI : (d : Int) ≤ 30 := by omega
          go_enter Tryd.func37, Tryd.ntmps37
          go_wp2_with fail
          refine (T2.out w).mono ?_
          rintro e w1 ⟨rfl, hb1⟩
          have hz1 := hb1.size
          go_wp2_with fail
          refine (T3.out w1).mono ?_
          rintro e w3 ⟨rfl, hb3⟩
          go_wp2
          go_ret
          exact ⟨ret_bool (by rw [decide_eq_true (HD.out.2 hd)] <;> (simp <;> omega)), hb1.trans (hb3.mono hz1)⟩
        · have hdI : ¬ (d : Int) ≤ 30 := by omega
          go_enter Tryd.func37, Tryd.ntmps37
          go_wp2_with fail
          refine (T2.out w).mono ?_
          rintro e w1 ⟨rfl, hb1⟩
          have hz1 := hb1.size
          go_wp2_with fail
          refine (T3.out w1).mono ?_
          rintro e w3 ⟨rfl, hb3⟩
          go_wp2
          go_ret
          exact ⟨ret_bool (by rw [decide_eq_false (fun x => hd (HD.out.1 x))] <;> (simp <;> omega)), hb1.trans (hb3.mono hz1)⟩
    · have b4 : ((m : Int) == 4) = false := by simp; omega
      have b6 : ((m : Int) == 6) = false := by simp; omega
      have b9 : ((m : Int) == 9) = false := by simp; omega
      have b11 : ((m : Int) == 11) = false := by simp; omega
      have hld : lastD y m = 31 := by unfold lastD; rw [if_neg hm2, if_neg h4]
      have hdo : DayOk y m d ↔ 1 ≤ m ∧ m ≤ 12 ∧ d ≤ 31 := by rw [dayOk_iff, hld]
      have HD : Hid (_) := hdo
      clear hdo hld hm2 h4
      by_cases h1 : m < 1
      · have h1I : ¬ (1 : Int) ≤ (m : Int) := by omega
        go_enter Tryd.func37, Tryd.ntmps37
        go_wp2_with fail
        refine (T2.out w).mono ?_
        rintro e w1 ⟨rfl, hb1⟩
        have hz1 := hb1.size
        go_wp2
        go_ret
        exact ⟨ret_bool (by first | rw [decide_eq_false (fun x => by have := HD.out.1 x; omega)] | exact (Bool.eq_false_iff.2 (fun x => by have := HD.out.1 x; omega)).symm), hb1⟩
      · have h1I : (1 : Int) ≤ (m : Int) := by omega
        by_cases h12 : 12 < m
        · have h12I : ¬ (m : Int) ≤ 12 := by omega
          go_enter Tryd.func37, Tryd.ntmps37
          go_wp2_with fail
          refine (T2.out w).mono ?_
          rintro e w1 ⟨rfl, hb1⟩
          have hz1 := hb1.size
          go_wp2
          go_ret
          exact ⟨ret_bool (by first | rw [decide_eq_false (fun x => by have := HD.out.1 x; omega)] | exact (Bool.eq_false_iff.2 (fun x => by have := HD.out.1 x; omega)).symm), hb1⟩
        · have h12I : (m : Int) ≤ 12 := by omega
          by_cases hd : d ≤ 31
          · have hdI : (d : Int) ≤ 31 := by omega
            go_enter Tryd.func37, Tryd.ntmps37
            go_wp2_with fail
            refine (T2.out w).mono ?_
            rintro e w1 ⟨rfl, hb1⟩
            have hz1 := hb1.size
            go_wp2_with fail
            refine (T3.out w1).mono ?_
            rintro e w3 ⟨rfl, hb3⟩
            go_wp2
            go_ret
            exact ⟨ret_bool (by rw [decide_eq_true (HD.out.2 ⟨by omega, by omega, hd⟩)] <;> (simp <;> omega)), hb1.trans (hb3.mono hz1)⟩
          · have hdI : ¬ (d : Int) ≤ 31 := by omega
            go_enter Tryd.func37, Tryd.ntmps37
            go_wp2_with fail
            refine (T2.out w).mono ?_
            rintro e w1 ⟨rfl, hb1⟩
            have hz1 := hb1.size
            go_wp2_with fail
            refine (T3.out w1).mono ?_
            rintro e w3 ⟨rfl, hb3⟩
            go_wp2
            go_ret
            exact ⟨ret_bool (by rw [decide_eq_false (fun x => hd (HD.out.1 x).2.2)] <;> (simp <;> omega)), hb1.trans (hb3.mono hz1)⟩
end Go.Proofs.YtjmpkogjilefnaaDoor
