/-
  The program's own weeks: weekday, weekStart, yearWeeks, weekOf, WeekOf; the statements' own at.
-/
import Derived.Test.YtjpglgemnaknhaaGreatDoorCof
namespace Go.Proofs.YtjpglgemnaknhaaGreatDoor
open Go.RowKit
set_option maxRecDepth 100000

/-- a week lies in block b -/
def WBox (w : World) (b : Nat) (y m d : Int) : Prop := w.heap[b]? = some (.cells #[.int .i64 y, .int .i64 m, .int .i64 d] 69 (0, 0))
theorem WBox.facts {w : World} {b : Nat} {y m d : Int} (h : WBox w b y m d) :
    w.cell? ⟨b, 0, none⟩ = some (.int .i64 y) ∧ w.cell? ⟨b, 1, none⟩ = some (.int .i64 m) ∧ w.cell? ⟨b, 2, none⟩ = some (.int .i64 d) ∧
    w.frozen? ⟨b, 0, none⟩ = false ∧ w.frozen? ⟨b, 1, none⟩ = false ∧ w.frozen? ⟨b, 2, none⟩ = false ∧ b < w.heap.size :=
  ⟨by rw [Lib.cell_of_heap h]; rfl, by rw [Lib.cell_of_heap h]; rfl, by rw [Lib.cell_of_heap h]; rfl, Lib.frozen_of_heap h 0, Lib.frozen_of_heap h 1, Lib.frozen_of_heap h 2, (Array.getElem?_eq_some_iff.1 h).1⟩
theorem WBox.later {w w' : World} {b : Nat} {y m d : Int} (h : WBox w b y m d) (hb : Below w.heap.size w w') : WBox w' b y m d := (hb.block b h.facts.2.2.2.2.2.2).trans h
theorem WBox.new (w : World) (y m d : Int) : WBox (w.alloc (.cells #[.int .i64 y, .int .i64 m, .int .i64 d] 69)) w.heap.size y m d := heap_alloc_new _ _
theorem WBox.put {w : World} {b : Nat} {y m d : Int} (h : WBox w b y m d) (y' m' d' : Int) :
    WBox (((w.setCell ⟨b, 0, none⟩ (.int .i64 y')).setCell ⟨b, 1, none⟩ (.int .i64 m')).setCell ⟨b, 2, none⟩ (.int .i64 d')) b y' m' d' :=
  Lib.heap_setCell_same (Lib.heap_setCell_same (Lib.heap_setCell_same h _) _) _

/-- the table still lies there, and nothing older than w0 has turned -/
def St (w0 w : World) : Prop := HasAh w ∧ Below w0.heap.size w0 w
theorem St.refl {w : World} (h : HasAh w) : St w w := ⟨h, Below.refl _ _⟩
theorem St.alloc {w0 w : World} (h : St w0 w) (o : _) : St w0 (w.alloc o) := ⟨h.1.alloc o, h.2.alloc h.2.size o⟩
theorem St.call {w0 w w' : World} (h : St w0 w) (hb : Below w.heap.size w w') : St w0 w' := ⟨h.1.below hb, h.2.trans (hb.mono h.2.size)⟩
theorem Box.later1 {w w' : World} {b : Nat} {y m d : Int} {o : _} (h : Box w b y m d) (hb : Below (w.alloc o).heap.size (w.alloc o) w') : Box w' b y m d := (h.later ((Below.refl _ _).alloc (Nat.le_refl _) _)).later hb
theorem WBox.later1 {w w' : World} {b : Nat} {y m d : Int} {o : _} (h : WBox w b y m d) (hb : Below (w.alloc o).heap.size (w.alloc o) w') : WBox w' b y m d := (h.later ((Below.refl _ _).alloc (Nat.le_refl _) _)).later hb
theorem Box.later2 {w w' : World} {b : Nat} {y m d : Int} {o o' : _} (h : Box w b y m d) (hb : Below ((w.alloc o).alloc o').heap.size ((w.alloc o).alloc o') w') : Box w' b y m d := (h.later ((Below.refl _ _).alloc (Nat.le_refl _) _)).later1 hb

theorem weekday_any (n : Int) (h1 : -1000 ≤ n) (h2 : n ≤ 4000000) (w : World) :
    Calls Tryz.prog 94 #[.int .i64 n] w fun e w' => e = .returned (.int .i64 (wd n)) ∧ w' = w := by
  obtain ⟨r, hr, hr1, hr2, hwd⟩ : ∃ r : Int, n.tmod 7 = r ∧ -7 < r ∧ r < 7 ∧ wd n = (r + 7 + 5) % 7 := by
    by_cases h0 : 0 ≤ n
    · exact ⟨_, Int.tmod_eq_emod_of_nonneg h0, by omega, by omega, by unfold wd; omega⟩
    · refine ⟨-((-n) % 7), ?_, by omega, by omega, by unfold wd; omega⟩
      have : n = -(-n) := by omega
      rw [this, Int.neg_tmod, Int.tmod_eq_emod_of_nonneg (by omega), Int.neg_neg]
  have hq : (r + 7 + 5).tmod 7 = (r + 7 + 5) % 7 := Int.tmod_eq_emod_of_nonneg (by omega)
  have hb : 0 ≤ (r + 7 + 5) % 7 ∧ (r + 7 + 5) % 7 < 7 := by omega
  rw [hwd]
  clear hwd
  go_enter Tryz.func94, Tryz.ntmps94
  go_wp2
  go_ret
  exact ⟨by first | rfl | exact ret_int (by omega), rfl⟩

theorem weekStart_any (y : Int) (h1 : -1 ≤ y) (h2 : y ≤ 10000) (w : World) :
    Calls Tryz.prog 72 #[.int .i64 y] w fun e w' => e = .returned (.int .i64 (wkS y)) ∧ w' = w := by
  have HY := hid (yearStart_any y h1 h2 w)
  have hyb := ys_bounds y (by omega) (by omega)
  have hs : wkS y = ys y + 3 - wd (ys y + 3) := rfl
  have HD := hid (fun w => weekday_any (ys y + 3) (by omega) (by omega) w)
  have hw := wd_lt (ys y + 3)
  rw [hs]
  clear hs
  generalize wd (ys y + 3) = b at *
  generalize ys y = a at *
  go_enter Tryz.func72, Tryz.ntmps72
  go_wp2_with fail
  refine Calls.mono HY.out ?_
  rintro e w' ⟨rfl, rfl⟩
  go_wp2_with fail
  refine (HD.out _).mono ?_
  rintro e w' ⟨rfl, rfl⟩
  go_wp2
  go_ret
  exact ⟨rfl, rfl⟩

theorem yearWeeks_any (y : Int) (h1 : -1 ≤ y) (h2 : y ≤ 9999) (w : World) :
    Calls Tryz.prog 47 #[.int .i64 y] w fun e w' => e = .returned (.int .i64 (wkN y)) ∧ w' = w := by
  have H1 := hid (fun w => weekStart_any (y + 1) (by omega) (by omega) w)
  have H2 := hid (fun w => weekStart_any y (by omega) (by omega) w)
  have hn := wkN_is y
  have ha := wkS_near y
  have hb := ys_bounds y (by omega) (by omega)
  have hs : wkN y = (wkS (y + 1) - wkS y) / 7 := rfl
  have hq : (wkS (y + 1) - wkS y).tdiv 7 = (wkS (y + 1) - wkS y) / 7 := Int.tdiv_eq_ediv_of_nonneg (by omega)
  rw [← hs] at hq
  have hbb : -1000 ≤ wkS y ∧ wkS y ≤ 4000000 := by omega
  have hbc : -1000 ≤ wkS (y + 1) ∧ wkS (y + 1) ≤ 4000000 := by omega
  have hbd : 52 ≤ wkN y ∧ wkN y ≤ 53 := by omega
  clear hs hn ha hb
  generalize wkN y = c at *
  generalize wkS (y + 1) = a at *
  generalize wkS y = b at *
  go_enter Tryz.func47, Tryz.ntmps47
  go_wp2_with fail
  refine (H1.out _).mono ?_
  rintro e w' ⟨rfl, rfl⟩
  go_wp2_with fail
  refine (H2.out _).mono ?_
  rintro e w' ⟨rfl, rfl⟩
  go_wp2
  go_ret
  exact ⟨rfl, rfl⟩

/-- the week's number -/
def wkW (y n : Int) : Int := (thu n - ys (wkY y n)) / 7 + 1

set_option maxHeartbeats 1000000 in
theorem weekOf_any (y m d : Int) (h : VD y m d) (w : World) (hA : HasAh w) :
    Calls Tryz.prog 70 #[dV y m d] w fun e w' => e = .returned (dV (wkY y (nb y m d)) (wkW y (nb y m d)) (wd (nb y m d) + 1)) ∧ Below w.heap.size w w' := by
  have hny := nb_year y m d h
  have hnr := nb_range y m d h
  have HN := hid (fun w hA => numberOf_any y m d h w hA)
  have hy : 0 ≤ y ∧ y ≤ 9999 := ⟨h.1, h.2.1⟩
  have HA := hid hA
  clear h hA
  generalize hnn : nb y m d = n at *
  clear hnn
  have HD := hid (fun w => weekday_any n (by omega) (by omega) w)
  have hwd := wd_lt n
  have ht : n - wd n + 3 = thu n := rfl
  have hW : wkW y n = (thu n - ys (wkY y n)) / 7 + 1 := rfl
  have his := wkY_is y n hny.1 hny.2
  have hwy : wkY y n = if thu n < ys y then y - 1 else if ys (y + 1) ≤ thu n then y + 1 else y := rfl
  have H0 := hid (fun w => yearStart_any y (by omega) (by omega) w)
  have H1 := hid (fun w => yearStart_any (y + 1) (by omega) (by omega) w)
  have Hm := hid (fun w => yearStart_any (y - 1) (by omega) (by omega) w)
  have hb0 := ys_bounds y (by omega) (by omega)
  have hb1 := ys_bounds (y + 1) (by omega) (by omega)
  have hbm := ys_bounds (y - 1) (by omega) (by omega)
  have htb : -10 ≤ thu n ∧ thu n ≤ 3652430 := by omega
  rw [hW]
  clear hW
  have hq : (thu n - ys (wkY y n)).tdiv 7 = (thu n - ys (wkY y n)) / 7 := Int.tdiv_eq_ediv_of_nonneg (by omega)
  have hqb : 0 ≤ (thu n - ys (wkY y n)) / 7 ∧ (thu n - ys (wkY y n)) / 7 ≤ 3652430 := by
    have hnear : -800 ≤ ys (wkY y n) := by
      rw [hwy]
      repeat' split
      all_goals omega
    omega
  clear his hny
  unfold dV at *
  generalize thu n = t at *
  generalize wd n = v at *
  by_cases c1 : t < ys y
  · rw [if_pos c1] at hwy
    rw [hwy] at hq hqb ⊢
    generalize ys y = a at *
    generalize ys (y - 1) = b at *
    clear hwy H1 hb1
    go_enter Tryz.func70, Tryz.ntmps70
    go_wp2_with fail
    refine (HN.out _ ((HA.out.alloc _).alloc _)).mono ?_
    rintro e w1 ⟨rfl, hb1⟩
    have hx1 : Box w1 w.heap.size y m d := ((Box.new w y m d).later ((Below.refl _ _).alloc (Nat.le_refl _) (.cells #[.int .i64 0, .int .i64 0, .int .i64 0] 69))).later hb1
    have hy1 : WBox w1 (w.heap.size + 1) 0 0 0 := by have h := (WBox.new (w.alloc (.cells #[.int .i64 y, .int .i64 m, .int .i64 d] 28)) 0 0 0).later hb1; simpa using h
    have hB1 : Below w.heap.size w w1 := (((Below.refl _ _).alloc (Nat.le_refl _) _).alloc (by simp) _).trans (hb1.mono (by simp; omega))
    obtain ⟨c0, _, _, _, _, _, _⟩ := hx1.facts
    obtain ⟨e0, e1, e2, f0, f1, f2, ez⟩ := hy1.facts
    have HP := hid hy1
    clear hb1 hx1 hy1 HN
    go_wp2_with fail
    refine (HD.out _).mono ?_
    rintro e w' ⟨rfl, rfl⟩
    go_wp2_with fail
    refine (H0.out _).mono ?_
    rintro e w' ⟨rfl, rfl⟩
    go_wp2_with fail
    refine (Hm.out _).mono ?_
    rintro e w' ⟨rfl, rfl⟩
    go_wp2_with fail
    refine (HD.out _).mono ?_
    rintro e w' ⟨rfl, rfl⟩
    obtain ⟨g0, g1, g2, _⟩ := (HP.out.put (y - 1) ((t - b) / 7 + 1) (v + 1)).facts
    go_wp2
    refine bodyPost_ret (by simp [results, Tryz.results70, go_sem, g0, g1, g2]; try rfl) rfl ?_
    exact ⟨rfl, ((hB1.setCell (by simp) _).setCell (by simp) _).setCell (by simp) _⟩
  · rw [if_neg c1] at hwy
    by_cases c2 : ys (y + 1) ≤ t
    · rw [if_pos c2] at hwy
      rw [hwy] at hq hqb ⊢
      generalize ys y = a at *
      generalize ys (y + 1) = b at *
      clear hwy Hm hbm
      go_enter Tryz.func70, Tryz.ntmps70
      go_wp2_with fail
      refine (HN.out _ ((HA.out.alloc _).alloc _)).mono ?_
      rintro e w1 ⟨rfl, hb1⟩
      have hx1 : Box w1 w.heap.size y m d := ((Box.new w y m d).later ((Below.refl _ _).alloc (Nat.le_refl _) (.cells #[.int .i64 0, .int .i64 0, .int .i64 0] 69))).later hb1
      have hy1 : WBox w1 (w.heap.size + 1) 0 0 0 := by have h := (WBox.new (w.alloc (.cells #[.int .i64 y, .int .i64 m, .int .i64 d] 28)) 0 0 0).later hb1; simpa using h
      have hB1 : Below w.heap.size w w1 := (((Below.refl _ _).alloc (Nat.le_refl _) _).alloc (by simp) _).trans (hb1.mono (by simp; omega))
      obtain ⟨c0, _, _, _, _, _, _⟩ := hx1.facts
      obtain ⟨e0, e1, e2, f0, f1, f2, ez⟩ := hy1.facts
      have HP := hid hy1
      clear hb1 hx1 hy1 HN
      go_wp2_with fail
      refine (HD.out _).mono ?_
      rintro e w' ⟨rfl, rfl⟩
      go_wp2_with fail
      refine (H0.out _).mono ?_
      rintro e w' ⟨rfl, rfl⟩
      go_wp2_with fail
      refine (H1.out _).mono ?_
      rintro e w' ⟨rfl, rfl⟩
      go_wp2_with fail
      refine (H1.out _).mono ?_
      rintro e w' ⟨rfl, rfl⟩
      go_wp2_with fail
      refine (HD.out _).mono ?_
      rintro e w' ⟨rfl, rfl⟩
      obtain ⟨g0, g1, g2, _⟩ := (HP.out.put (y + 1) ((t - b) / 7 + 1) (v + 1)).facts
      go_wp2
      refine bodyPost_ret (by simp [results, Tryz.results70, go_sem, g0, g1, g2]; try rfl) rfl ?_
      exact ⟨rfl, ((hB1.setCell (by simp) _).setCell (by simp) _).setCell (by simp) _⟩
    · rw [if_neg c2] at hwy
      rw [hwy] at hq hqb ⊢
      generalize ys y = a at *
      generalize ys (y + 1) = b at *
      clear hwy Hm hbm
      go_enter Tryz.func70, Tryz.ntmps70
      go_wp2_with fail
      refine (HN.out _ ((HA.out.alloc _).alloc _)).mono ?_
      rintro e w1 ⟨rfl, hb1⟩
      have hx1 : Box w1 w.heap.size y m d := ((Box.new w y m d).later ((Below.refl _ _).alloc (Nat.le_refl _) (.cells #[.int .i64 0, .int .i64 0, .int .i64 0] 69))).later hb1
      have hy1 : WBox w1 (w.heap.size + 1) 0 0 0 := by have h := (WBox.new (w.alloc (.cells #[.int .i64 y, .int .i64 m, .int .i64 d] 28)) 0 0 0).later hb1; simpa using h
      have hB1 : Below w.heap.size w w1 := (((Below.refl _ _).alloc (Nat.le_refl _) _).alloc (by simp) _).trans (hb1.mono (by simp; omega))
      obtain ⟨c0, _, _, _, _, _, _⟩ := hx1.facts
      obtain ⟨e0, e1, e2, f0, f1, f2, ez⟩ := hy1.facts
      have HP := hid hy1
      clear hb1 hx1 hy1 HN
      go_wp2_with fail
      refine (HD.out _).mono ?_
      rintro e w' ⟨rfl, rfl⟩
      go_wp2_with fail
      refine (H0.out _).mono ?_
      rintro e w' ⟨rfl, rfl⟩
      go_wp2_with fail
      refine (H1.out _).mono ?_
      rintro e w' ⟨rfl, rfl⟩
      go_wp2_with fail
      refine (H0.out _).mono ?_
      rintro e w' ⟨rfl, rfl⟩
      go_wp2_with fail
      refine (HD.out _).mono ?_
      rintro e w' ⟨rfl, rfl⟩
      obtain ⟨g0, g1, g2, _⟩ := (HP.out.put y ((t - a) / 7 + 1) (v + 1)).facts
      go_wp2
      refine bodyPost_ret (by simp [results, Tryz.results70, go_sem, g0, g1, g2]; try rfl) rfl ?_
      exact ⟨rfl, ((hB1.setCell (by simp) _).setCell (by simp) _).setCell (by simp) _⟩

/-- what WeekOf answers -/
def weekV (y m d : Int) : Value := if VD y m d then .tuple #[dV (wkY y (nb y m d)) (wkW y (nb y m d)) (wd (nb y m d) + 1), .int .i64 0] else .tuple #[dV 0 0 0, .int .i64 30]

theorem at_any (n : Int) (hx : -9223372036854775808 ≤ n ∧ n ≤ 9223372036854775807) (w : World) (hA : HasAh w) :
    Calls Tryz.prog 5 #[.int .i64 n] w fun e w' => e = .returned (dV (dY (wi n 0 3652424)) (dM (wi n 0 3652424)) (dD (wi n 0 3652424))) ∧ Below w.heap.size w w' := by
  have HA := hid hA
  have HW := hid (fun w => within_any n 0 3652424 hx (by omega) (by omega) (by omega) w)
  have hk := wi_in n 0 3652424 (by omega)
  generalize wi n 0 3652424 = k at *
  have HO := hid (fun w h => of_good k hk.1 hk.2 w h)
  clear hA hx
  generalize dY k = y at *
  generalize dM k = m at *
  generalize dD k = d at *
  unfold dV at *
  go_enter Tryz.func5, Tryz.ntmps5
  go_wp2_with fail
  refine (HW.out _).mono ?_
  rintro e w' ⟨rfl, rfl⟩
  go_wp2_with fail
  refine (HO.out _ (HA.out.alloc _)).mono ?_
  rintro e w1 ⟨rfl, hb1⟩
  obtain ⟨k0, k1, k2, hB, hz⟩ := date_cells w w1 _ _ _ hb1
  have hbx : Box w1 w.heap.size 0 0 0 := (Box.new w 0 0 0).later hb1
  obtain ⟨_, _, _, f0, f1, f2, _⟩ := hbx.facts
  obtain ⟨d0, d1, d2, _⟩ := ((hbx.put y m d).later ((Below.refl _ _).alloc (Nat.le_refl _) (.cells #[.int .i64 y, .int .i64 m, .int .i64 d] 28))).facts
  have hne2 : ¬ w.heap.size = w1.heap.size := by omega
  clear hb1 HO hbx
  go_wp2
  refine bodyPost_ret (by simp [results, Tryz.results5, go_sem, d0, d1, d2]; try rfl) rfl ?_
  exact ⟨rfl, by first
    | exact (((hB.alloc hB.size _).setCell (Nat.le_refl _) _).setCell (Nat.le_refl _) _).setCell (Nat.le_refl _) _
    | exact (((hB.setCell (Nat.le_refl _) _).setCell (Nat.le_refl _) _).setCell (Nat.le_refl _) _).alloc (by simpa using hB.size) _⟩
end Go.Proofs.YtjpglgemnaknhaaGreatDoor
