/-
  Ty6: Sheets: the program's readers of cents, texts, yes and no. Laid by mkty6.py.
-/
import Derived.Test.YtmgfdnccmeahjaaGreatDoorZJ
import Derived.Laws.Concat
namespace Go.Proofs.YtmgfdnccmeahjaaGreatDoor
open Go.RowKit
set_option maxRecDepth 100000
set_option linter.unusedVariables false
set_option linter.unusedSimpArgs false

set_option maxHeartbeats 400000 in
theorem cut_any (s : ByteArray) (w : World) (hs : s.size ≤ 281474976710656) :
    Calls Tryz.prog 167 #[.string s, .string ⟨#[46]⟩] w fun e w' => (∃ a b : ByteArray, e = .returned (.tuple #[.string a, .string b, .bool (s.data.toList.contains 46)]) ∧ a.data.toList = ctA s.data.toList ∧ (s.data.toList.contains 46 = true → b.data.toList = ctB s.data.toList)) ∧ Below w.heap.size w w' := by
  have HP := hid (liteCut_any s w hs)
  obtain ⟨dt, hdt⟩ : ∃ dt, s.data.toList.contains 46 = dt := ⟨_, rfl⟩
  rw [hdt] at HP ⊢
  clear hdt
  go_enter Tryz.func167, Tryz.ntmps167
  go_wp2_with fail
  refine Calls.mono HP.out ?_
  rintro e w1 ⟨⟨a, b, rfl, ha, hb⟩, hw⟩
  have HT := hid (And.intro ha (And.intro hb hw))
  clear ha hb hw
  go_wp2
  go_ret3
  exact ⟨⟨a, b, rfl, HT.out.1, HT.out.2.1⟩, HT.out.2.2⟩
theorem app_list (a b : ByteArray) : (a ++ b).data.toList = a.data.toList ++ b.data.toList := by
  have : (a ++ b).data = a.data ++ b.data := ByteArray.data_append
  rw [this, Array.toList_append]
theorem cents_no {T : List UInt8} (h : ∀ v, Lib.atoiAll (ctA (bdy T) ++ ctB (bdy T)) ≠ .ok v) : rdCents T = (15, 0, [], 0) := by
  have hi : centR T = none := by
    unfold centR
    generalize Lib.atoiAll (ctA (bdy T) ++ ctB (bdy T)) = q at h
    cases q with
    | ok v => exact absurd rfl (h v)
    | _ => rfl
  unfold rdCents; rw [hi]
theorem cents_ok {T : List UInt8} {v : Int} (h : Lib.atoiAll (ctA (bdy T) ++ ctB (bdy T)) = .ok v) : rdCents T = if wh (ctA (bdy T)) && decide ((ctB (bdy T)).length = 2) && decide (v ≤ 1000000000000000) && !(ngt T && v == 0) then (0, if ngt T then -v else v, [], 0) else (15, 0, [], 0) := by
  have hi : centR T = if wh (ctA (bdy T)) && decide ((ctB (bdy T)).length = 2) && decide (v ≤ 1000000000000000) && !(ngt T && v == 0) then some (if ngt T then -v else v) else none := by
    unfold centR; rw [h]
  unfold rdCents; rw [hi]
  generalize (wh (ctA (bdy T)) && decide ((ctB (bdy T)).length = 2) && decide (v ≤ 1000000000000000) && !(ngt T && v == 0)) = q
  cases q <;> rfl
theorem cents_ge {T : List UInt8} {v : Int} (h : Lib.atoiAll (ctA (bdy T) ++ ctB (bdy T)) = .ok v) (hw : wh (ctA (bdy T)) = true) (hl : (ctB (bdy T)).length = 2) : 0 ≤ v := by
  match hb : ctB (bdy T), hl with
  | [x, y], _ =>
    rw [hb] at h
    have := ((at_two hw v).1 h).2.1
    omega
theorem bdy_le (T : List UInt8) : (bdy T).length ≤ T.length := by unfold bdy; split <;> simp
theorem ctA_le (T : List UInt8) : (ctA T).length ≤ T.length := by
  have h := congrArg List.length (List.takeWhile_append_dropWhile (p := (· != (46 : UInt8))) (l := T))
  rw [List.length_append] at h
  unfold ctA
  omega
theorem ctB_le (T : List UInt8) : (ctB T).length ≤ T.length + 2 := by
  have h := congrArg List.length (List.takeWhile_append_dropWhile (p := (· != (46 : UInt8))) (l := T))
  rw [List.length_append] at h
  unfold ctB
  split
  · rw [List.length_tail]; omega
  · simp
set_option maxHeartbeats 4000000 in
theorem readCents_any (A : Nat → Addr) (s : ByteArray) (w : World) (hs : s.size ≤ 100000000) (hA : Sn A w) (h1 : HasEv 25 w) (h2 : HasEv 26 w) :
    Calls Tryz.prog 144 #[.string s] w fun e w' => RdP A 3 (rdCents s.data.toList) w w' e ∧ Below w.heap.size w w' := by
  obtain ⟨W, hW⟩ : ∃ W, w.alloc (.cells #[.int .i64 0, .string ⟨#[]⟩, .int .i64 0] 52) = W := ⟨_, rfl⟩
  have bW : Below w.heap.size w W := by rw [← hW]; exact (Below.refl _ _).alloc (Nat.le_refl _) _
  have xW : W.heap[w.heap.size]? = some (.cells #[.int .i64 0, .string ⟨#[]⟩, .int .i64 0] 52 (0, 0)) := by rw [← hW]; exact heap_alloc_new w _
  have HC := hid (cutP_any s W (by omega))
  have HG15 := hid (show 17 < w.heap.size from World.block_lt_of_cell? _ _ (hA.cellAt (c := 15) (by decide) (by decide)))
  have HSn := hid (hA.below bW)
  have HEs := hid (And.intro (h1.below bW) (h2.below bW))
  have HX := hid (And.intro bW xW)
  have HW := hid hW
  have HS := hid (szL s)
  clear bW xW hW h1 h2 hA
  go_enter Tryz.func144, Tryz.ntmps144
  go_wp2_with fail
  rw [HW.out]
  refine Calls.mono HC.out ?_
  rintro e w1 ⟨⟨t, rfl, ht⟩, hw⟩
  replace hw := hw.symm
  subst hw
  have HT := hid ht
  have HTs := hid (show t.data.toList.length ≤ s.size by rw [ht, ← HS.out]; exact bdy_le _)
  obtain ⟨ng, hng⟩ : ∃ ng, ngt s.data.toList = ng := ⟨_, rfl⟩
  rw [hng]
  have HN := hid hng
  have HCu := hid (cut_any t W (by have := HTs.out; rw [← szL]; omega))
  rw [ht] at HCu
  obtain ⟨dt, hdt⟩ : ∃ dt, (bdy s.data.toList).contains 46 = dt := ⟨_, rfl⟩
  rw [hdt] at HCu
  have HDt := hid hdt
  clear ht hng HC hdt
  go_wp2_with fail
  refine Calls.mono HCu.out ?_
  rintro e w2 ⟨⟨a, b, rfl, ha, hb⟩, hb2⟩
  have HAa := hid ha
  have HB2 := hid (HX.out.1.trans (hb2.mono HX.out.1.size))
  have HX2 := hid ((hb2.block _ (Array.getElem?_eq_some_iff.1 HX.out.2).1).trans HX.out.2)
  have HS2 := hid (HSn.out.below hb2)
  have HE2 := hid (And.intro (HEs.out.1.below hb2) (HEs.out.2.below hb2))
  have hp : ∃ p : ByteArray, p.data.toList = ctB (bdy s.data.toList) ∧ ((dt = true ∧ p = b) ∨ (dt = false ∧ p = ⟨#[48, 48]⟩)) := by
    cases dt with
    | true => exact ⟨b, hb rfl, .inl ⟨rfl, rfl⟩⟩
    | false => exact ⟨⟨#[48, 48]⟩, by unfold ctB; rw [HDt.out]; rfl, .inr ⟨rfl, rfl⟩⟩
  obtain ⟨p, hpl, hpc⟩ := hp
  have HPl := hid hpl
  have HAt := hid (atoi_any (a ++ p) w2 (by
    have e1 := szL (a ++ p)
    have e2 : (a ++ p).data.toList = a.data.toList ++ p.data.toList := app_list a p
    rw [e2, ha, hpl, List.length_append] at e1
    have := ctA_le (bdy s.data.toList)
    have := ctB_le (bdy s.data.toList)
    have := bdy_le s.data.toList
    have := HS.out
    omega) HE2.out.1 HE2.out.2)
  rw [app_list a p, ha, hpl] at HAt
  have HIs := hid (fun w => isWhole_any a w (by
    rw [← szL, ha]
    have := ctA_le (bdy s.data.toList)
    have := bdy_le s.data.toList
    have := HS.out
    omega))
  rw [ha] at HIs
  have hps := szL p
  rw [hpl] at hps
  have HPs := hid hps
  have hadd : ¬ (a.size + p.size > 9223372036854775807) := by
    have e1 := szL a
    have e2 := szL p
    rw [ha] at e1
    rw [hpl] at e2
    have := ctA_le (bdy s.data.toList)
    have := ctB_le (bdy s.data.toList)
    have := bdy_le s.data.toList
    have := HS.out
    omega
  clear ha hb hpl hb2 HCu hps
  obtain ⟨V, hV⟩ : ∃ V, rdCents s.data.toList = V := ⟨_, rfl⟩
  have HV := hid hV
  rcases hpc with ⟨rfl, rfl⟩ | ⟨rfl, rfl⟩
  all_goals
    go_wp2_with fail
    refine Calls.mono HAt.out ?_
    rintro e w3 ⟨hcase, hb3⟩
    have HB3 := hid (HB2.out.trans (hb3.mono HB2.out.size))
    have HX3 := hid ((hb3.block _ (Array.getElem?_eq_some_iff.1 HX2.out).1).trans HX2.out)
    have hc15 := (HS2.out.below hb3).cellAt (c := 15) (by decide) (by decide)
    rw [show gV 15 = 17 from rfl] at hc15
    have HE15 := hid (show ∀ W : World, Below w.heap.size w W → rdCents s.data.toList = (15, 0, [], 0) → RdP A 3 (rdCents s.data.toList) w W (.returned (.tuple #[cellV 0 0 ⟨#[]⟩, erV A 15])) ∧ Below w.heap.size w W from fun W hb h => ⟨by rw [h]; exact .inr (.inl ⟨.inr (.inr (.inl rfl)), rfl⟩), hb⟩)
    have HE0 := hid (show ∀ (W : World) (v : Int), Below w.heap.size w W → rdCents s.data.toList = (0, v, [], 0) → RdP A 3 (rdCents s.data.toList) w W (.returned (.tuple #[cellV 3 v ⟨#[]⟩, .nilIface])) ∧ Below w.heap.size w W from fun W v hb h => ⟨by rw [h]; exact .inl ⟨rfl, ⟨#[]⟩, rfl, rfl⟩, hb⟩)
    have hlt : 17 < w.heap.size := HG15.out
    have hne1 : ¬ (17 = w.heap.size) := by omega
    have hne2 : ¬ (w.heap.size = 17) := by omega
    have cx := Lib.cell_of_heap HX3.out
    have x0 := cx 0
    have x1 := cx 1
    have x2 := cx 2
    have fx := Lib.frozen_of_heap HX3.out
    have f0 := fx 0
    have f1 := fx 1
    have f2 := fx 2
    clear cx fx hb3 HAt
    rcases hcase with ⟨v, hv, rfl⟩ | ⟨hv, x, tt, pp, rfl⟩
    · have HI3 := hid (HIs.out w3)
      have hr := cents_ok hv
      obtain ⟨b0, hb0⟩ : ∃ b0, wh (ctA (bdy s.data.toList)) = b0 := ⟨_, rfl⟩
      rw [hb0] at HI3
      rw [hb0, HN.out] at hr
      have hcs : (b0 = false) ∨ (b0 = true ∧ (ctB (bdy s.data.toList)).length ≠ 2) ∨ (b0 = true ∧ (ctB (bdy s.data.toList)).length = 2 ∧ 1000000000000000 < v) ∨ (b0 = true ∧ (ctB (bdy s.data.toList)).length = 2 ∧ v ≤ 1000000000000000 ∧ ng = true ∧ v = 0) ∨ (b0 = true ∧ (ctB (bdy s.data.toList)).length = 2 ∧ v ≤ 1000000000000000 ∧ 0 ≤ v ∧ (ng = false)) ∨ (b0 = true ∧ (ctB (bdy s.data.toList)).length = 2 ∧ v ≤ 1000000000000000 ∧ 0 ≤ v ∧ ng = true ∧ v ≠ 0) := by
        cases b0 with
        | false => exact .inl rfl
        | true =>
          by_cases hl : (ctB (bdy s.data.toList)).length = 2
          · have hge := cents_ge hv hb0 hl
            by_cases hm : v ≤ 1000000000000000
            · cases ng with
              | false => exact .inr (.inr (.inr (.inr (.inl ⟨rfl, hl, hm, hge, rfl⟩))))
              | true =>
                by_cases hz : v = 0
                · exact .inr (.inr (.inr (.inl ⟨rfl, hl, hm, rfl, hz⟩)))
                · exact .inr (.inr (.inr (.inr (.inr ⟨rfl, hl, hm, hge, rfl, hz⟩))))
            · exact .inr (.inr (.inl ⟨rfl, hl, by omega⟩))
          · exact .inr (.inl ⟨rfl, hl⟩)
      clear hb0 hv hV
      rcases hcs with rfl | ⟨rfl, hl⟩ | ⟨rfl, hl, hm⟩ | ⟨rfl, hl, hm, rfl, rfl⟩ | ⟨rfl, hl, hm, hge, rfl⟩ | ⟨rfl, hl, hm, hge, rfl, hz⟩
      · have HR2 := hid (show rdCents s.data.toList = (15, 0, [], 0) by rw [hr]; rfl)
        clear hr
        go_wp2_with fail
        refine Calls.mono HI3.out ?_
        rintro e w4 ⟨rfl, hw⟩
        replace hw := hw.symm
        subst hw
        go_wp2_with fail
        go_region
        all_goals
          go_wp2
          exact rd_close (k := 0) (g := w.heap.size) rfl rfl (put3 HX3.out _ _ _) rfl (HE15.out _ ((below3 HB3.out (Nat.le_refl _) _ _ _).drew) HR2.out)
      · have HR2 := hid (show rdCents s.data.toList = (15, 0, [], 0) by rw [hr, decide_eq_false hl]; rfl)
        try have hlI : (( p.size : Int) != 2) = true := by rw [← HPs.out]; exact bne_iff_ne.2 (by omega)
        try exact absurd (show (ctB (bdy s.data.toList)).length = 2 from HPs.out) hl
        all_goals
          clear hr hl
          go_wp2_with fail
          refine Calls.mono HI3.out ?_
          rintro e w4 ⟨rfl, hw⟩
          replace hw := hw.symm
          subst hw
          go_wp2_with fail
          go_region
          all_goals
            go_wp2
            exact rd_close (k := 0) (g := w.heap.size) rfl rfl (put3 HX3.out _ _ _) rfl (HE15.out _ ((below3 HB3.out (Nat.le_refl _) _ _ _).drew) HR2.out)
      · have HR2 := hid (show rdCents s.data.toList = (15, 0, [], 0) by rw [hr, decide_eq_true hl, decide_eq_false (by omega)]; rfl)
        try have hlI : (( p.size : Int) != 2) = false := by rw [← HPs.out, hl]; rfl
        clear hr hl
        go_wp2_with fail
        refine Calls.mono HI3.out ?_
        rintro e w4 ⟨rfl, hw⟩
        replace hw := hw.symm
        subst hw
        go_wp2_with fail
        go_region
        all_goals
          go_wp2
          exact rd_close (k := 0) (g := w.heap.size) rfl rfl (put3 HX3.out _ _ _) rfl (HE15.out _ ((below3 HB3.out (Nat.le_refl _) _ _ _).drew) HR2.out)
      · have HR2 := hid (show rdCents s.data.toList = (15, 0, [], 0) by rw [hr, decide_eq_true hl]; rfl)
        try have hlI : (( p.size : Int) != 2) = false := by rw [← HPs.out, hl]; rfl
        clear hr hl
        go_wp2_with fail
        refine Calls.mono HI3.out ?_
        rintro e w4 ⟨rfl, hw⟩
        replace hw := hw.symm
        subst hw
        go_wp2_with fail
        go_region
        all_goals
          go_wp2
          exact rd_close (k := 0) (g := w.heap.size) rfl rfl (put3 HX3.out _ _ _) rfl (HE15.out _ ((below3 HB3.out (Nat.le_refl _) _ _ _).drew) HR2.out)
      · have HR2 := hid (show rdCents s.data.toList = (0, v, [], 0) by rw [hr, decide_eq_true hl, decide_eq_true hm]; rfl)
        try have hlI : (( p.size : Int) != 2) = false := by rw [← HPs.out, hl]; rfl
        have hmI : ¬ (1000000000000000 : Int) < v := by omega
        clear hr hl
        go_wp2_with fail
        refine Calls.mono HI3.out ?_
        rintro e w4 ⟨rfl, hw⟩
        replace hw := hw.symm
        subst hw
        go_wp2
        exact rd_close (k := 3) (g := w.heap.size) rfl rfl (put3 HX3.out _ _ _) rfl (HE0.out _ _ (below3 HB3.out (Nat.le_refl _) _ _ _) HR2.out)
      · have hv0 : (v == 0) = false := beq_eq_false_iff_ne.2 hz
        have HR2 := hid (show rdCents s.data.toList = (0, -v, [], 0) by rw [hr, decide_eq_true hl, decide_eq_true hm, hv0]; rfl)
        try have hlI : (( p.size : Int) != 2) = false := by rw [← HPs.out, hl]; rfl
        have hmI : ¬ (1000000000000000 : Int) < v := by omega
        clear hr hl
        go_wp2_with fail
        refine Calls.mono HI3.out ?_
        rintro e w4 ⟨rfl, hw⟩
        replace hw := hw.symm
        subst hw
        go_wp2
        exact rd_close (k := 3) (g := w.heap.size) rfl rfl (put3 HX3.out _ _ _) rfl (HE0.out _ _ (below3 HB3.out (Nat.le_refl _) _ _ _) HR2.out)
    · have HR2 := hid (cents_no hv)
      clear hv hV
      go_wp2_with fail
      go_region
      all_goals
        go_wp2
        exact rd_close (k := 0) (g := w.heap.size) rfl rfl (put3 HX3.out _ _ _) rfl (HE15.out _ ((below3 HB3.out (Nat.le_refl _) _ _ _).drew) HR2.out)
set_option maxHeartbeats 400000 in
theorem clone_any (s : ByteArray) (w : World) (hs : s.size ≤ 281474976710656) :
    Calls Tryz.prog 89 #[.string s] w fun e w' => e = .returned (.string s) ∧ Below w.heap.size w w' := by
  have HC := hid (Tryz.stringslite_Clone s w hs)
  go_enter Tryz.func89, Tryz.ntmps89
  go_wp2_with fail
  refine Calls.mono HC.out ?_
  rintro e w2 hq
  have HQ := hid hq
  obtain ⟨rfl, hb⟩ := hq
  go_wp2
  go_ret
  exact ⟨rfl, hb⟩
set_option maxHeartbeats 400000 in
theorem readText_any (A : Nat → Addr) (s : ByteArray) (w : World) (hs : s.size ≤ 100000000) :
    Calls Tryz.prog 140 #[.string s] w fun e w' => RdP A 1 (0, 0, s.data.toList, 0) w w' e ∧ Below w.heap.size w w' := by
  obtain ⟨W, hW⟩ : ∃ W, w.alloc (.cells #[.int .i64 0, .string ⟨#[]⟩, .int .i64 0] 52) = W := ⟨_, rfl⟩
  have bW : Below w.heap.size w W := by rw [← hW]; exact (Below.refl _ _).alloc (Nat.le_refl _) _
  have xW : W.heap[w.heap.size]? = some (.cells #[.int .i64 0, .string ⟨#[]⟩, .int .i64 0] 52 (0, 0)) := by rw [← hW]; exact heap_alloc_new w _
  have HC := hid (clone_any s W (by omega))
  have HX := hid (And.intro bW xW)
  have HW := hid hW
  clear bW xW hW
  go_enter Tryz.func140, Tryz.ntmps140
  go_wp2_with fail
  rw [HW.out]
  refine Calls.mono HC.out ?_
  rintro e w2 ⟨rfl, hb2⟩
  have HB2 := hid (HX.out.1.trans (hb2.mono HX.out.1.size))
  have HX2 := hid ((hb2.block _ (Array.getElem?_eq_some_iff.1 HX.out.2).1).trans HX.out.2)
  have cx := Lib.cell_of_heap HX2.out
  have x0 := cx 0
  have x1 := cx 1
  have x2 := cx 2
  have fx := Lib.frozen_of_heap HX2.out
  have f0 := fx 0
  have f1 := fx 1
  have f2 := fx 2
  clear cx fx hb2 HC
  go_wp2
  exact rd_close (k := 1) (g := w.heap.size) rfl rfl (put3 HX2.out _ _ _) rfl ⟨.inl ⟨rfl, s, rfl, rfl⟩, below3 HB2.out (Nat.le_refl _) _ _ _⟩
theorem eq_yes (s : ByteArray) (L : List UInt8) : (s.toList == L) = decide (s.data.toList = L) := by
  rw [ByteArray.toList_eq]
  by_cases h : s.data.toList = L
  · rw [decide_eq_true h]; simpa using h
  · rw [decide_eq_false h]; simpa using h
set_option maxHeartbeats 1000000 in
theorem readYes_any (A : Nat → Addr) (s : ByteArray) (w : World) (hA : Sn A w) :
    Calls Tryz.prog 150 #[.string s] w fun e w' => RdP A 6 (rdYes s.data.toList) w w' e ∧ Below w.heap.size w w' := by
  have e1 := eq_yes s [121, 101, 115]
  have e2 := eq_yes s [110, 111]
  obtain ⟨W, hW⟩ : ∃ W, w.alloc (.cells #[.int .i64 0, .string ⟨#[]⟩, .int .i64 0] 52) = W := ⟨_, rfl⟩
  have bW : Below w.heap.size w W := by rw [← hW]; exact (Below.refl _ _).alloc (Nat.le_refl _) _
  have xW : W.heap[w.heap.size]? = some (.cells #[.int .i64 0, .string ⟨#[]⟩, .int .i64 0] 52 (0, 0)) := by rw [← hW]; exact heap_alloc_new w _
  have hlt : 19 < w.heap.size := World.block_lt_of_cell? _ _ (hA.cellAt (c := 18) (by decide) (by decide))
  have hc18 := (hA.below bW).cellAt (c := 18) (by decide) (by decide)
  rw [show gV 18 = 19 from rfl] at hc18
  have hne1 : ¬ (19 = w.heap.size) := by omega
  have hne2 : ¬ (w.heap.size = 19) := by omega
  have cx := Lib.cell_of_heap xW
  have x0 := cx 0
  have x1 := cx 1
  have x2 := cx 2
  have fx := Lib.frozen_of_heap xW
  have f0 := fx 0
  have f1 := fx 1
  have f2 := fx 2
  have HX := hid (And.intro bW xW)
  have HR := hid (show rdYes s.data.toList = if s.data.toList = [121, 101, 115] then (0, 1, [], 0) else if s.data.toList = [110, 111] then (0, 0, [], 0) else (18, 0, [], 0) from rfl)
  clear cx fx bW xW hA
  by_cases h1 : s.data.toList = [121, 101, 115]
  · rw [decide_eq_true h1] at e1
    have HR2 := hid (show rdYes s.data.toList = (0, 1, [], 0) by rw [HR.out, if_pos h1])
    clear h1 e2
    go_enter Tryz.func150, Tryz.ntmps150
    go_wp2
    exact rd_close (k := 6) (g := w.heap.size) rfl rfl (put3 HX.out.2 _ _ _) rfl ⟨by rw [HR2.out]; exact .inl ⟨rfl, ⟨#[]⟩, rfl, rfl⟩, below3 HX.out.1 (Nat.le_refl _) _ _ _⟩
  · rw [decide_eq_false h1] at e1
    by_cases h2 : s.data.toList = [110, 111]
    · rw [decide_eq_true h2] at e2
      have HR2 := hid (show rdYes s.data.toList = (0, 0, [], 0) by rw [HR.out, if_neg h1, if_pos h2])
      clear h1 h2
      go_enter Tryz.func150, Tryz.ntmps150
      go_wp2
      exact rd_close (k := 6) (g := w.heap.size) rfl rfl (put3 HX.out.2 _ _ _) rfl ⟨by rw [HR2.out]; exact .inl ⟨rfl, ⟨#[]⟩, rfl, rfl⟩, below3 HX.out.1 (Nat.le_refl _) _ _ _⟩
    · rw [decide_eq_false h2] at e2
      have HR2 := hid (show rdYes s.data.toList = (18, 0, [], 0) by rw [HR.out, if_neg h1, if_neg h2])
      clear h1 h2
      go_enter Tryz.func150, Tryz.ntmps150
      go_wp2_with fail
      go_region
      all_goals
        go_wp2
        exact rd_close (k := 0) (g := w.heap.size) rfl rfl (put3 HX.out.2 _ _ _) rfl ⟨by rw [HR2.out]; exact .inr (.inl ⟨.inr (.inr (.inr rfl)), rfl⟩), (below3 HX.out.1 (Nat.le_refl _) _ _ _).drew⟩
end Go.Proofs.YtmgfdnccmeahjaaGreatDoor
