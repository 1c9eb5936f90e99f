/-
  Amounts, the document's own; and GtinAmounts' own walk.
-/
import Derived.Test.YteiacefbjmacbabDoorAmount
namespace Go.Proofs.YteiacefbjmacbabDoor
open Go.RowKit
set_option maxRecDepth 100000
attribute [local go_sem ↓] Go.wp_at_zero Go.wp_at_succ

theorem rk_amount {k : Int} (h0 : 0 ≤ k) (h1 : k ≤ 12) : (∃ p d c y, ∃ least most : Nat, rkOf k = rk p d least most c y true ∧ (k = 6 ∧ least = 6 ∧ most = 6 ∨ k = 7 ∧ least = 1 ∧ most = 15)) ∨ (∃ p d c y, ∃ least most : Nat, rkOf k = rk p d least most c y false ∧ k ≠ 6 ∧ k ≠ 7) := by
  have hk : k = 0 ∨ k = 1 ∨ k = 2 ∨ k = 3 ∨ k = 4 ∨ k = 5 ∨ k = 6 ∨ k = 7 ∨ k = 8 ∨ k = 9 ∨ k = 10 ∨ k = 11 ∨ k = 12 := by omega
  rcases hk with rfl | rfl | rfl | rfl | rfl | rfl | rfl | rfl | rfl | rfl | rfl | rfl | rfl
  all_goals first
    | exact .inl ⟨_, _, _, _, _, _, rfl, by decide⟩
    | exact .inr ⟨_, _, _, _, _, _, rfl, by decide, by decide⟩

theorem alloc_cells {w1 : World} {b o : Nat} {u : Value} (h : w1.cell? ⟨b, o, none⟩ = some u) : ∀ ob, (w1.alloc ob).cell? ⟨b, o, none⟩ = some u := fun _ => cell_old' h ((Below.refl _ _).alloc (Nat.le_refl _) _)

set_option maxHeartbeats 4000000 in
theorem refAmount_any (a v : ByteArray) (w : World) (hv : v.size ≤ 9223372036854775807) :
    Calls Tryd.prog 21 #[.agg #[.string a, .string v]] w fun e w' => ((¬ AmtOk a.data.toList v.data.toList ∧ e = .returned (.tuple #[.int .i64 0, .int .i64 0, .bool false])) ∨ (AmtOk a.data.toList v.data.toList ∧ ∃ h3 : 3 < a.size, e = .returned (.tuple #[.int .i64 (nm v.data.toList : Nat), .int .i64 (dv (a[3]'h3) : Nat), .bool true]))) ∧ Below w.heap.size w w' := by
  have hl := len_list v
  have HV : Hid (_) := hv
  have HK : Hid (∀ w, Calls Tryd.prog 42 #[.string a] w fun e w' => e = .returned (rkV a.data.toList) ∧ Below w.heap.size w w') := fun w => refKindOf_any a w
  clear hv
  unfold rkV at HK
  cases hf : kfind a.data.toList with
  | none =>
    have HN : Hid (_) := (show ¬ AmtOk a.data.toList v.data.toList by rintro ⟨k, h, _⟩; rw [hf] at h; cases h)
    rw [hf] at HK
    simp only [Option.getD_none, Option.isSome_none] at HK
    rw [show rkOf 13 = rk false false 0 0 false false false from rfl] at HK
    unfold rk at HK
    clear hf hl
    go_enter Tryd.func21, Tryd.ntmps21
    go_wp2_with fail
    refine (HK.out _).mono ?_
    rintro e w1 ⟨rfl, hb1⟩
    obtain ⟨_, _, hB, _⟩ := box_cells w w1 a v hb1
    have hz := hB.size
    clear hb1
    go_wp2
    go_ret3
    exact ⟨.inl ⟨HN.out, rfl⟩, hB.alloc hz _⟩
  | some k =>
    have hr := kfind_range hf
    rw [hf] at HK
    simp only [Option.getD_some, Option.isSome_some] at HK
    rcases rk_amount hr.1 hr.2 with ⟨p, d, c, y, least, most, hrk, hkk⟩ | ⟨p, d, c, y, least, most, hrk, h6, h7⟩
    · rw [hrk] at HK
      unfold rk at HK
      have hlm : least ≤ 6 ∧ most ≤ 15 := by omega
      by_cases h1 : v.size < least
      · have HN : Hid (_) := (show ¬ AmtOk a.data.toList v.data.toList by rintro ⟨k', h, h2, _⟩; rw [hf] at h; cases h; omega)
        have h1I : (v.size : Int) < (least : Int) := by omega
        clear hf hl hr hkk hrk
        go_enter Tryd.func21, Tryd.ntmps21
        go_wp2_with fail
        refine (HK.out _).mono ?_
        rintro e w1 ⟨rfl, hb1⟩
        obtain ⟨c0, c1, hB, _⟩ := box_cells w w1 a v hb1
        have hz := hB.size
        have d1 := alloc_cells c1
        clear hb1
        go_wp2
        go_ret3
        exact ⟨.inl ⟨HN.out, rfl⟩, hB.alloc hz _⟩
      · have h1I : ¬ (v.size : Int) < (least : Int) := by omega
        by_cases h2 : most < v.size
        · have HN : Hid (_) := (show ¬ AmtOk a.data.toList v.data.toList by rintro ⟨k', h, h2, _⟩; rw [hf] at h; cases h; omega)
          have h2I : (most : Int) < (v.size : Int) := by omega
          clear hf hl hr hkk hrk
          go_enter Tryd.func21, Tryd.ntmps21
          go_wp2_with fail
          refine (HK.out _).mono ?_
          rintro e w1 ⟨rfl, hb1⟩
          obtain ⟨c0, c1, hB, _⟩ := box_cells w w1 a v hb1
          have hz := hB.size
          have d1 := alloc_cells c1
          clear hb1
          go_wp2
          go_ret3
          exact ⟨.inl ⟨HN.out, rfl⟩, hB.alloc hz _⟩
        · have h2I : ¬ (most : Int) < (v.size : Int) := by omega
          have ha4 : a.size = 4 := by rw [← len_list]; exact amt_size hf (by omega)
          have hv15 : v.size ≤ 15 := by omega
          have HOk : Hid (_) := (show AllD v.data.toList → AmtOk a.data.toList v.data.toList from fun h => ⟨k, hf, by omega, h⟩)
          have HBd : Hid (_) := (show ¬ AllD v.data.toList → ¬ AmtOk a.data.toList v.data.toList from fun h => by rintro ⟨_, _, _, h2⟩; exact h h2)
          clear hf hr hkk hrk
          go_enter Tryd.func21, Tryd.ntmps21
          go_wp2_with fail
          refine (HK.out _).mono ?_
          rintro e w1 ⟨rfl, hb1⟩
          obtain ⟨c0, c1, hB, hltw⟩ := box_cells w w1 a v hb1
          have hz := hB.size
          have d1 := alloc_cells c1
          have d0 := alloc_cells c0
          have hBA := fun ob => hB.alloc hz ob
          clear hb1
          go_wp2_with fail
          go_loop [7, 8] (fun t i => ∃ j : Nat, j ≤ v.size ∧ t = .int .i64 (nm (v.data.toList.take j) : Nat) ∧ i = .int .i64 (j : Nat) ∧ ∀ x (hx : x < j) (hj : j ≤ v.size), isDB (v[x]'(by omega)) = true) (fun _ i => v.size - (intOf i).toNat)
          case atStart => exact ⟨0, by omega, rfl, rfl, fun x hx => by omega⟩
          case round =>
            obtain ⟨j, hj, rfl, rfl, hall⟩ := hrel
            have HA : Hid (_) := hall
            clear hall
            by_cases hlt : j < v.size
            · have hb := nm_small v.data.toList j (by omega) (by omega)
              have hx := nm_take_succ v.data.toList j (by omega)
              rw [byte_list v j hlt] at hx
              unfold dv at hx
              have HX : Hid (_) := hx
              clear hx
              generalize nm (v.data.toList.take j) = n at hb HX
              cases hd : isDB (v[j]'hlt) with
              | true =>
                go_wp2_with (go_at_call 35; refine (refIsDigit_any _ _).mono ?_; rintro e w' ⟨rfl, rfl⟩)
                go_round
                case rel =>
                  refine ⟨j + 1, by omega, int_eq (by rw [HX.out]; omega), by go_num, fun x hx hj1 => ?_⟩
                  by_cases e : x = j
                  · subst e; exact hd
                  · exact HA.out x (by omega) (by omega)
                case measure => simp [intOf]; omega
              | false =>
                go_wp2_with (go_at_call 35; refine (refIsDigit_any _ _).mono ?_; rintro e w' ⟨rfl, rfl⟩)
                go_ret3
                refine ⟨.inl ⟨HBd.out fun h => ?_, rfl⟩, hBA _⟩
                have h5 := h _ (List.getElem_mem (l := v.data.toList) (n := j) (by omega))
                rw [byte_list v j hlt, ← isDB_iff, hd] at h5
                cases h5
            · have hkk : j = v.size := by omega
              subst hkk
              have hall : AllD v.data.toList := by
                intro x hx
                obtain ⟨i, hi, rfl⟩ := List.mem_iff_getElem.1 hx
                rw [len_list] at hi
                rw [byte_list v i hi]
                exact (isDB_iff _).1 (HA.out i hi (Nat.le_refl _))
              have ht : v.data.toList.take v.size = v.data.toList := by rw [← hl, List.take_length]
              rw [ht]
              have h3 : 3 < a.size := by omega
              have h3I : (3 : Int) < (a.size : Int) := by omega
              have HO : Hid (_) := HOk.out hall
              clear hall ht HA
              go_wp2_with fail
              go_quiet (fail)
              have hdv : (((a[3]'h3).toNat : Int) - (48 : Int)) % (256 : Int) = ((dv (a[3]'h3) : Nat) : Int) := by unfold dv; omega
              rw [hdv]
              clear hdv
              go_wp2
              go_ret3
              exact ⟨.inr ⟨HO.out, h3, rfl⟩, below_drewN (hBA _) nq⟩
    · rw [hrk] at HK
      unfold rk at HK
      have HN : Hid (_) := (show ¬ AmtOk a.data.toList v.data.toList by rintro ⟨k', h, h2, _⟩; rw [hf] at h; cases h; omega)
      clear hf hl hr hrk h6 h7
      go_enter Tryd.func21, Tryd.ntmps21
      go_wp2_with fail
      refine (HK.out _).mono ?_
      rintro e w1 ⟨rfl, hb1⟩
      obtain ⟨_, _, hB, _⟩ := box_cells w w1 a v hb1
      have hz := hB.size
      clear hb1
      go_wp2
      go_ret3
      exact ⟨.inl ⟨HN.out, rfl⟩, hB.alloc hz _⟩

set_option maxHeartbeats 2000000 in
theorem amounts_any (a v : ByteArray) (w : World) (hkn : HasKn w) (hv : v.size ≤ 9223372036854775807) :
    Calls Tryd.prog 6 #[.agg #[.string a, .string v]] w fun e w' => e = .returned (.bool true) ∧ Below w.heap.size w w' := by
  have hb0 := (Below.refl w.heap.size w).alloc (Nat.le_refl _) (.cells #[.string a, .string v] 36)
  have hk0 := hkn.below hb0
  by_cases h : AmtOk a.data.toList v.data.toList
  · have h3 : 3 < a.size := by
      obtain ⟨k, hf, hk, _⟩ := h
      have := amt_size hf (by omega)
      rw [len_list] at this
      omega
    have H1 : Hid (_) := amount_ok a v _ hk0 hv h h3
    have H2 : Hid (∀ w, Calls Tryd.prog 21 #[.agg #[.string a, .string v]] w fun e w' => e = .returned (.tuple #[.int .i64 (nm v.data.toList : Nat), .int .i64 (dv (a[3]'h3) : Nat), .bool true]) ∧ Below w.heap.size w w') := fun w => (refAmount_any a v w hv).mono (by
      rintro e w' ⟨⟨hn, _⟩ | ⟨_, _, rfl⟩, hb⟩
      · exact absurd h hn
      · exact ⟨rfl, hb⟩)
    generalize nm v.data.toList = nv at H1 H2
    generalize dv (a[3]'h3) = na at H1 H2
    clear h hv hkn hk0 hb0 h3
    go_enter Tryd.func6, Tryd.ntmps6
    go_wp2_with fail
    refine Calls.mono H1.out ?_
    rintro e w1 ⟨rfl, hb1⟩
    obtain ⟨c0, c1, hB, hlt⟩ := box_cells w w1 a v hb1
    clear hb1
    have hz := hB.size
    go_wp2_with fail
    refine (H2.out w1).mono ?_
    rintro e w2 ⟨rfl, hb2⟩
    go_wp2
    go_ret
    exact ⟨rfl, hB.trans (hb2.mono hz)⟩
  · have H1 : Hid (_) := amount_bad a v _ hk0 hv h
    have H2 : Hid (∀ w, Calls Tryd.prog 21 #[.agg #[.string a, .string v]] w fun e w' => e = .returned (.tuple #[.int .i64 0, .int .i64 0, .bool false]) ∧ Below w.heap.size w w') := fun w => (refAmount_any a v w hv).mono (by
      rintro e w' ⟨⟨_, rfl⟩ | ⟨hn, _, _⟩, hb⟩
      · exact ⟨rfl, hb⟩
      · exact absurd hn h)
    clear h hv hkn hk0 hb0
    go_enter Tryd.func6, Tryd.ntmps6
    go_wp2_with fail
    refine Calls.mono H1.out ?_
    rintro e w1 ⟨rfl, hb1⟩
    obtain ⟨c0, c1, hB, hlt⟩ := box_cells w w1 a v hb1
    clear hb1
    have hz := hB.size
    go_wp2_with fail
    refine (H2.out w1).mono ?_
    rintro e w2 ⟨rfl, hb2⟩
    go_wp2
    go_ret
    exact ⟨rfl, hB.trans (hb2.mono hz)⟩
end Go.Proofs.YteiacefbjmacbabDoor
