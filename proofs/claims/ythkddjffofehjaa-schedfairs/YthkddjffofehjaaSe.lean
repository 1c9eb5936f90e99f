/-
  The document's Fair.
-/
import Derived.Test.YthkddjffofehjaaSd
namespace Go.Proofs.Ythkddjffofehjaa
open Go.RowKit
set_option maxRecDepth 100000
attribute [local go_sem ↓] mki_op

set_option maxHeartbeats 1000000 in
theorem rfair_any (v : Value) (R : List Int) (n k : Int) (w : World) (hr : RI w v R) (hl : R.length ≤ 9223372036854775807) (hk0 : -9223372036854775808 ≤ k) (hk1 : k ≤ 9223372036854775807) :
    Calls Try.prog 11 #[v, .int .i64 n, .int .i64 k] w fun e w' => FaE R n k e ∧ Below w.heap.size w w' := by
  by_cases hn : okN n = true
  · obtain ⟨n1, n2⟩ := (okN_iff n).1 hn
    have HN0 := hid hn
    clear hn
    by_cases hk : 1 ≤ k
    · by_cases h6 : R.length ≤ 65536
      · have h6' : (R.length : Int) ≤ 65536 := by omega
        obtain ⟨m, rfl⟩ : ∃ m : Nat, n = (m : Int) := ⟨n.toNat, by omega⟩
        obtain ⟨ao, cap, rfl, hpc, hpn, hcell⟩ := hr
        have HC : Hid (_) := hcell
        clear hcell hpn
        go_enter Try.func11, Try.ntmps11
        go_wp2
        go_loop [8] (fun i => ∃ k : Nat, k ≤ R.length ∧ i = .int .i64 k ∧ ∀ j (h : j < R.length), j < k → 0 ≤ R[j] ∧ R[j] < (m : Int)) (fun i => R.length - (intOf i).toNat)
        case atStart => exact ⟨0, by omega, rfl, fun j _ h => by omega⟩
        case round =>
          obtain ⟨i, hi, rfl, hin⟩ := hrel
          have HIn := hid hin
          clear hin
          by_cases h : i < R.length
          · obtain ⟨g, off, hao, c2⟩ := HC.out i h
            subst hao
            have HS := hid (show ∀ (_ : 0 ≤ R[i] ∧ R[i] < (m : Int)), ∀ j (h : j < R.length), j < i + 1 → 0 ≤ R[j] ∧ R[j] < (m : Int) from fun hx j hj hjk => by
              by_cases e : j = i
              · subst e; exact hx
              · exact HIn.out j hj (by omega))
            have HNo := hid (show ¬ (0 ≤ R[i] ∧ R[i] < (m : Int)) → ¬ okF R (m : Int) k from fun hx hy => hx ((inB_iff R _).1 hy.2.2.2 i h))
            generalize R[i] = x at c2 HS HNo
            by_cases h0 : x < 0
            · go_wp2
              go_ret2
              exact ⟨⟨false, _, rfl, .inl ⟨HNo.out (by omega), rfl, rfl⟩⟩, Below.refl _ _⟩
            · by_cases h1 : (m : Int) ≤ x
              · go_wp2
                go_ret2
                exact ⟨⟨false, _, rfl, .inl ⟨HNo.out (by omega), rfl, rfl⟩⟩, Below.refl _ _⟩
              · go_wp2
                go_round
                case rel => exact ⟨i + 1, by omega, by go_num, HS.out ⟨by omega, by omega⟩⟩
                case measure => simp [intOf]; omega
          · have HIN := hid (show ∀ i (h : i < R.length), 0 ≤ R[i] ∧ R[i] < (m : Int) from fun j hj => HIn.out j hj (by omega))
            have HOK := hid (show okF R (m : Int) k from ⟨HN0.out, hk, h6, (inB_iff R _).2 HIN.out⟩)
            have hm := run_mkI m (by omega)
            have bB := (Below.refl w.heap.size w).alloc (Nat.le_refl _) (.cells (ic (List.replicate m 0)).toArray 3)
            have hB := heap_alloc_new w (.cells (ic (List.replicate m 0)).toArray 3)
            obtain ⟨V, hV⟩ : ∃ V, w.alloc (.cells (ic (List.replicate m 0)).toArray 3) = V := ⟨_, rfl⟩
            rw [hV] at bB hB
            have HB := hid bB
            have HV := hid hB
            clear bB hB HIn
            go_wp2
            clear hm
            go_loopw [10] (fun i wx => ∃ j : Nat, j ≤ R.length ∧ i = .int .i64 (j : Int) ∧ wx.heap[w.heap.size]? = some (.cells (ic (LA R m j)).toArray 3 (0, 0)) ∧ (∀ i, i < j → ¬ badF R m k i) ∧ Below w.heap.size w wx) (fun i _ => R.length - (intOf i).toNat)
            case atStart => exact ⟨0, by omega, rfl, HV.out, fun i h => by omega, HB.out⟩
            case round =>
              obtain ⟨j, hj, rfl, hh, hno, hb⟩ := hrel
              have HH := hid hh
              have HNo := hid hno
              have HBj := hid hb
              clear hh hno hb
              by_cases hlt : j < R.length
              · have hI : (j : Int) < (R.length : Int) := by omega
                obtain ⟨g, off, hao, c0⟩ := HC.out j hlt
                subst hao
                have c0 := below_cells HBj.out _ _ c0
                have HLN := hid (LA_next R m j hlt)
                obtain ⟨x0, x1⟩ := HIN.out j hlt
                generalize R[j] = x at c0 HLN x0 x1
                obtain ⟨q, rfl⟩ : ∃ q : Nat, x = (q : Int) := ⟨x.toNat, by omega⟩
                have hqm : q < m := by omega
                rw [Int.toNat_natCast] at HLN
                obtain ⟨old, c1⟩ : ∃ z, wr.cell? ⟨w.heap.size, q, none⟩ = some (.int .i64 z) := by
                  refine ⟨(LA R m j)[q]'(by rw [LA_len]; exact hqm), ?_⟩
                  rw [cell_of_row wr _ q _ _ _ HH.out]
                  simp only [List.getElem?_toArray]
                  exact ic_at _ q _
                have f1 : wr.frozen? ⟨w.heap.size, q, none⟩ = false := by simp [World.frozen?, HH.out]
                have HN := hid (show (wr.setCell ⟨w.heap.size, q, none⟩ (.int .i64 ((j : Int) + 1))).heap[w.heap.size]? = some (.cells (ic (LA R m (j + 1))).toArray 3 (0, 0)) by
                  rw [heap_setCell_same wr w.heap.size q _ _ _ HH.out, List.setIfInBounds_toArray, HLN.out, ic_set])
                have BN := hid (HBj.out.setCell (p := ⟨w.heap.size, q, none⟩) (Nat.le_refl _) (.int .i64 ((j : Int) + 1)))
                obtain ⟨X, hX⟩ : ∃ X, wr.setCell ⟨w.heap.size, q, none⟩ (.int .i64 ((j : Int) + 1)) = X := ⟨_, rfl⟩
                rw [hX] at HN BN
                by_cases hbg : (j : Int) + 1 - k < 0
                · have HNo' := hid (show ∀ i, i < j + 1 → ¬ badF R m k i from fun i hi hbad => by
                    by_cases e : i = j
                    · subst e; have := hbad.1; omega
                    · exact HNo.out i (by omega) hbad)
                  go_wp2
                  go_roundw
                  case rel => exact ⟨j + 1, by omega, by go_num, HN.out, HNo'.out, BN.out⟩
                  case measure => simp [intOf]; omega
                · go_wp2
                  go_loop [12] (fun i => ∃ h : Nat, h ≤ m ∧ i = .int .i64 (h : Int) ∧ ∀ z (hz : z < (LA R m (j + 1)).length), z < h → ¬ (LA R m (j + 1))[z] ≤ (j : Int) + 1 - k) (fun i => m - (intOf i).toNat)
                  case atStart => exact ⟨0, by omega, rfl, fun z _ h => by omega⟩
                  case round =>
                    obtain ⟨h, hh, rfl, hz⟩ := hrel
                    have HZ := hid hz
                    clear hz
                    by_cases hhm : h < m
                    · have hlm : h < (LA R m (j + 1)).length := by rw [LA_len]; exact hhm
                      have c5 : X.cell? ⟨w.heap.size, h, none⟩ = some (.int .i64 (LA R m (j + 1))[h]) := by
                        rw [cell_of_row X _ h _ _ _ HN.out]
                        simp only [List.getElem?_toArray]
                        exact ic_at _ h _
                      have HS := hid (show ¬ (LA R m (j + 1))[h] ≤ (j : Int) + 1 - k → ∀ z (hz : z < (LA R m (j + 1)).length), z < h + 1 → ¬ (LA R m (j + 1))[z] ≤ (j : Int) + 1 - k from fun hx z hz hzh => by
                        by_cases e : z = h
                        · subst e; exact hx
                        · exact HZ.out z hz (by omega))
                      have HY := hid (show (LA R m (j + 1))[h] ∈ LA R m (j + 1) from List.getElem_mem _)
                      generalize (LA R m (j + 1))[h] = y at c5 HS HY
                      by_cases hyb : y ≤ (j : Int) + 1 - k
                      · go_wp2
                        go_ret2
                        exact ⟨⟨false, _, rfl, .inr (.inl ⟨HOK.out, j, hlt, by rw [Int.toNat_natCast]; exact ⟨by omega, y, HY.out, hyb⟩, fun i hi => by rw [Int.toNat_natCast]; exact HNo.out i hi, rfl, rfl⟩)⟩, BN.out⟩
                      · have HS := hid (HS.out hyb)
                        go_wp2
                        go_round
                        case rel => exact ⟨h + 1, by omega, by go_num, HS.out⟩
                        case measure => simp [intOf]; omega
                    · have HNo' := hid (show ∀ i, i < j + 1 → ¬ badF R m k i from fun i hi hbad => by
                        by_cases e : i = j
                        · subst e
                          obtain ⟨z, hz, hz2⟩ := hbad.2
                          obtain ⟨u, hu, rfl⟩ := List.mem_iff_getElem.1 hz
                          exact HZ.out u hu (by rw [LA_len] at hu; omega) hz2
                        · exact HNo.out i (by omega) hbad)
                      go_wp2
                      go_roundw
                      case rel => exact ⟨j + 1, by omega, by go_num, HN.out, HNo'.out, BN.out⟩
                      case measure => simp [intOf]; omega
              · have hI : ¬ (j : Int) < (R.length : Int) := by omega
                go_wp2
                go_ret2
                exact ⟨⟨true, 0, rfl, .inr (.inr ⟨HOK.out, fun i hi => by rw [Int.toNat_natCast]; exact HNo.out i (by omega), rfl, rfl⟩)⟩, HBj.out⟩
      · have h6' : ¬ (R.length : Int) ≤ 65536 := by omega
        have HNO := hid (show ¬ okF R n k from fun h => h6 h.2.2.1)
        obtain ⟨ao, cap, rfl⟩ := hr.len0
        clear hr
        go_enter Try.func11, Try.ntmps11
        go_wp2
        go_ret2
        exact ⟨⟨false, _, rfl, .inl ⟨HNO.out, rfl, rfl⟩⟩, Below.refl _ _⟩
    · have HNO := hid (show ¬ okF R n k from fun h => hk h.2.1)
      obtain ⟨ao, cap, rfl⟩ := hr.len0
      clear hr
      go_enter Try.func11, Try.ntmps11
      go_wp2
      go_ret2
      exact ⟨⟨false, _, rfl, .inl ⟨HNO.out, rfl, rfl⟩⟩, Below.refl _ _⟩
  · have HNO := hid (show ¬ okF R n k from fun h => hn h.1)
    obtain ⟨ao, cap, rfl⟩ := hr.len0
    rw [okN_iff] at hn
    by_cases n1 : 1 ≤ n
    · have n2 : ¬ n ≤ 16 := fun h => hn ⟨n1, h⟩
      clear hr hn
      go_enter Try.func11, Try.ntmps11
      go_wp2
      go_ret2
      exact ⟨⟨false, _, rfl, .inl ⟨HNO.out, rfl, rfl⟩⟩, Below.refl _ _⟩
    · clear hr hn
      go_enter Try.func11, Try.ntmps11
      go_wp2
      go_ret2
      exact ⟨⟨false, _, rfl, .inl ⟨HNO.out, rfl, rfl⟩⟩, Below.refl _ _⟩
end Go.Proofs.Ythkddjffofehjaa
