/-
  The document's own ParseShown.
-/
import Derived.Test.YtdcodedfojjacaaDoorShn
namespace Go.Proofs.YtdcodedfojjacaaDoor
open Go.RowKit
set_option maxRecDepth 100000

theorem EB.frozen {w : World} {b : Nat} {a x : ByteArray} (h : EB w b a x) : w.frozen? ⟨b, 1, none⟩ = false := Lib.frozen_of_heap h 1
theorem EB.put {w : World} {b : Nat} {a x : ByteArray} (h : EB w b a x) (y : ByteArray) : EB (w.setCell ⟨b, 1, none⟩ (.string y)) b a y := Lib.heap_setCell_same h _
theorem EB.drew {w : World} {b : Nat} {a x : ByteArray} (h : EB w b a x) : EB w.drew b a x := h
/-- ')' is sought from place s on and not found ahead of j -/
def NoC (T : List UInt8) (s j : Nat) : Prop := ∀ i (hi : i < T.length), s ≤ i → i < j → T[i] ≠ 41
theorem NoC.next {T : List UInt8} {s j : Nat} (h : NoC T s j) (hj : j < T.length) (hn : T[j] ≠ 41) : NoC T s (j + 1) := fun i hi h1 h2 => by
  by_cases e : i = j
  · subst e; exact hn
  · exact h i hi h1 (by omega)
theorem NoC.found {T : List UInt8} {s m : Nat} (h : NoC T s (s + m)) (hj : s + m < T.length) (he : T[s + m] = 41) : Lib.indexByte (T.drop s) 41 = (m : Int) := by
  refine ib_first _ _ m (by rw [List.length_drop]; omega) (fun i hi => ?_) ?_
  · rw [List.getElem_drop]
    exact h _ _ (by omega) (by omega)
  · rw [List.getElem_drop]
    exact he
theorem NoC.none {T : List UInt8} {s j : Nat} (h : NoC T s j) (hj : T.length ≤ j) : Lib.indexByte (T.drop s) 41 = -1 := by
  refine ib_none _ _ (fun i hi => ?_)
  rw [List.length_drop] at hi
  rw [List.getElem_drop]
  exact h _ _ (by omega) (by omega)

set_option maxHeartbeats 8000000 in
theorem refParseShown_any (t : ByteArray) (w : World) (hs : t.size ≤ 9223372036854775807) :
    Calls Tryd.prog 10 #[.string t] w fun e w' => (∃ v M en n, e = .returned (.tuple #[v, .int .i64 en, .int .i64 n]) ∧ RE w' v M ∧ ShA t.data.toList M en n ∧ M.length ≤ 2048) ∧ Below w.heap.size w w' := by
  have hl := len_list t
  by_cases h20 : 2048 < t.size
  · have hI : (2048 : Int) < (t.size : Int) := by omega
    go_enter Tryd.func10, Tryd.ntmps10
    go_wp2
    go_ret3
    exact ⟨⟨_, [], _, _, rfl, RE.nil0 _, .inl ⟨by omega, rfl, rfl, rfl⟩, by simp⟩, Below.refl _ _⟩
  · have hI : ¬ (2048 : Int) < (t.size : Int) := by omega
    go_enter Tryd.func10, Tryd.ntmps10
    go_wp2_with fail
    go_loopw [5, 6] (fun lv i wr => ∃ (k p : Nat) (L : List El), i = .int .i64 (p : Int) ∧ rn t.data.toList k = some (p, L) ∧ OE wr w.heap.size lv L ∧ Below w.heap.size w wr) (fun _ i _ => t.size - (intOf i).toNat)
    case atStart => exact ⟨0, 0, [], rfl, rfl, OE.nil _ _, Below.refl _ _⟩
    case round =>
      obtain ⟨k, p, L, rfl, hr, ho, hb⟩ := hrel
      obtain ⟨hLp, hpt, hLx⟩ := rn_inv hr
      rw [hl] at hpt
      have HR := hid hr
      have HO := hid ho
      have HB := hid hb
      have HX := hid hLx
      clear hr ho hb hLx
      by_cases hlt : p < t.size
      · have hpI : (p : Int) < (t.size : Int) := by omega
        have hpl : p < t.data.toList.length := by omega
        have hbt := byte_list t p hlt
        have b1 := br_40 (t[p]'hlt)
        by_cases h40 : t[p]'hlt = 40
        · rw [decide_eq_true h40] at b1
          have hbn : (((t[p]'hlt).toNat : Int) != 40) = false := by rw [bne, b1]; rfl
          have h40' : t.data.toList[p]'hpl = 40 := by rw [hbt]; exact h40
          have HS := hid (fun m => stp_ai (m := m) hpl h40')
          have HG := hid (fun m k => stp_go (m := m) (k := k) hpl h40')
          have HSh := hid (stp_short hpl h40')
          clear hbt h40' h40
          obtain ⟨wo, rfl⟩ : ∃ wo, wo = wr := ⟨_, rfl⟩
          go_wp2_with fail
          go_loopw [7] (fun i WQ => ∃ m : Nat, p + 1 + m ≤ t.size ∧ i = .int .i64 ((p + 1 + m : Nat) : Int) ∧ NoC t.data.toList (p + 1) (p + 1 + m) ∧ WQ = wo) (fun i _ => t.size - (intOf i).toNat)
          case atStart => exact ⟨0, by omega, by go_num, fun i _ h1 h2 => by omega, rfl⟩
          case round =>
            obtain ⟨m, hm, rfl, hN, hw⟩ := hrel
            have hws := hw.symm
            clear hw
            subst hws
            have HN := hid hN
            clear hN
            obtain ⟨j, hj⟩ : ∃ j, p + 1 + m = j := ⟨_, rfl⟩
            rw [hj] at hm HN ⊢
            by_cases hjl : j < t.size
            · have hjI : (j : Int) < (t.size : Int) := by omega
              have hjl2 : j < t.data.toList.length := by omega
              have hbj := byte_list t j hjl
              have c1 := br_41 (t[j]'hjl)
              by_cases h41 : t[j]'hjl = 41
              · rw [decide_eq_true h41] at c1
                have hcn : (((t[j]'hjl).toNat : Int) != 41) = false := by rw [bne, c1]; rfl
                have hix : Lib.indexByte (t.data.toList.drop (p + 1)) 41 = (m : Int) := by
                  subst hj
                  exact HN.out.found hjl2 (by rw [hbj]; exact h41)
                have hgj : ¬ (t.size : Int) ≤ (j : Int) := by omega
                have hsub2 := fun w => run_subG t (p + 1) j (j : Int) rfl (by omega) (by omega) w
                rw [Int.natCast_add, Int.natCast_one] at hsub2
                have hed : (t.extract (p + 1) j).data.toList = (t.data.toList.drop (p + 1)).take m := by rw [Lib.extract_data, show j - (p + 1) = m by omega]
                have HS2 := hid (HS.out m hix)
                have HG2 := hid (fun k => HG.out m k hix)
                rw [← hed] at HS2 HG2
                rw [show p + m + 2 = j + 1 by omega] at HG2
                obtain ⟨A, hA⟩ : ∃ A, t.extract (p + 1) j = A := ⟨_, rfl⟩
                rw [hA] at hsub2 HS2 HG2
                have HK := hid (fun w => refKindOf_any A w)
                unfold rkV at HK
                have E1 := hid (EB.new wo A ⟨#[]⟩)
                have C1 := hid ((Below.refl wo.heap.size wo).alloc (Nat.le_refl _) (.cells #[.string A, .string ⟨#[]⟩] 33))
                clear hed hA HS HG HSh hbj h41 hix HN
                have d0 : (wo.alloc (.cells #[.string A, .string ⟨#[]⟩] 33)).cell? ⟨wo.heap.size, 0, none⟩ = some (.string A) := E1.out.facts.1
                go_wp2_with fail
                refine (HK.out _).mono ?_
                rintro e w2 ⟨rfl, hb2⟩
                have E2 := hid (E1.out.later hb2)
                have C2 := hid (C1.out.trans (hb2.mono C1.out.size))
                clear hb2 d0 E1 C1 HK
                cases hk : kfind A.data.toList with
                | none =>
                  have HS3 := hid (HS2.out hk)
                  have h13 : rkOf 13 = .agg #[.bool false, .bool false, .int .i64 0, .int .i64 0, .bool false, .bool false, .bool false] := by kernel_rfl
                  have hA3 := (Below.refl w2.heap.size w2).alloc (Nat.le_refl _) (.cells #[.bool false, .bool false, .int .i64 0, .int .i64 0, .bool false, .bool false, .bool false] 52)
                  have C3 := hid (HB.out.trans ((C2.out.trans (hA3.mono C2.out.size)).mono HB.out.size))
                  clear hk HS2 HG2 hA3 C2 E2
                  simp only [Option.getD_none, Option.isSome_none]
                  rw [h13]
                  clear h13
                  go_wp2
                  go_ret3
                  exact ⟨⟨_, [], _, _, rfl, RE.nil0 _, .inr ⟨by omega, k, p, L, HR.out, .inl ⟨by omega, by rw [HS3.out]; simp, rfl⟩⟩, by simp⟩, C3.out⟩
                | some q =>
                  have HG3 := hid (HG2.out q hk)
                  obtain ⟨q0, q1⟩ := kfind_12 hk
                  obtain ⟨d, c, dy, am, lo, hi, hrk, _, _, _⟩ := rk_of q q0 q1
                  unfold rk at hrk
                  clear hk HS2 HG2
                  simp only [Option.getD_some, Option.isSome_some]
                  rw [hrk]
                  have hA3 := (Below.refl w2.heap.size w2).alloc (Nat.le_refl _) (.cells #[.bool (plK q), .bool d, .int .i64 (lo : Int), .int .i64 (hi : Int), .bool c, .bool dy, .bool am] 52)
                  have E3 := hid (E2.out.later hA3)
                  have C3 := hid (C2.out.trans (hA3.mono C2.out.size))
                  clear hrk hA3 E2 C2 q0 q1
                  go_wp2_with fail
                  go_loopw [6] (fun i WQ => ∃ (q : Nat) (x : ByteArray), q ≤ t.size ∧ i = .int .i64 (q : Int) ∧ SvR t.data.toList (j + 1) q x.data.toList ∧ EB WQ wo.heap.size A x ∧ Below wo.heap.size wo WQ) (fun i _ => t.size - (intOf i).toNat)
                  case atStart => exact ⟨j + 1, ⟨#[]⟩, by omega, by go_num, SvR.start _ _, E3.out, C3.out⟩
                  case round =>
                    obtain ⟨z, x, hz, rfl, hSv, hE, hBw⟩ := hrel
                    have HSv := hid hSv
                    have E4 := hid hE
                    have C4 := hid hBw
                    have hxs := hSv.2.1
                    rw [len_list] at hxs
                    have hjz := hSv.1
                    clear hSv hE hBw E3 C3
                    by_cases hzl : z < t.size
                    · have hzI : (z : Int) < (t.size : Int) := by omega
                      have hzl2 : z < t.data.toList.length := by omega
                      have hbz := byte_list t z hzl
                      have HO1 := hid (one_of t z hzl)
                      have hos : (t.extract z (z + 1)).size = 1 := by rw [← len_list, HO1.out]; rfl
                      obtain ⟨X, hX⟩ : ∃ X, t.extract z (z + 1) = X := ⟨_, rfl⟩
                      rw [hX] at HO1 hos
                      have hsub := fun w => run_subE t z w (by omega)
                      rw [hX] at hsub
                      clear hX
                      have e0 := br_40 (t[z]'hzl)
                      have e1 := br_41 (t[z]'hzl)
                      by_cases hbr : IsBr (t[z]'hzl)
                      · by_cases htw : ∃ hn : z + 1 < t.size, t[z + 1]'hn = t[z]'hzl
                        · obtain ⟨hn, heq⟩ := htw
                          have hnI : (z : Int) + 1 < (t.size : Int) := by omega
                          have he := br_eq (t[z + 1]'hn) (t[z]'hzl)
                          rw [decide_eq_true heq] at he
                          have hbn2 := byte_list t (z + 1) hn
                          have HN := hid (HSv.out.twice (show z + 1 < t.data.toList.length by omega) (by rw [hbz]; exact hbr) (by rw [hbz, hbn2]; exact heq))
                          rw [hbz, ← HO1.out, ← ba_app] at HN
                          clear heq hbn2 hbz
                          rcases hbr with hc | hc
                          · rw [decide_eq_true hc] at e0
                            rw [decide_eq_false (show ¬ t[z]'hzl = 41 by rw [hc]; decide)] at e1
                            clear hc
                            have X1 := hid (E4.out.put (x ++ X))
                            have d1 : wr.drew.cell? ⟨wo.heap.size, 1, none⟩ = some (.string x) := E4.out.facts.2.1
                            have d2 : wr.drew.frozen? ⟨wo.heap.size, 1, none⟩ = false := E4.out.frozen
                            go_wp2_with fail
                            go_region
                            go_wp2
                            go_roundw
                            case rel => exact ⟨z + 2, x ++ X, by omega, by go_num, HN.out, X1.out, (C4.out.drew).setCell (p := ⟨wo.heap.size, 1, none⟩) (Nat.le_refl _) _⟩
                            case measure => simp [intOf]; omega
                          · rw [decide_eq_true hc] at e1
                            rw [decide_eq_false (show ¬ t[z]'hzl = 40 by rw [hc]; decide)] at e0
                            clear hc
                            have X1 := hid (E4.out.put (x ++ X))
                            have d1 : wr.drew.cell? ⟨wo.heap.size, 1, none⟩ = some (.string x) := E4.out.facts.2.1
                            have d2 : wr.drew.frozen? ⟨wo.heap.size, 1, none⟩ = false := E4.out.frozen
                            go_wp2_with fail
                            go_region
                            go_wp2
                            go_roundw
                            case rel => exact ⟨z + 2, x ++ X, by omega, by go_num, HN.out, X1.out, (C4.out.drew).setCell (p := ⟨wo.heap.size, 1, none⟩) (Nat.le_refl _) _⟩
                            case measure => simp [intOf]; omega
                        · have HSo := hid (HSv.out.stop hzl2 (by rw [hbz]; exact hbr) (fun h e => htw ⟨by omega, by rw [← byte_list t (z + 1) (by omega), ← hbz]; exact e⟩))
                          rw [hbz] at HSo
                          clear hbz
                          rcases hbr with hc | hc
                          · rw [decide_eq_true hc] at e0 HSo
                            clear hc e1
                            by_cases hn : z + 1 < t.size
                            · have hnI : (z : Int) + 1 < (t.size : Int) := by omega
                              have he := br_eq (t[z + 1]'hn) (t[z]'hzl)
                              rw [decide_eq_false (fun e => htw ⟨hn, e⟩)] at he
                              clear htw
                              have HS5 := hid (show stp t.data.toList p = .inr (A.data.toList, x.data.toList, z) by
                                rw [HG3.out, HSo.out]
                                simp only
                                rw [show j + 1 + (z - (j + 1)) = z by omega]
                                rfl)
                              have HN := hid (rn_step HR.out hpl HS5.out)
                              have R1 := hid (RE.one wr A x)
                              have O4 := hid ((HO.out.later C4.out).alloc (.cells #[.string A, .string x] 33))
                              have B4 := hid ((HB.out.trans (C4.out.mono HB.out.size)).alloc (HB.out.trans (C4.out.mono HB.out.size)).size (.cells #[.string A, .string x] 33))
                              obtain ⟨d0, d1, dl⟩ := E4.out.facts
                              go_wp2_with (at_builtin; refine wpList_appE rfl _ _ rfl w.heap.size _ L rfl O4.out _ [(A, x)] rfl R1.out ?hlen2 B4.out.size ?hnext2)
                              case hlen2 => show (L.length + 1) * 32 ≤ _; omega
                              case hnext2 =>
                                intro v5 w5 ho5 hg5
                                have O5 := hid ho5
                                have B5 := hid (B4.out.grown hg5 B4.out.size O4.out.block_ge)
                                clear ho5 hg5 O4 B4 R1 E4 C4 d0 d1 dl
                                go_wp2
                                go_roundw
                                case rel => exact ⟨k + 1, z, _, rfl, HN.out, O5.out, B5.out⟩
                                case measure => simp [intOf]; omega
                            · have hnI : ¬ (z : Int) + 1 < (t.size : Int) := by omega
                              clear htw
                              have HS5 := hid (show stp t.data.toList p = .inr (A.data.toList, x.data.toList, z) by
                                rw [HG3.out, HSo.out]
                                simp only
                                rw [show j + 1 + (z - (j + 1)) = z by omega]
                                rfl)
                              have HN := hid (rn_step HR.out hpl HS5.out)
                              have R1 := hid (RE.one wr A x)
                              have O4 := hid ((HO.out.later C4.out).alloc (.cells #[.string A, .string x] 33))
                              have B4 := hid ((HB.out.trans (C4.out.mono HB.out.size)).alloc (HB.out.trans (C4.out.mono HB.out.size)).size (.cells #[.string A, .string x] 33))
                              obtain ⟨d0, d1, dl⟩ := E4.out.facts
                              go_wp2_with (at_builtin; refine wpList_appE rfl _ _ rfl w.heap.size _ L rfl O4.out _ [(A, x)] rfl R1.out ?hlen2 B4.out.size ?hnext2)
                              case hlen2 => show (L.length + 1) * 32 ≤ _; omega
                              case hnext2 =>
                                intro v5 w5 ho5 hg5
                                have O5 := hid ho5
                                have B5 := hid (B4.out.grown hg5 B4.out.size O4.out.block_ge)
                                clear ho5 hg5 O4 B4 R1 E4 C4 d0 d1 dl
                                go_wp2
                                go_roundw
                                case rel => exact ⟨k + 1, z, _, rfl, HN.out, O5.out, B5.out⟩
                                case measure => simp [intOf]; omega
                          · rw [decide_eq_true hc] at e1
                            rw [decide_eq_false (show ¬ t[z]'hzl = 40 by rw [hc]; decide)] at e0 HSo
                            clear hc
                            by_cases hn : z + 1 < t.size
                            · have hnI : (z : Int) + 1 < (t.size : Int) := by omega
                              have he := br_eq (t[z + 1]'hn) (t[z]'hzl)
                              rw [decide_eq_false (fun e => htw ⟨hn, e⟩)] at he
                              clear htw
                              have HS5 := hid (show stp t.data.toList p = .inl (29, (z : Int)) by
                                rw [HG3.out, HSo.out]
                                simp only
                                rw [show j + 1 + (z - (j + 1)) = z by omega]
                                rfl)
                              go_wp2
                              go_ret3
                              exact ⟨⟨_, [], _, _, rfl, RE.nil0 _, .inr ⟨by omega, k, p, L, HR.out, .inl ⟨by omega, HS5.out, rfl⟩⟩, by simp⟩, HB.out.trans (C4.out.mono HB.out.size)⟩
                            · have hnI : ¬ (z : Int) + 1 < (t.size : Int) := by omega
                              clear htw
                              have HS5 := hid (show stp t.data.toList p = .inl (29, (z : Int)) by
                                rw [HG3.out, HSo.out]
                                simp only
                                rw [show j + 1 + (z - (j + 1)) = z by omega]
                                rfl)
                              go_wp2
                              go_ret3
                              exact ⟨⟨_, [], _, _, rfl, RE.nil0 _, .inr ⟨by omega, k, p, L, HR.out, .inl ⟨by omega, HS5.out, rfl⟩⟩, by simp⟩, HB.out.trans (C4.out.mono HB.out.size)⟩
                      · have hb0 : t[z]'hzl ≠ 40 := fun h => hbr (.inl h)
                        have hb1 : t[z]'hzl ≠ 41 := fun h => hbr (.inr h)
                        rw [decide_eq_false hb0] at e0
                        rw [decide_eq_false hb1] at e1
                        have HN := hid (HSv.out.plain hzl2 (by rw [hbz]; exact hbr))
                        rw [hbz, ← HO1.out, ← ba_app] at HN
                        clear hbr hbz hb0 hb1
                        by_cases hn : z + 1 < t.size
                        · have hnI : (z : Int) + 1 < (t.size : Int) := by omega
                          obtain ⟨eb, heb⟩ : ∃ eb, (((t[z + 1]'hn).toNat : Int) == ((t[z]'hzl).toNat : Int)) = eb := ⟨_, rfl⟩
                          have X1 := hid (E4.out.put (x ++ X))
                          have d1 : wr.drew.cell? ⟨wo.heap.size, 1, none⟩ = some (.string x) := E4.out.facts.2.1
                          have d2 : wr.drew.frozen? ⟨wo.heap.size, 1, none⟩ = false := E4.out.frozen
                          go_wp2_with fail
                          go_region
                          go_wp2
                          go_roundw
                          case rel => exact ⟨z + 1, x ++ X, by omega, by go_num, HN.out, X1.out, (C4.out.drew).setCell (p := ⟨wo.heap.size, 1, none⟩) (Nat.le_refl _) _⟩
                          case measure => simp [intOf]; omega
                        · have hnI : ¬ (z : Int) + 1 < (t.size : Int) := by omega
                          have X1 := hid (E4.out.put (x ++ X))
                          have d1 : wr.drew.cell? ⟨wo.heap.size, 1, none⟩ = some (.string x) := E4.out.facts.2.1
                          have d2 : wr.drew.frozen? ⟨wo.heap.size, 1, none⟩ = false := E4.out.frozen
                          go_wp2_with fail
                          go_region
                          go_wp2
                          go_roundw
                          case rel => exact ⟨z + 1, x ++ X, by omega, by go_num, HN.out, X1.out, (C4.out.drew).setCell (p := ⟨wo.heap.size, 1, none⟩) (Nat.le_refl _) _⟩
                          case measure => simp [intOf]; omega
                    · have hzI : ¬ (z : Int) < (t.size : Int) := by omega
                      have HSo := hid (HSv.out.out (by omega))
                      have HS5 := hid (show stp t.data.toList p = .inr (A.data.toList, x.data.toList, z) by
                        rw [HG3.out, HSo.out]
                        simp only
                        rw [show j + 1 + (z - (j + 1)) = z by omega]
                        rfl)
                      have HN := hid (rn_step HR.out hpl HS5.out)
                      have R1 := hid (RE.one wr A x)
                      have O4 := hid ((HO.out.later C4.out).alloc (.cells #[.string A, .string x] 33))
                      have B4 := hid ((HB.out.trans (C4.out.mono HB.out.size)).alloc (HB.out.trans (C4.out.mono HB.out.size)).size (.cells #[.string A, .string x] 33))
                      obtain ⟨d0, d1, dl⟩ := E4.out.facts
                      go_wp2_with (at_builtin; refine wpList_appE rfl _ _ rfl w.heap.size _ L rfl O4.out _ [(A, x)] rfl R1.out ?hlen2 B4.out.size ?hnext2)
                      case hlen2 => show (L.length + 1) * 32 ≤ _; omega
                      case hnext2 =>
                        intro v5 w5 ho5 hg5
                        have O5 := hid ho5
                        have B5 := hid (B4.out.grown hg5 B4.out.size O4.out.block_ge)
                        clear ho5 hg5 O4 B4 R1 E4 C4 d0 d1 dl
                        go_wp2
                        go_roundw
                        case rel => exact ⟨k + 1, z, _, rfl, HN.out, O5.out, B5.out⟩
                        case measure => simp [intOf]; omega
              · rw [decide_eq_false h41] at c1
                have hcn : (((t[j]'hjl).toNat : Int) != 41) = true := by rw [bne, c1]; rfl
                have HN2 := hid (HN.out.next hjl2 (by rw [hbj]; exact h41))
                clear hbj h41 HN HS HG HSh
                go_wp2
                go_roundw
                case rel => exact ⟨m + 1, by omega, by rw [← hj]; go_num, by rw [show p + 1 + (m + 1) = j + 1 by omega]; exact HN2.out, by simp⟩
                case measure => simp [intOf]; omega
            · have hjI : ¬ (j : Int) < (t.size : Int) := by omega
              have hgj : (t.size : Int) ≤ (j : Int) := by omega
              have hix := HN.out.none (by omega)
              have HSt := hid (HSh.out (by omega))
              rw [hl] at HSt
              clear HN HS HG HSh
              go_wp2
              go_ret3
              exact ⟨⟨_, [], _, _, rfl, RE.nil0 _, .inr ⟨by omega, k, p, L, HR.out, .inl ⟨by omega, HSt.out, rfl⟩⟩, by simp⟩, HB.out⟩
        · rw [decide_eq_false h40] at b1
          have hbn : (((t[p]'hlt).toNat : Int) != 40) = true := by rw [bne, b1]; rfl
          have HST := hid (stp_not hpl (by rw [hbt]; exact h40))
          clear hbt h40
          go_wp2
          go_ret3
          exact ⟨⟨_, [], _, _, rfl, RE.nil0 _, .inr ⟨by omega, k, p, L, HR.out, .inl ⟨by omega, HST.out, rfl⟩⟩, by simp⟩, HB.out⟩
      · have hpI : ¬ (p : Int) < (t.size : Int) := by omega
        have HP := hid (refPrint_any _ L wr HO.out.reads (fun x hx => by have := HX.out x hx; omega) (by omega))
        go_wp2_with fail
        refine HP.out.mono ?_
        rintro e w2 ⟨⟨s, en, n, rfl, hpr⟩, hb2⟩
        have R2 := hid (HO.out.reads.below hb2)
        have B2 := hid (HB.out.trans (hb2.mono HB.out.size))
        have HPR := hid hpr
        clear hb2 hpr HP HO HB
        by_cases h0 : en = 0
        · subst h0
          obtain ⟨_, rfl⟩ := HPR.out.zero
          go_wp2
          go_ret3
          exact ⟨⟨_, L, _, _, rfl, R2.out, .inr ⟨by omega, k, p, L, HR.out, .inr ⟨by omega, s, HPR.out, .inr ⟨rfl, rfl⟩⟩⟩, by omega⟩, B2.out⟩
        · have hnb : (en != 0) = true := by simp [h0]
          have HN := hid h0
          clear h0
          go_wp2
          go_ret3
          exact ⟨⟨_, [], _, _, rfl, RE.nil0 _, .inr ⟨by omega, k, p, L, HR.out, .inr ⟨by omega, s, HPR.out, .inl ⟨HN.out, rfl⟩⟩⟩, by simp⟩, B2.out⟩
end Go.Proofs.YtdcodedfojjacaaDoor
