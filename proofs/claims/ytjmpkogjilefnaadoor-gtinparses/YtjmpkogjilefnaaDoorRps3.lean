/-
  The document's own Parse.
-/
import Derived.Test.YtjmpkogjilefnaaDoorRps2
namespace Go.Proofs.YtjmpkogjilefnaaDoor
open Go.RowKit
set_option maxRecDepth 100000

set_option maxHeartbeats 16000000 in
theorem refParse_any (t : ByteArray) (w : World) (hs : t.size ≤ 9223372036854775807) :
    Calls Tryd.prog 13 #[.string t] w fun e w' => (∃ v M en n, e = .returned (.tuple #[v, .int .i64 en, .int .i64 n]) ∧ RE w' v M ∧ PaA t.data.toList M en n ∧ M.length ≤ 512) ∧ Below w.heap.size w w' := by
  have hl := len_list t
  by_cases h20 : 512 < t.size
  · have hI : (512 : Int) < (t.size : Int) := by omega
    go_enter Tryd.func13, Tryd.ntmps13
    go_wp2
    go_ret3
    exact ⟨⟨_, [], _, _, rfl, RE.nil0 _, .inl ⟨by omega, rfl, rfl, rfl⟩, by simp⟩, Below.refl _ _⟩
  · have hI : ¬ (512 : Int) < (t.size : Int) := by omega
    go_enter Tryd.func13, Tryd.ntmps13
    go_wp2_with fail
    go_loopw [5, 6, 7] (fun lv gv i wr => ∃ (k p : Nat) (L : List El) (G : List Nat), i = .int .i64 (p : Int) ∧ rp t.data.toList k = some (p, L, G) ∧ OE wr w.heap.size lv L ∧ OG wr w.heap.size gv G ∧ Below w.heap.size w wr) (fun _ _ i _ => t.size - (intOf i).toNat)
    case atStart => exact ⟨0, 0, [], [], rfl, rfl, OE.nil _ _, OG.nil _ _, Below.refl _ _⟩
    case round =>
      obtain ⟨k, p, L, G, rfl, hr, hO, hN, hb⟩ := hrel
      obtain ⟨hLp, hpt, hGL, hGx, hLx⟩ := rp_inv hr
      rw [hl] at hpt
      have HR := hid hr
      have HO := hid hO
      have HN := hid hN
      have HB := hid hb
      clear hr hO hN hb hLx hGx
      by_cases hlt : p < t.size
      · have hpI : (p : Int) < (t.size : Int) := by omega
        have hsubp := fun w => run_subN t p (by omega) w
        have hRe := ext_end t p
        have hRs : (t.extract p t.size).size = t.size - p := by rw [← len_list, hRe, List.length_drop, hl]
        obtain ⟨rest, hrest⟩ : ∃ rest, t.extract p t.size = rest := ⟨_, rfl⟩
        rw [hrest] at hsubp hRe hRs
        have HRe := hid hRe
        have HAl := hid (all_any wr)
        clear hrest hRe
        obtain ⟨wo, rfl⟩ : ∃ wo, wo = wr := ⟨_, rfl⟩
        go_wp2_with fail
        refine HAl.out.mono ?_
        rintro e w1 ⟨⟨g, rfl, hrs⟩, b1⟩
        have O1 := hid (HO.out.later b1)
        have N1 := hid (HN.out.later b1)
        have B1 := hid (HB.out.trans (b1.mono HB.out.size))
        have RS1 := hid hrs
        clear hrs b1 HAl HO HN HB
        go_wp2_with fail
        go_loopw [9, 10, 12] (fun av sv i wx => ∃ (j : Nat) (A : ByteArray), j ≤ 39 ∧ i = .int .i64 (j : Int) ∧ wx = w1 ∧ av = .string A ∧ AiR (t.data.toList.drop p) j A.data.toList ∧ sv = .bool (shB (t.data.toList.drop p) j)) (fun _ _ i _ => 39 - (intOf i).toNat)
        case atStart => exact ⟨0, ⟨#[]⟩, by omega, rfl, rfl, rfl, .inl ⟨rfl, fun i _ h => by omega⟩, rfl⟩
        case round =>
          obtain ⟨j, A, hj, rfl, hw, rfl, hA, rfl⟩ := hrel
          have hws := hw.symm
          clear hw
          subst hws
          have HA := hid hA
          clear hA
          by_cases hjl : j < 39
          · have hjI : (j : Int) < 39 := by omega
            have hj0 : (0 : Int) ≤ (j : Int) := by omega
            have hjA : j < AL.length := hjl
            have cj := RS1.out j hjA
            have HSt := hid (shB_step (t.data.toList.drop p) j hjA)
            have HM := hid (List.getElem_mem hjA)
            obtain ⟨a, ha⟩ : ∃ a, AL[j] = a := ⟨_, rfl⟩
            rw [ha] at cj HSt HM
            have HAe := hid ha
            have hal := AL_le a HM.out
            obtain ⟨Q, hQ⟩ : ∃ Q : ByteArray, (⟨a.toArray⟩ : ByteArray) = Q := ⟨_, rfl⟩
            have hQa : Q.data.toList = a := by rw [← hQ]
            rw [hQ] at cj
            have hQs : Q.size = a.length := by rw [← len_list, hQa]
            have G1 := hid (fun w => begins_any rest Q w)
            have G2 := hid (fun w => begins_any Q rest w)
            rw [HRe.out, hQa] at G1 G2
            have HQ := hid hQa
            clear ha hQ hQa
            have hdl : decide ((t.data.toList.drop p).length < a.length) = decide (rest.size < Q.size) := by rw [List.length_drop, hl, hRs, hQs]
            rw [hdl] at HSt
            obtain ⟨s0, hs0⟩ : ∃ s0, shB (t.data.toList.drop p) j = s0 := ⟨_, rfl⟩
            rw [hs0] at HSt ⊢
            obtain ⟨f1, hf1⟩ : ∃ f1, a.isPrefixOf (t.data.toList.drop p) = f1 := ⟨_, rfl⟩
            obtain ⟨f2, hf2⟩ : ∃ f2, (t.data.toList.drop p).isPrefixOf a = f2 := ⟨_, rfl⟩
            rw [hf1] at G1
            rw [hf2] at G2 HSt
            have HF1 := hid hf1
            clear hs0 hf1 hf2 hdl
            have HN2 := hid (show ∀ A' : ByteArray, (f1 = true → A' = Q) → (f1 = false → A' = A) → AiR (t.data.toList.drop p) (j + 1) A'.data.toList from fun A' h1 h2 => by
              cases f1 with
              | true => rw [h1 rfl, HQ.out]; exact .inr ⟨HM.out, HF1.out⟩
              | false =>
                rw [h2 rfl]
                rcases HA.out with ⟨hz, hh⟩ | hh
                · refine .inl ⟨hz, fun i hi hij => ?_⟩
                  by_cases e : i = j
                  · subst e; rw [HAe.out]; exact HF1.out
                  · exact hh i hi (by omega)
                · exact .inr hh)
            clear HA HF1 HAe HM HQ
            cases f1 with
            | true =>
              have HN3 := hid (HN2.out Q (fun _ => rfl) (fun h => by cases h))
              clear HN2
              go_wp2_with fail
              refine (G1.out _).mono ?_
              rintro e wz ⟨rfl, hwz⟩
              have hws := hwz.symm
              clear hwz
              subst hws
              cases s0 with
              | true =>
                rw [Bool.true_or] at HSt
                go_wp2
                go_roundw
                case rel => exact ⟨j + 1, Q, by omega, by go_num, by simp, rfl, HN3.out, by rw [HSt.out]⟩
                case measure => simp [intOf]; omega
              | false =>
                rw [Bool.false_or] at HSt
                by_cases hsl : rest.size < Q.size
                · rw [decide_eq_true hsl, Bool.true_and] at HSt
                  have hslI : (rest.size : Int) < (Q.size : Int) := by omega
                  go_wp2_with fail
                  refine (G2.out _).mono ?_
                  rintro e wz ⟨rfl, hwz⟩
                  have hws := hwz.symm
                  clear hwz
                  subst hws
                  go_wp2
                  go_roundw
                  case rel => exact ⟨j + 1, Q, by omega, by go_num, by simp, rfl, HN3.out, by rw [HSt.out]⟩
                  case measure => simp [intOf]; omega
                · rw [decide_eq_false hsl, Bool.false_and] at HSt
                  have hslI : ¬ (rest.size : Int) < (Q.size : Int) := by omega
                  go_wp2
                  go_roundw
                  case rel => exact ⟨j + 1, Q, by omega, by go_num, by simp, rfl, HN3.out, by rw [HSt.out]⟩
                  case measure => simp [intOf]; omega
            | false =>
              have HN3 := hid (HN2.out A (fun h => by cases h) (fun _ => rfl))
              clear HN2
              go_wp2_with fail
              refine (G1.out _).mono ?_
              rintro e wz ⟨rfl, hwz⟩
              have hws := hwz.symm
              clear hwz
              subst hws
              cases s0 with
              | true =>
                rw [Bool.true_or] at HSt
                go_wp2
                go_roundw
                case rel => exact ⟨j + 1, A, by omega, by go_num, by simp, rfl, HN3.out, by rw [HSt.out]⟩
                case measure => simp [intOf]; omega
              | false =>
                rw [Bool.false_or] at HSt
                by_cases hsl : rest.size < Q.size
                · rw [decide_eq_true hsl, Bool.true_and] at HSt
                  have hslI : (rest.size : Int) < (Q.size : Int) := by omega
                  go_wp2_with fail
                  refine (G2.out _).mono ?_
                  rintro e wz ⟨rfl, hwz⟩
                  have hws := hwz.symm
                  clear hwz
                  subst hws
                  go_wp2
                  go_roundw
                  case rel => exact ⟨j + 1, A, by omega, by go_num, by simp, rfl, HN3.out, by rw [HSt.out]⟩
                  case measure => simp [intOf]; omega
                · rw [decide_eq_false hsl, Bool.false_and] at HSt
                  have hslI : ¬ (rest.size : Int) < (Q.size : Int) := by omega
                  go_wp2
                  go_roundw
                  case rel => exact ⟨j + 1, A, by omega, by go_num, by simp, rfl, HN3.out, by rw [HSt.out]⟩
                  case measure => simp [intOf]; omega
          · have hjI : ¬ (j : Int) < 39 := by omega
            have hj39 : j = 39 := by omega
            subst hj39
            have HShB := hid (show shB (t.data.toList.drop p) 39 = AL.any (fun a => decide ((t.data.toList.drop p).length < a.length) && (t.data.toList.drop p).isPrefixOf a) by unfold shB; rw [List.take_of_length_le (by rw [AL_len]; omega)])
            rcases HA.out with ⟨hz, hh⟩ | ⟨hm, hpre⟩
            · have hAe : A = ⟨#[]⟩ := ByteArray.ext (Array.ext' hz)
              subst hAe
              obtain ⟨n1, n2⟩ := ahK_not (l := t.data.toList.drop p) (fun a ha => by
                obtain ⟨i, hi, rfl⟩ := List.mem_iff_getElem.1 ha
                exact hh i hi (by have := AL_len; omega))
              have HP := hid (psp_none (L := L) n1)
              rw [n2, ← HShB.out] at HP
              clear hz hh n1 n2 HA
              cases hsb : shB (t.data.toList.drop p) 39 with
              | true =>
                rw [hsb, if_pos rfl, if_pos rfl, hl] at HP
                clear HShB hsb
                go_wp2
                go_ret3
                exact ⟨⟨_, [], _, _, rfl, RE.nil0 _, .inr ⟨by omega, k, p, L, G, HR.out, .inl ⟨by omega, HP.out, rfl⟩⟩, by simp⟩, B1.out⟩
              | false =>
                rw [hsb, if_neg (by simp), if_neg (by decide)] at HP
                clear HShB hsb
                go_wp2
                go_ret3
                exact ⟨⟨_, [], _, _, rfl, RE.nil0 _, .inr ⟨by omega, k, p, L, G, HR.out, .inl ⟨by omega, HP.out, rfl⟩⟩, by simp⟩, B1.out⟩
            · obtain ⟨kk, hk, hkf⟩ := ahK_is hm hpre
              obtain ⟨a2, a4, k0, k12, hpa⟩ := ahK_len hk
              have hpa := hpa (by omega)
              have hAs := len_list A
              rw [hAs, hl] at hpa
              rw [hAs] at a2 a4
              have hb0 : (A.toList == []) = false := by
                rw [ByteArray.toList_eq, beq_eq_false_iff_ne]
                intro e
                rw [e] at hAs
                simp at hAs
                omega
              have HBs := hid (fun w h => beside_any u5 L A w h (by omega))
              obtain ⟨cl, hcl⟩ : ∃ cl, clE L A.data.toList = cl := ⟨_, rfl⟩
              rw [hcl] at HBs
              have HCl := hid hcl
              clear hm hpre HA HShB hcl
              go_wp2_with fail
              refine (HBs.out _ O1.out.reads).mono ?_
              rintro e wz ⟨rfl, hwz⟩
              have hws := hwz.symm
              clear hwz
              subst hws
              by_cases h0 : cl = 0
              · subst h0
                have HCL := HCl
                clear HCl HBs
                have HK := hid (fun w => refKindOf_any A w)
                unfold rkV at HK
                rw [hkf] at HK
                simp only [Option.getD_some, Option.isSome_some] at HK
                obtain ⟨am, hrk⟩ := rk_is kk k0 k12
                rw [hrk] at HK
                unfold rk at HK
                obtain ⟨lo, hlo⟩ : ∃ lo, loK kk = lo := ⟨_, rfl⟩
                obtain ⟨hi, hhi⟩ : ∃ hi, hiK kk = hi := ⟨_, rfl⟩
                obtain ⟨pl, hpl⟩ : ∃ pl, plK kk = pl := ⟨_, rfl⟩
                obtain ⟨dgb, hdgE⟩ : ∃ dgb, decide (kk ≤ 8) = dgb := ⟨_, rfl⟩
                obtain ⟨cd, hcdE⟩ : ∃ cd, decide (kk ≤ 2) = cd := ⟨_, rfl⟩
                obtain ⟨dy, hdyE⟩ : ∃ dy, decide (kk = 3) = dy := ⟨_, rfl⟩
                have hi90 : hi ≤ 90 := by rw [← hhi]; exact hiK_le kk
                have lo90 : lo ≤ 90 := by rw [← hlo]; exact loK_le kk
                rw [hlo, hhi, hpl, hdgE, hcdE, hdyE] at HK
                clear hrk hkf
                obtain ⟨fr, hfre⟩ : ∃ fr, p + A.size = fr := ⟨_, rfl⟩
                have hfi : (p : Int) + (A.size : Int) = (fr : Int) := by omega
                have hpf : p + 2 ≤ fr := by omega
                have hft : fr ≤ t.size := by omega
                rw [← hAs] at hfre
                have HPE := hid (fun n e hv => psp_end (L := L) (n := n) (e := e) hk HCL.out hv)
                rw [hfre] at HPE
                go_wp2_with fail
                refine (HK.out _).mono ?_
                rintro e w2 ⟨rfl, b2⟩
                have O2 := hid (O1.out.later b2)
                have N2 := hid (N1.out.later b2)
                have B2 := hid (B1.out.trans (b2.mono B1.out.size))
                have LV := hid (fun j hj => (World.ownsRow.lt O2.out j hj).2)
                have GV := hid (fun j hj => (World.ownsRow.lt N2.out j hj).2)
                obtain ⟨WX, hW⟩ : ∃ WX, w2.alloc (.cells #[.bool pl, .bool dgb, .int .i64 (lo : Int), .int .i64 (hi : Int), .bool cd, .bool dy, .bool am] 52) = WX := ⟨_, rfl⟩
                have bW : Below w2.heap.size w2 WX := hW ▸ (Below.refl _ _).alloc (Nat.le_refl _) _
                have KX := hid (show KBx WX w2.heap.size pl dgb lo hi cd dy am from hW ▸ heap_alloc_new _ _)
                have OX := hid (O2.out.later bW)
                have NX := hid (N2.out.later bW)
                have BX := hid (B2.out.trans (bW.mono B2.out.size))
                clear HK b2 bW O1 N1 B1 O2 N2 B2 RS1
                obtain ⟨z0, z1, z2, z3, z4, z5, z6⟩ := KX.out.facts
                cases pl with
                | true =>
                  have hlh : lo = hi := by
                    have h := hpl
                    unfold plK at h
                    simp only [Bool.or_eq_true, decide_eq_true_eq] at h
                    have hk' : kk = 0 ∨ kk = 1 ∨ kk = 2 ∨ kk = 3 ∨ kk = 4 ∨ kk = 6 := by omega
                    rw [← hlo, ← hhi]
                    rcases hk' with rfl | rfl | rfl | rfl | rfl | rfl <;> rfl
                  have h36 : kk = 3 → hi = 6 := fun e => by rw [← hhi, e]; rfl
                  have HVd := hid (show vend kk (t.data.toList.drop fr) = vp hi (t.data.toList.drop fr) 0 by unfold vend; rw [hpl, if_pos rfl, hhi])
                  have HPL := hid hpl
                  subst hlh
                  clear hlo hhi hpl
                  go_wp2_with fail
                  clear hW
                  have hkb : w2.heap.size = w2.heap.size := rfl
                  generalize w2.heap.size = kb at *
                  go_loopw [17] (fun i wx => ∃ en : Nat, fr ≤ en ∧ en ≤ t.size ∧ en ≤ fr + lo ∧ i = .int .i64 (en : Int) ∧ vp lo (t.data.toList.drop fr) 0 = vp (fr + lo - en) (t.data.toList.drop en) (en - fr) ∧ wx = WX) (fun i _ => fr + lo - (intOf i).toNat)
                  case atStart => exact ⟨fr, by omega, by omega, by omega, rfl, by rw [Nat.sub_self, show fr + lo - fr = lo by omega], rfl⟩
                  case round =>
                    obtain ⟨en, hfe, hes, hel, rfl, hvp, hw⟩ := hrel
                    have hws := hw.symm
                    clear hw
                    subst hws
                    have HVp := hid hvp
                    clear hvp
                    by_cases hlt3 : en < fr + lo
                    · have hlI : (en : Int) < (fr : Int) + (lo : Int) := by omega
                      obtain ⟨r, hr⟩ : ∃ r, fr + lo - en = r + 1 := ⟨fr + lo - en - 1, by omega⟩
                      rw [hr] at HVp
                      by_cases hee : en < t.size
                      · have heI : (en : Int) < (t.size : Int) := by omega
                        have hegI : ¬ (t.size : Int) ≤ (en : Int) := by omega
                        have hel2 : en < t.data.toList.length := by omega
                        rw [List.drop_eq_getElem_cons hel2, byte_list t en hee, vp] at HVp
                        have HDg := hid (fun w => refIsDigit_any (t[en]'hee) w)
                        cases hdb : isDB (t[en]'hee) with
                        | true =>
                          rw [hdb, if_pos rfl] at HVp
                          rw [hdb] at HDg
                          have HVn := hid (show vp lo (t.data.toList.drop fr) 0 = vp (fr + lo - (en + 1)) (t.data.toList.drop (en + 1)) (en + 1 - fr) by rw [HVp.out, show fr + lo - (en + 1) = r by omega, show en - fr + 1 = en + 1 - fr by omega])
                          clear hdb HVp hr
                          go_wp2_with fail
                          refine (HDg.out _).mono ?_
                          rintro e wz ⟨rfl, hwz⟩
                          have hws := hwz.symm
                          clear hwz
                          subst hws
                          go_wp2
                          go_roundw
                          case rel => exact ⟨en + 1, by omega, by omega, by omega, by go_num, HVn.out, by simp⟩
                          case measure => simp [intOf]; omega
                        | false =>
                          rw [hdb, if_neg (by simp)] at HVp
                          rw [hdb] at HDg
                          have HE := hid (HPE.out (en - fr) 20 (by rw [HVd.out, HVp.out]))
                          rw [show fr + (en - fr) = en by omega] at HE
                          clear hdb HVp hr
                          go_wp2_with fail
                          refine (HDg.out _).mono ?_
                          rintro e wz ⟨rfl, hwz⟩
                          have hws := hwz.symm
                          clear hwz
                          subst hws
                          go_wp2
                          go_ret3
                          exact ⟨⟨_, [], _, _, rfl, RE.nil0 _, .inr ⟨by omega, k, p, L, G, HR.out, .inl ⟨by omega, HE.out, rfl⟩⟩, by simp⟩, BX.out⟩
                      · have heI : (t.size : Int) ≤ (en : Int) := by omega
                        rw [show t.data.toList.drop en = [] from List.drop_of_length_le (by omega), vp] at HVp
                        have HE := hid (HPE.out (en - fr) 3 (by rw [HVd.out, HVp.out]))
                        rw [show fr + (en - fr) = t.size by omega] at HE
                        clear HVp hr
                        go_wp2
                        go_ret3
                        exact ⟨⟨_, [], _, _, rfl, RE.nil0 _, .inr ⟨by omega, k, p, L, G, HR.out, .inl ⟨by omega, HE.out, rfl⟩⟩, by simp⟩, BX.out⟩
                    · have hlI : ¬ (en : Int) < (fr : Int) + (lo : Int) := by omega
                      have HV := hid (show vend kk (t.data.toList.drop (p + A.data.toList.length)) = .inr (en - fr) by
                        rw [hfre, HVd.out, HVp.out, show fr + lo - en = 0 by omega, vp])
                      clear HVp HPE HVd
                      have hsubX := fun w => run_subG t fr en (en : Int) rfl (by omega) (by omega) w
                      have hXd : (t.extract fr en).data.toList = (t.data.toList.drop fr).take (en - fr) := by rw [Lib.extract_data]
                      have hXs : (t.extract fr en).size = en - fr := by rw [← len_list, hXd, List.length_take, List.length_drop]; omega
                      have HPW := hid (fun h => psp_whole (L := L) hk HCL.out HV.out h)
                      have HPG0 := hid (fun h => psp_go (L := L) hk HCL.out HV.out h)
                      rw [hfre, ← hXd] at HPW HPG0
                      rw [show fr + (en - fr) = en by omega, hl] at HPG0
                      obtain ⟨X, hX⟩ : ∃ X, t.extract fr en = X := ⟨_, rfl⟩
                      rw [hX] at hsubX hXs HPW HPG0
                      clear hX hXd HV
                      by_cases hcd : kk ≤ 2
                      · have hcde : cd = true := by rw [← hcdE]; exact decide_eq_true hcd
                        have hdye : dy = false := by rw [← hdyE]; exact decide_eq_false (by omega)
                        subst hcde hdye
                        have HSm := hid (fun w => refSum_any X w (by omega))
                        have hwe : whK kk X.data.toList = cF X.data.toList := by unfold whK; rw [if_pos hcd]
                        have hXl := len_list X
                        rw [hwe] at HPW HPG0
                        unfold cF at HPW HPG0
                        rw [hXl, hXs] at HPW
                        clear hwe hcd
                        have hsb := wsum_le (dg X.data.toList) X.data.toList.length (dg_le X.data.toList)
                        rw [show wsum (dg X.data.toList) X.data.toList.length = sm X.data.toList from rfl, hXl] at hsb
                        obtain ⟨sm0, hsm⟩ : ∃ sm0, sm X.data.toList = sm0 := ⟨_, rfl⟩
                        rw [hsm] at HSm HPW HPG0 hsb
                        clear hsm
                        obtain ⟨z0, z1, z2, z3, z4, z5, _⟩ := KX.out.facts
                        go_wp2_with fail
                        refine (HSm.out _).mono ?_
                        rintro e wz ⟨rfl, hwz⟩
                        have hws := hwz.symm
                        clear hwz
                        subst hws
                        have hm : (sm0 : Int).tmod 10 = ((sm0 % 10 : Nat) : Int) := by rw [Int.tmod_eq_emod_of_nonneg (by omega)]; omega
                        by_cases h10 : sm0 % 10 = 0
                        · have HPG := hid (HPG0.out (by rw [if_pos h10]))
                          rw [h10] at hm
                          clear h10 HPG0 HPW
                          have R1 := hid (RE.one WX A X)
                          have O6 := hid (OX.out.alloc (.cells #[.string A, .string X] 33))
                          have B6 := hid (BX.out.alloc BX.out.size (.cells #[.string A, .string X] 33))
                          go_wp2_with (at_builtin; refine wpList_appE rfl _ _ rfl w.heap.size _ L rfl O6.out _ [(A, X)] rfl R1.out ?hlen2 B6.out.size ?hnext2)
                          case hlen2 => show (L.length + 1) * 32 ≤ _; omega
                          case hnext2 =>
                            intro v5 w5 ho5 hg5
                            have s5 : WX.grownBy w5 u5.ownBlock := gb_trans (gb_alloc _ _ _) hg5
                            have O7 := hid ho5
                            have B7 := hid (BX.out.grown s5 BX.out.size (fun j hj => (World.ownsRow.lt OX.out j hj).1))
                            have hap := own_apart OX.out NX.out
                            have N7 := hid (show OG w5 w.heap.size u6 G from World.ownsRow.kept NX.out s5 (by
                              cases hg : u6.ownBlock with
                              | none => exact .inl rfl
                              | some j => exact .inr (fun e => hap j e.symm hg)))
                            have K7 := hid (show KBx w5 kb true dgb lo lo _ _ am from (s5.block kb KX.out.facts.2.2.2.2.2.2 (fun e => by have := LV.out kb e.symm; omega)).trans KX.out)
                            clear ho5 hg5 s5 hap R1 O6 B6 OX NX KX BX
                            obtain ⟨j0, hj0, hy0, hy1, hy2⟩ := info_parts intinfo
                            have hz7 := B7.out.size
                            go_wp2_with (at_builtin; refine wpList_append_own _ rfl _ _ 37 rfl w.heap.size 3 j0 (.int .i64 0) 1 8 Tryd.underlying37 hj0 hy0 hy1 hy2 rfl (by decide) _ _ _ rfl (World.ownsRow.alloc N7.out _) ⟨w5.heap.size, 0, none⟩ 1 1 [.int .i64 (p : Int)] rfl rfl ?c1 ?c2 ?c3 ?c4 ?c5 ?c6)
                            case c1 =>
                              intro j u hj
                              match j, hj with
                              | 0, hj => simp at hj; subst hj; simp [Addr.add]
                            case c2 => intro u hu; simp at hu; subst hu; rfl
                            case c3 => unfold maxLen; omega
                            case c4 => omega
                            case c5 => simp; omega
                            case c6 =>
                              intro v8 w8 hown8 hgrow8 _
                              have s8 : w5.grownBy w8 u6.ownBlock := gb_trans (gb_alloc _ _ _) hgrow8
                              have hap := own_apart O7.out N7.out
                              have O8 := hid (show OE w8 w.heap.size v5 (L ++ [(A, X)]) from World.ownsRow.kept O7.out s8 (by
                                cases hg : v5.ownBlock with
                                | none => exact .inl rfl
                                | some j => exact .inr (fun e => hap j hg e.symm)))
                              have N8 := hid (show OG w8 w.heap.size v8 (G ++ [p]) by
                                unfold OG
                                rw [List.map_append, List.length_append, hGL]
                                exact hown8)
                              have B8 := hid (B7.out.grown s8 B7.out.size (fun j hj => (World.ownsRow.lt N7.out j hj).1))
                              have K8 := hid (show KBx w8 kb true dgb lo lo _ _ am from (s8.block kb K7.out.facts.2.2.2.2.2.2 (fun e => by have := GV.out kb e.symm; omega)).trans K7.out)
                              clear hown8 hgrow8 s8 hap O7 N7 K7 B7
                              obtain ⟨z0, _⟩ := K8.out.facts
                              have HQ := hid (HPG.out.trans (if_pos (.inl HPL.out)))
                              have HNx := hid (rp_step HR.out (by omega) HQ.out)
                              go_wp2
                              go_roundw
                              case rel => exact ⟨k + 1, en, _, _, by go_num, HNx.out, O8.out, N8.out, B8.out⟩
                              case measure => simp [intOf]; omega
                        · have HE := hid (HPW.out (by rw [if_neg h10]; simp))
                          rw [if_neg h10] at HE
                          simp only at HE
                          rw [show ((fr : Nat) : Int) + (((en - fr : Nat) : Int) - 1) = (en : Int) - 1 by omega] at HE
                          obtain ⟨r, hr⟩ : ∃ r : Nat, sm0 % 10 = r := ⟨_, rfl⟩
                          rw [hr] at hm h10
                          have hmb : ((r : Int) != 0) = true := by simp; omega
                          clear hr
                          clear h10 HPG0 HPW
                          go_wp2
                          go_ret3
                          exact ⟨⟨_, [], _, _, rfl, RE.nil0 _, .inr ⟨by omega, k, p, L, G, HR.out, .inl ⟨by omega, HE.out, rfl⟩⟩, by simp⟩, BX.out⟩
                      · have hcde : cd = false := by rw [← hcdE]; exact decide_eq_false hcd
                        subst hcde
                        by_cases h3 : kk = 3
                        · have hdye : dy = true := by rw [← hdyE]; exact decide_eq_true h3
                          subst hdye
                          have HD := hid (fun w => isDay_any X w (by rw [hXs]; omega))
                          have hwe : whK kk X.data.toList = (if DayOk (yy X.data.toList) (mm X.data.toList) (dd X.data.toList) then 0 else 28, 0) := by unfold whK; rw [if_neg hcd, if_pos h3]
                          rw [hwe] at HPW HPG0
                          clear hwe hcd h3
                          obtain ⟨y0, y1, y2, y3, y4, y5, y6⟩ := KX.out.facts
                          go_wp2_with fail
                          refine (HD.out _).mono ?_
                          rintro e wz ⟨rfl, hbz⟩
                          have OZ := hid (OX.out.later hbz)
                          have NZ := hid (NX.out.later hbz)
                          have KZ := hid (KX.out.later hbz)
                          have BZ := hid (BX.out.trans (hbz.mono BX.out.size))
                          clear hbz OX NX KX BX y0 y1 y2 y3 y4 y5 y6 z0 z1 z2 z3 z4 z5 z6 HD
                          have OX := OZ
                          have NX := NZ
                          have KX := KZ
                          have BX := BZ
                          clear OZ NZ KZ BZ
                          obtain ⟨WX, rfl⟩ : ∃ WX, WX = wz := ⟨_, rfl⟩
                          by_cases hday : DayOk (yy X.data.toList) (mm X.data.toList) (dd X.data.toList)
                          · rw [decide_eq_true hday]
                            have HPG := hid (HPG0.out (by rw [if_pos hday]))
                            clear hday HPG0 HPW
                            have R1 := hid (RE.one WX A X)
                            have O6 := hid (OX.out.alloc (.cells #[.string A, .string X] 33))
                            have B6 := hid (BX.out.alloc BX.out.size (.cells #[.string A, .string X] 33))
                            go_wp2_with (at_builtin; refine wpList_appE rfl _ _ rfl w.heap.size _ L rfl O6.out _ [(A, X)] rfl R1.out ?hlen2 B6.out.size ?hnext2)
                            case hlen2 => show (L.length + 1) * 32 ≤ _; omega
                            case hnext2 =>
                              intro v5 w5 ho5 hg5
                              have s5 : WX.grownBy w5 u5.ownBlock := gb_trans (gb_alloc _ _ _) hg5
                              have O7 := hid ho5
                              have B7 := hid (BX.out.grown s5 BX.out.size (fun j hj => (World.ownsRow.lt OX.out j hj).1))
                              have hap := own_apart OX.out NX.out
                              have N7 := hid (show OG w5 w.heap.size u6 G from World.ownsRow.kept NX.out s5 (by
                                cases hg : u6.ownBlock with
                                | none => exact .inl rfl
                                | some j => exact .inr (fun e => hap j e.symm hg)))
                              have K7 := hid (show KBx w5 kb true dgb lo lo _ _ am from (s5.block kb KX.out.facts.2.2.2.2.2.2 (fun e => by have := LV.out kb e.symm; omega)).trans KX.out)
                              clear ho5 hg5 s5 hap R1 O6 B6 OX NX KX BX
                              obtain ⟨j0, hj0, hy0, hy1, hy2⟩ := info_parts intinfo
                              have hz7 := B7.out.size
                              go_wp2_with (at_builtin; refine wpList_append_own _ rfl _ _ 37 rfl w.heap.size 3 j0 (.int .i64 0) 1 8 Tryd.underlying37 hj0 hy0 hy1 hy2 rfl (by decide) _ _ _ rfl (World.ownsRow.alloc N7.out _) ⟨w5.heap.size, 0, none⟩ 1 1 [.int .i64 (p : Int)] rfl rfl ?c1 ?c2 ?c3 ?c4 ?c5 ?c6)
                              case c1 =>
                                intro j u hj
                                match j, hj with
                                | 0, hj => simp at hj; subst hj; simp [Addr.add]
                              case c2 => intro u hu; simp at hu; subst hu; rfl
                              case c3 => unfold maxLen; omega
                              case c4 => omega
                              case c5 => simp; omega
                              case c6 =>
                                intro v8 w8 hown8 hgrow8 _
                                have s8 : w5.grownBy w8 u6.ownBlock := gb_trans (gb_alloc _ _ _) hgrow8
                                have hap := own_apart O7.out N7.out
                                have O8 := hid (show OE w8 w.heap.size v5 (L ++ [(A, X)]) from World.ownsRow.kept O7.out s8 (by
                                  cases hg : v5.ownBlock with
                                  | none => exact .inl rfl
                                  | some j => exact .inr (fun e => hap j hg e.symm)))
                                have N8 := hid (show OG w8 w.heap.size v8 (G ++ [p]) by
                                  unfold OG
                                  rw [List.map_append, List.length_append, hGL]
                                  exact hown8)
                                have B8 := hid (B7.out.grown s8 B7.out.size (fun j hj => (World.ownsRow.lt N7.out j hj).1))
                                have K8 := hid (show KBx w8 kb true dgb lo lo _ _ am from (s8.block kb K7.out.facts.2.2.2.2.2.2 (fun e => by have := GV.out kb e.symm; omega)).trans K7.out)
                                clear hown8 hgrow8 s8 hap O7 N7 K7 B7
                                obtain ⟨z0, _⟩ := K8.out.facts
                                have HQ := hid (HPG.out.trans (if_pos (.inl HPL.out)))
                                have HNx := hid (rp_step HR.out (by omega) HQ.out)
                                go_wp2
                                go_roundw
                                case rel => exact ⟨k + 1, en, _, _, by go_num, HNx.out, O8.out, N8.out, B8.out⟩
                                case measure => simp [intOf]; omega
                          · rw [decide_eq_false hday]
                            have HE := hid (HPW.out (by rw [if_neg hday]; decide))
                            rw [if_neg hday] at HE
                            simp only [Int.add_zero] at HE
                            clear hday HPG0 HPW
                            go_wp2
                            go_ret3
                            exact ⟨⟨_, [], _, _, rfl, RE.nil0 _, .inr ⟨by omega, k, p, L, G, HR.out, .inl ⟨by omega, HE.out, rfl⟩⟩, by simp⟩, BX.out⟩
                        · have hdye : dy = false := by rw [← hdyE]; exact decide_eq_false h3
                          subst hdye
                          have hwe : whK kk X.data.toList = (0, 0) := by unfold whK; rw [if_neg hcd, if_neg h3]
                          rw [hwe] at HPG0
                          have HPG := hid (HPG0.out rfl)
                          clear hwe hcd h3 HPG0 HPW
                          obtain ⟨z0, z1, z2, z3, z4, z5, _⟩ := KX.out.facts
                          have R1 := hid (RE.one WX A X)
                          have O6 := hid (OX.out.alloc (.cells #[.string A, .string X] 33))
                          have B6 := hid (BX.out.alloc BX.out.size (.cells #[.string A, .string X] 33))
                          go_wp2_with (at_builtin; refine wpList_appE rfl _ _ rfl w.heap.size _ L rfl O6.out _ [(A, X)] rfl R1.out ?hlen2 B6.out.size ?hnext2)
                          case hlen2 => show (L.length + 1) * 32 ≤ _; omega
                          case hnext2 =>
                            intro v5 w5 ho5 hg5
                            have s5 : WX.grownBy w5 u5.ownBlock := gb_trans (gb_alloc _ _ _) hg5
                            have O7 := hid ho5
                            have B7 := hid (BX.out.grown s5 BX.out.size (fun j hj => (World.ownsRow.lt OX.out j hj).1))
                            have hap := own_apart OX.out NX.out
                            have N7 := hid (show OG w5 w.heap.size u6 G from World.ownsRow.kept NX.out s5 (by
                              cases hg : u6.ownBlock with
                              | none => exact .inl rfl
                              | some j => exact .inr (fun e => hap j e.symm hg)))
                            have K7 := hid (show KBx w5 kb true dgb lo lo _ _ am from (s5.block kb KX.out.facts.2.2.2.2.2.2 (fun e => by have := LV.out kb e.symm; omega)).trans KX.out)
                            clear ho5 hg5 s5 hap R1 O6 B6 OX NX KX BX
                            obtain ⟨j0, hj0, hy0, hy1, hy2⟩ := info_parts intinfo
                            have hz7 := B7.out.size
                            go_wp2_with (at_builtin; refine wpList_append_own _ rfl _ _ 37 rfl w.heap.size 3 j0 (.int .i64 0) 1 8 Tryd.underlying37 hj0 hy0 hy1 hy2 rfl (by decide) _ _ _ rfl (World.ownsRow.alloc N7.out _) ⟨w5.heap.size, 0, none⟩ 1 1 [.int .i64 (p : Int)] rfl rfl ?c1 ?c2 ?c3 ?c4 ?c5 ?c6)
                            case c1 =>
                              intro j u hj
                              match j, hj with
                              | 0, hj => simp at hj; subst hj; simp [Addr.add]
                            case c2 => intro u hu; simp at hu; subst hu; rfl
                            case c3 => unfold maxLen; omega
                            case c4 => omega
                            case c5 => simp; omega
                            case c6 =>
                              intro v8 w8 hown8 hgrow8 _
                              have s8 : w5.grownBy w8 u6.ownBlock := gb_trans (gb_alloc _ _ _) hgrow8
                              have hap := own_apart O7.out N7.out
                              have O8 := hid (show OE w8 w.heap.size v5 (L ++ [(A, X)]) from World.ownsRow.kept O7.out s8 (by
                                cases hg : v5.ownBlock with
                                | none => exact .inl rfl
                                | some j => exact .inr (fun e => hap j hg e.symm)))
                              have N8 := hid (show OG w8 w.heap.size v8 (G ++ [p]) by
                                unfold OG
                                rw [List.map_append, List.length_append, hGL]
                                exact hown8)
                              have B8 := hid (B7.out.grown s8 B7.out.size (fun j hj => (World.ownsRow.lt N7.out j hj).1))
                              have K8 := hid (show KBx w8 kb true dgb lo lo _ _ am from (s8.block kb K7.out.facts.2.2.2.2.2.2 (fun e => by have := GV.out kb e.symm; omega)).trans K7.out)
                              clear hown8 hgrow8 s8 hap O7 N7 K7 B7
                              obtain ⟨z0, _⟩ := K8.out.facts
                              have HQ := hid (HPG.out.trans (if_pos (.inl HPL.out)))
                              have HNx := hid (rp_step HR.out (by omega) HQ.out)
                              go_wp2
                              go_roundw
                              case rel => exact ⟨k + 1, en, _, _, by go_num, HNx.out, O8.out, N8.out, B8.out⟩
                              case measure => simp [intOf]; omega
                | false =>
                  have HPL := hid hpl
                  have hnk : 4 < kk ∧ kk ≠ 6 := by
                    have h := hpl
                    unfold plK at h
                    simp only [Bool.or_eq_false_iff, decide_eq_false_iff_not] at h
                    omega
                  have hcde : cd = false := by rw [← hcdE]; exact decide_eq_false (by omega)
                  have hdye : dy = false := by rw [← hdyE]; exact decide_eq_false (by omega)
                  subst hcde hdye
                  have hlo1 : 1 ≤ lo := by rw [← hlo]; unfold loK; repeat' split <;> try omega
                  have HWe := hid (show ∀ x, whK kk x = (0, 0) from fun x => by unfold whK; rw [if_neg (by omega), if_neg (by omega)])
                  have HVd := hid (show vend kk (t.data.toList.drop fr) = ve lo hi (byK kk) (t.data.toList.drop fr) 0 by unfold vend; rw [hpl, if_neg (by simp), hlo, hhi])
                  have HBy := hid (show ∀ c, byK kk c = if dgb = true then dF c else chF c from fun c => by unfold byK; rw [← hdgE]; by_cases h8 : kk ≤ 8 <;> simp [h8])
                  clear hlo hhi hpl hnk
                  go_wp2_with fail
                  clear hW
                  generalize w2.heap.size = kb at *
                  go_loopw [17] (fun i wx => ∃ en : Nat, fr ≤ en ∧ en ≤ t.size ∧ en ≤ fr + hi ∧ i = .int .i64 (en : Int) ∧ ve lo hi (byK kk) (t.data.toList.drop fr) 0 = ve lo hi (byK kk) (t.data.toList.drop en) (en - fr) ∧ wx = WX) (fun i _ => t.size - (intOf i).toNat)
                  case atStart => exact ⟨fr, by omega, by omega, by omega, rfl, by rw [Nat.sub_self], rfl⟩
                  case round =>
                    obtain ⟨en, hfe, hes, hel, rfl, hve, hw⟩ := hrel
                    have hws := hw.symm
                    clear hw
                    subst hws
                    have HVe := hid hve
                    clear hve
                    by_cases hee : en < t.size
                    · have heI : (en : Int) < (t.size : Int) := by omega
                      have hel2 : en < t.data.toList.length := by omega
                      by_cases h29 : t[en]'hee = 29
                      · have hb29 : (((t[en]'hee).toNat : Int) != 29) = false := by rw [h29]; rfl
                        have HEn := hid (HVe.out.trans (ve_end lo hi (byK kk) _ (en - fr) (.inr (by rw [List.drop_eq_getElem_cons hel2, byte_list t en hee, h29]; rfl))))
                        clear HVe
                        by_cases hef : en = fr
                        · have hefB : ((en : Int) == (fr : Int)) = true := by rw [beq_iff_eq]; omega
                          have HE := hid (HPE.out (en - fr) 3 (by rw [HVd.out, HEn.out, if_pos (by omega)]))
                          rw [show fr + (en - fr) = fr by omega] at HE
                          clear hef HEn
                          go_wp2
                          go_ret3
                          exact ⟨⟨_, [], _, _, rfl, RE.nil0 _, .inr ⟨by omega, k, p, L, G, HR.out, .inl ⟨by omega, HE.out, rfl⟩⟩, by simp⟩, BX.out⟩
                        · have hefB : ((en : Int) == (fr : Int)) = false := by rw [beq_eq_false_iff_ne]; omega
                          by_cases hsh : en - fr < lo
                          · have hshI : (en : Int) - (fr : Int) < (lo : Int) := by omega
                            have HE := hid (HPE.out (en - fr) 3 (by rw [HVd.out, HEn.out, if_pos hsh]))
                            rw [show fr + (en - fr) = en by omega] at HE
                            clear hef hsh HEn
                            go_wp2
                            go_ret3
                            exact ⟨⟨_, [], _, _, rfl, RE.nil0 _, .inr ⟨by omega, k, p, L, G, HR.out, .inl ⟨by omega, HE.out, rfl⟩⟩, by simp⟩, BX.out⟩
                          · have hshI : ¬ (en : Int) - (fr : Int) < (lo : Int) := by omega
                            have HV := hid (show vend kk (t.data.toList.drop (p + A.data.toList.length)) = .inr (en - fr) by rw [hfre, HVd.out, HEn.out, if_neg hsh])
                            clear hef hsh HEn HPE HVd
                            have hsubX := fun w => run_subG t fr en (en : Int) rfl (by omega) (by omega) w
                            have hXd : (t.extract fr en).data.toList = (t.data.toList.drop fr).take (en - fr) := by rw [Lib.extract_data]
                            have hXs : (t.extract fr en).size = en - fr := by rw [← len_list, hXd, List.length_take, List.length_drop]; omega
                            have HPW := hid (fun h => psp_whole (L := L) hk HCL.out HV.out h)
                            have HPG0 := hid (fun h => psp_go (L := L) hk HCL.out HV.out h)
                            rw [hfre, ← hXd] at HPW HPG0
                            rw [show fr + (en - fr) = en by omega, hl] at HPG0
                            obtain ⟨X, hX⟩ : ∃ X, t.extract fr en = X := ⟨_, rfl⟩
                            rw [hX] at hsubX hXs HPW HPG0
                            clear hX hXd HV
                            rw [HWe.out] at HPG0
                            have HPG := hid (HPG0.out rfl)
                            clear HPG0 HPW
                            have R1 := hid (RE.one WX A X)
                            have O6 := hid (OX.out.alloc (.cells #[.string A, .string X] 33))
                            have B6 := hid (BX.out.alloc BX.out.size (.cells #[.string A, .string X] 33))
                            go_wp2_with (at_builtin; refine wpList_appE rfl _ _ rfl w.heap.size _ L rfl O6.out _ [(A, X)] rfl R1.out ?hlen2 B6.out.size ?hnext2)
                            case hlen2 => show (L.length + 1) * 32 ≤ _; omega
                            case hnext2 =>
                              intro v5 w5 ho5 hg5
                              have s5 : WX.grownBy w5 u5.ownBlock := gb_trans (gb_alloc _ _ _) hg5
                              have O7 := hid ho5
                              have B7 := hid (BX.out.grown s5 BX.out.size (fun j hj => (World.ownsRow.lt OX.out j hj).1))
                              have hap := own_apart OX.out NX.out
                              have N7 := hid (show OG w5 w.heap.size u6 G from World.ownsRow.kept NX.out s5 (by
                                cases hg : u6.ownBlock with
                                | none => exact .inl rfl
                                | some j => exact .inr (fun e => hap j e.symm hg)))
                              have K7 := hid (show KBx w5 kb false dgb lo hi _ _ am from (s5.block kb KX.out.facts.2.2.2.2.2.2 (fun e => by have := LV.out kb e.symm; omega)).trans KX.out)
                              clear ho5 hg5 s5 hap R1 O6 B6 OX NX KX BX
                              obtain ⟨j0, hj0, hy0, hy1, hy2⟩ := info_parts intinfo
                              have hz7 := B7.out.size
                              go_wp2_with (at_builtin; refine wpList_append_own _ rfl _ _ 37 rfl w.heap.size 3 j0 (.int .i64 0) 1 8 Tryd.underlying37 hj0 hy0 hy1 hy2 rfl (by decide) _ _ _ rfl (World.ownsRow.alloc N7.out _) ⟨w5.heap.size, 0, none⟩ 1 1 [.int .i64 (p : Int)] rfl rfl ?c1 ?c2 ?c3 ?c4 ?c5 ?c6)
                              case c1 =>
                                intro j u hj
                                match j, hj with
                                | 0, hj => simp at hj; subst hj; simp [Addr.add]
                              case c2 => intro u hu; simp at hu; subst hu; rfl
                              case c3 => unfold maxLen; omega
                              case c4 => omega
                              case c5 => simp; omega
                              case c6 =>
                                intro v8 w8 hown8 hgrow8 _
                                have s8 : w5.grownBy w8 u6.ownBlock := gb_trans (gb_alloc _ _ _) hgrow8
                                have hap := own_apart O7.out N7.out
                                have O8 := hid (show OE w8 w.heap.size v5 (L ++ [(A, X)]) from World.ownsRow.kept O7.out s8 (by
                                  cases hg : v5.ownBlock with
                                  | none => exact .inl rfl
                                  | some j => exact .inr (fun e => hap j hg e.symm)))
                                have N8 := hid (show OG w8 w.heap.size v8 (G ++ [p]) by
                                  unfold OG
                                  rw [List.map_append, List.length_append, hGL]
                                  exact hown8)
                                have B8 := hid (B7.out.grown s8 B7.out.size (fun j hj => (World.ownsRow.lt N7.out j hj).1))
                                have K8 := hid (show KBx w8 kb false dgb lo hi _ _ am from (s8.block kb K7.out.facts.2.2.2.2.2.2 (fun e => by have := GV.out kb e.symm; omega)).trans K7.out)
                                clear hown8 hgrow8 s8 hap O7 N7 K7 B7
                                obtain ⟨z0, _⟩ := K8.out.facts
                                by_cases he1 : en = t.size
                                · exact absurd he1 (by omega)
                                · have heI : (en : Int) < (t.size : Int) := by omega
                                  have HQ := hid (HPG.out.trans (if_neg (fun h => by rcases h with h | h; (rw [HPL.out] at h; cases h); exact he1 h)))
                                  by_cases he2 : en + 1 = t.size
                                  · have hb2 : ((en : Int) == (t.size : Int) - 1) = true := by rw [beq_iff_eq]; omega
                                    have HQ2 := hid (HQ.out.trans (if_pos he2))
                                    clear he1 he2
                                    go_wp2
                                    go_ret3
                                    exact ⟨⟨_, [], _, _, rfl, RE.nil0 _, .inr ⟨by omega, k, p, L, G, HR.out, .inl ⟨by omega, HQ2.out, rfl⟩⟩, by simp⟩, B8.out⟩
                                  · have hb2 : ((en : Int) == (t.size : Int) - 1) = false := by rw [beq_eq_false_iff_ne]; omega
                                    have HQ2 := hid (HQ.out.trans (if_neg he2))
                                    have HNx := hid (rp_step HR.out (by omega) HQ2.out)
                                    clear he1 he2
                                    go_wp2
                                    go_roundw
                                    case rel => exact ⟨k + 1, en + 1, _, _, by go_num, HNx.out, O8.out, N8.out, B8.out⟩
                                    case measure => simp [intOf]; omega
                      · have hb29 : (((t[en]'hee).toNat : Int) != 29) = true := by
                          simp only [bne_iff_ne, ne_eq]
                          intro e
                          exact h29 (UInt8.toNat_inj.1 (by show (t[en]'hee).toNat = 29; omega))
                        have HV3 := hid HVe.out
                        rw [List.drop_eq_getElem_cons hel2, byte_list t en hee, ve_cons _ _ _ _ _ _ h29] at HV3
                        clear h29 HVe
                        by_cases hbig : en - fr = hi
                        · have hbI : (hi : Int) ≤ (en : Int) - (fr : Int) := by omega
                          have HE := hid (HPE.out (en - fr) 26 (by rw [HVd.out, HV3.out, if_pos hbig]))
                          rw [show fr + (en - fr) = en by omega] at HE
                          clear hbig HV3
                          go_wp2
                          go_ret3
                          exact ⟨⟨_, [], _, _, rfl, RE.nil0 _, .inr ⟨by omega, k, p, L, G, HR.out, .inl ⟨by omega, HE.out, rfl⟩⟩, by simp⟩, BX.out⟩
                        · have hbI : ¬ (hi : Int) ≤ (en : Int) - (fr : Int) := by omega
                          rw [if_neg hbig, HBy.out] at HV3
                          have hbn : en + 1 ≤ fr + hi := by omega
                          clear hbig
                          have HDg := hid (fun w => refIsDigit_any (t[en]'hee) w)
                          have HCh := hid (fun w => char_any (t[en]'hee) w)
                          have HNx := hid (fun (h : ve lo hi (byK kk) (t.data.toList.drop fr) 0 = ve lo hi (byK kk) (t.data.toList.drop (en + 1)) (en - fr + 1)) => show ve lo hi (byK kk) (t.data.toList.drop fr) 0 = ve lo hi (byK kk) (t.data.toList.drop (en + 1)) (en + 1 - fr) by rw [h, show en - fr + 1 = en + 1 - fr by omega])
                          cases dgb with
                          | true =>
                            rw [if_pos rfl] at HV3
                            cases hdb : isDB (t[en]'hee) with
                            | true =>
                              rw [hdb] at HDg
                              rw [dig_chB hdb] at HCh
                              have HVn := hid (HNx.out (by rw [HV3.out]; unfold dF; rw [hdb]; simp))
                              clear hdb HV3 HNx
                              go_wp2_with fail
                              refine (HDg.out _).mono ?_
                              rintro e wz ⟨rfl, hwz⟩
                              have hws := hwz.symm
                              clear hwz
                              subst hws
                              go_wp2_with fail
                              refine (HCh.out _).mono ?_
                              rintro e wz ⟨rfl, hwz⟩
                              have hws := hwz.symm
                              clear hwz
                              subst hws
                              go_wp2
                              go_roundw
                              case rel => exact ⟨en + 1, by omega, by omega, by omega, by go_num, HVn.out, by simp⟩
                              case measure => simp [intOf]; omega
                            | false =>
                              rw [hdb] at HDg
                              have HE := hid (HPE.out (en - fr) 20 (by rw [HVd.out, HV3.out]; unfold dF; rw [hdb]; simp))
                              rw [show fr + (en - fr) = en by omega] at HE
                              clear hdb HV3 HNx
                              go_wp2_with fail
                              refine (HDg.out _).mono ?_
                              rintro e wz ⟨rfl, hwz⟩
                              have hws := hwz.symm
                              clear hwz
                              subst hws
                              go_wp2
                              go_ret3
                              exact ⟨⟨_, [], _, _, rfl, RE.nil0 _, .inr ⟨by omega, k, p, L, G, HR.out, .inl ⟨by omega, HE.out, rfl⟩⟩, by simp⟩, BX.out⟩
                          | false =>
                            rw [if_neg (show ¬ (false = true) by simp), chF_is] at HV3
                            cases hcb : chB (t[en]'hee) with
                            | true =>
                              rw [hcb] at HCh HV3
                              have HVn := hid (HNx.out (by rw [HV3.out]; simp))
                              clear hcb HV3 HNx
                              go_wp2_with fail
                              refine (HCh.out _).mono ?_
                              rintro e wz ⟨rfl, hwz⟩
                              have hws := hwz.symm
                              clear hwz
                              subst hws
                              go_wp2
                              go_roundw
                              case rel => exact ⟨en + 1, by omega, by omega, by omega, by go_num, HVn.out, by simp⟩
                              case measure => simp [intOf]; omega
                            | false =>
                              rw [hcb] at HCh HV3
                              have HE := hid (HPE.out (en - fr) 27 (by rw [HVd.out, HV3.out]; simp))
                              rw [show fr + (en - fr) = en by omega] at HE
                              clear hcb HV3 HNx
                              go_wp2_with fail
                              refine (HCh.out _).mono ?_
                              rintro e wz ⟨rfl, hwz⟩
                              have hws := hwz.symm
                              clear hwz
                              subst hws
                              go_wp2
                              go_ret3
                              exact ⟨⟨_, [], _, _, rfl, RE.nil0 _, .inr ⟨by omega, k, p, L, G, HR.out, .inl ⟨by omega, HE.out, rfl⟩⟩, by simp⟩, BX.out⟩
                    · have heI : ¬ (en : Int) < (t.size : Int) := by omega
                      have HEn := hid (HVe.out.trans (ve_end lo hi (byK kk) _ (en - fr) (.inl (by rw [List.drop_of_length_le (by omega)]; rfl))))
                      clear HVe
                      by_cases hef : en = fr
                      · have hefB : ((en : Int) == (fr : Int)) = true := by rw [beq_iff_eq]; omega
                        have HE := hid (HPE.out (en - fr) 3 (by rw [HVd.out, HEn.out, if_pos (by omega)]))
                        rw [show fr + (en - fr) = fr by omega] at HE
                        clear hef HEn
                        go_wp2
                        go_ret3
                        exact ⟨⟨_, [], _, _, rfl, RE.nil0 _, .inr ⟨by omega, k, p, L, G, HR.out, .inl ⟨by omega, HE.out, rfl⟩⟩, by simp⟩, BX.out⟩
                      · have hefB : ((en : Int) == (fr : Int)) = false := by rw [beq_eq_false_iff_ne]; omega
                        by_cases hsh : en - fr < lo
                        · have hshI : (en : Int) - (fr : Int) < (lo : Int) := by omega
                          have HE := hid (HPE.out (en - fr) 3 (by rw [HVd.out, HEn.out, if_pos hsh]))
                          rw [show fr + (en - fr) = en by omega] at HE
                          clear hef hsh HEn
                          go_wp2
                          go_ret3
                          exact ⟨⟨_, [], _, _, rfl, RE.nil0 _, .inr ⟨by omega, k, p, L, G, HR.out, .inl ⟨by omega, HE.out, rfl⟩⟩, by simp⟩, BX.out⟩
                        · have hshI : ¬ (en : Int) - (fr : Int) < (lo : Int) := by omega
                          have HV := hid (show vend kk (t.data.toList.drop (p + A.data.toList.length)) = .inr (en - fr) by rw [hfre, HVd.out, HEn.out, if_neg hsh])
                          clear hef hsh HEn HPE HVd
                          have hsubX := fun w => run_subG t fr en (en : Int) rfl (by omega) (by omega) w
                          have hXd : (t.extract fr en).data.toList = (t.data.toList.drop fr).take (en - fr) := by rw [Lib.extract_data]
                          have hXs : (t.extract fr en).size = en - fr := by rw [← len_list, hXd, List.length_take, List.length_drop]; omega
                          have HPW := hid (fun h => psp_whole (L := L) hk HCL.out HV.out h)
                          have HPG0 := hid (fun h => psp_go (L := L) hk HCL.out HV.out h)
                          rw [hfre, ← hXd] at HPW HPG0
                          rw [show fr + (en - fr) = en by omega, hl] at HPG0
                          obtain ⟨X, hX⟩ : ∃ X, t.extract fr en = X := ⟨_, rfl⟩
                          rw [hX] at hsubX hXs HPW HPG0
                          clear hX hXd HV
                          rw [HWe.out] at HPG0
                          have HPG := hid (HPG0.out rfl)
                          clear HPG0 HPW
                          have R1 := hid (RE.one WX A X)
                          have O6 := hid (OX.out.alloc (.cells #[.string A, .string X] 33))
                          have B6 := hid (BX.out.alloc BX.out.size (.cells #[.string A, .string X] 33))
                          go_wp2_with (at_builtin; refine wpList_appE rfl _ _ rfl w.heap.size _ L rfl O6.out _ [(A, X)] rfl R1.out ?hlen2 B6.out.size ?hnext2)
                          case hlen2 => show (L.length + 1) * 32 ≤ _; omega
                          case hnext2 =>
                            intro v5 w5 ho5 hg5
                            have s5 : WX.grownBy w5 u5.ownBlock := gb_trans (gb_alloc _ _ _) hg5
                            have O7 := hid ho5
                            have B7 := hid (BX.out.grown s5 BX.out.size (fun j hj => (World.ownsRow.lt OX.out j hj).1))
                            have hap := own_apart OX.out NX.out
                            have N7 := hid (show OG w5 w.heap.size u6 G from World.ownsRow.kept NX.out s5 (by
                              cases hg : u6.ownBlock with
                              | none => exact .inl rfl
                              | some j => exact .inr (fun e => hap j e.symm hg)))
                            have K7 := hid (show KBx w5 kb false dgb lo hi _ _ am from (s5.block kb KX.out.facts.2.2.2.2.2.2 (fun e => by have := LV.out kb e.symm; omega)).trans KX.out)
                            clear ho5 hg5 s5 hap R1 O6 B6 OX NX KX BX
                            obtain ⟨j0, hj0, hy0, hy1, hy2⟩ := info_parts intinfo
                            have hz7 := B7.out.size
                            go_wp2_with (at_builtin; refine wpList_append_own _ rfl _ _ 37 rfl w.heap.size 3 j0 (.int .i64 0) 1 8 Tryd.underlying37 hj0 hy0 hy1 hy2 rfl (by decide) _ _ _ rfl (World.ownsRow.alloc N7.out _) ⟨w5.heap.size, 0, none⟩ 1 1 [.int .i64 (p : Int)] rfl rfl ?c1 ?c2 ?c3 ?c4 ?c5 ?c6)
                            case c1 =>
                              intro j u hj
                              match j, hj with
                              | 0, hj => simp at hj; subst hj; simp [Addr.add]
                            case c2 => intro u hu; simp at hu; subst hu; rfl
                            case c3 => unfold maxLen; omega
                            case c4 => omega
                            case c5 => simp; omega
                            case c6 =>
                              intro v8 w8 hown8 hgrow8 _
                              have s8 : w5.grownBy w8 u6.ownBlock := gb_trans (gb_alloc _ _ _) hgrow8
                              have hap := own_apart O7.out N7.out
                              have O8 := hid (show OE w8 w.heap.size v5 (L ++ [(A, X)]) from World.ownsRow.kept O7.out s8 (by
                                cases hg : v5.ownBlock with
                                | none => exact .inl rfl
                                | some j => exact .inr (fun e => hap j hg e.symm)))
                              have N8 := hid (show OG w8 w.heap.size v8 (G ++ [p]) by
                                unfold OG
                                rw [List.map_append, List.length_append, hGL]
                                exact hown8)
                              have B8 := hid (B7.out.grown s8 B7.out.size (fun j hj => (World.ownsRow.lt N7.out j hj).1))
                              have K8 := hid (show KBx w8 kb false dgb lo hi _ _ am from (s8.block kb K7.out.facts.2.2.2.2.2.2 (fun e => by have := GV.out kb e.symm; omega)).trans K7.out)
                              clear hown8 hgrow8 s8 hap O7 N7 K7 B7
                              obtain ⟨z0, _⟩ := K8.out.facts
                              by_cases he1 : en = t.size
                              · have heI : ¬ (en : Int) < (t.size : Int) := by omega
                                have HQ := hid (HPG.out.trans (if_pos (.inr he1)))
                                have HNx := hid (rp_step HR.out (by omega) HQ.out)
                                clear he1
                                go_wp2
                                go_roundw
                                case rel => exact ⟨k + 1, en, _, _, by go_num, HNx.out, O8.out, N8.out, B8.out⟩
                                case measure => simp [intOf]; omega
                              · exact absurd (show en = t.size by omega) he1
              · have hnb : (cl != 0) = true := by simp [h0]
                have HE := hid (psp_clash (L := L) hk (by rw [HCl.out]; exact h0))
                rw [HCl.out] at HE
                clear h0
                go_wp2
                go_ret3
                exact ⟨⟨_, [], _, _, rfl, RE.nil0 _, .inr ⟨by omega, k, p, L, G, HR.out, .inl ⟨by omega, HE.out, rfl⟩⟩, by simp⟩, B1.out⟩
      · have hpI : ¬ (p : Int) < (t.size : Int) := by omega
        have HL := hid (lonely_any _ L wr HO.out.reads (by omega))
        have hlo := loI_lt L
        obtain ⟨li, hli⟩ : ∃ li, loI L = li := ⟨_, rfl⟩
        rw [hli] at HL hlo
        have HLI := hid hli
        clear hli
        go_wp2_with fail
        refine HL.out.mono ?_
        rintro e w2 ⟨rfl, hw2⟩
        have hws := hw2.symm
        clear hw2 HL
        subst hws
        by_cases h0 : 0 ≤ li
        · have hlt2 := hlo h0
          obtain ⟨i, rfl⟩ : ∃ i : Nat, li = (i : Int) := ⟨li.toNat, by omega⟩
          have hiG : i < G.length := by omega
          obtain ⟨g, cap, hgv, hgc⟩ := HN.out.at hiG
          subst hgv
          have hgI : (i : Int) < (G.length : Int) := by omega
          have HGe := hid (List.getElem?_eq_getElem hiG)
          obtain ⟨ge, hge⟩ : ∃ ge, G[i] = ge := ⟨_, rfl⟩
          rw [hge] at hgc HGe
          clear hge hlo
          go_wp2_with fail
          go_quiet (fail)
          have B3 := hid (HB.out.trans (below_drewN (Below.refl w.heap.size wr) nq))
          go_wp2
          go_ret3
          exact ⟨⟨_, [], _, _, rfl, RE.nil0 _, .inr ⟨by omega, k, p, L, G, HR.out, .inr ⟨by omega, .inl ⟨i, HLI.out, rfl, rfl, ge, HGe.out, rfl⟩⟩⟩, by simp⟩, B3.out⟩
        · have HNI := hid h0
          have R2 := hid HO.out.reads
          go_wp2
          go_ret3
          exact ⟨⟨_, L, _, _, rfl, R2.out, .inr ⟨by omega, k, p, L, G, HR.out, .inr ⟨by omega, .inr ⟨by rw [HLI.out]; have := HNI.out; omega, rfl, rfl, rfl⟩⟩⟩, by omega⟩, HB.out⟩
end Go.Proofs.YtjmpkogjilefnaaDoor
