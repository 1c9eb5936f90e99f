/-
  LockFree: the law's walk.
-/
import Derived.Test.YtokpncfnkokmcaaLf1
namespace Go.Proofs.Ytokpncfnkokmcaa
open Go.RowKit
set_option maxRecDepth 100000

/-- the handlers out of the first k lists -/
def Hs (LL : List (List Int)) (n k : Nat) : List Hn := (LL.take k).map fun R => h0 (rsL R n n)
theorem Hs_succ (LL : List (List Int)) (n k : Nat) (h : k < LL.length) : Hs LL n (k + 1) = Hs LL n k ++ [h0 (rsL LL[k] n n)] := by
  unfold Hs
  rw [List.take_add_one, List.getElem?_eq_getElem h, List.map_append]
  rfl
theorem Hs_len (LL : List (List Int)) (n k : Nat) (h : k ≤ LL.length) : (Hs LL n k).length = k := by unfold Hs; rw [List.length_map, List.length_take]; omega
theorem Hs_fi (LL : List (List Int)) (n k : Nat) (hk : k ≤ LL.length) (hk8 : k ≤ 8) : FI n (Hs LL n k) (List.replicate n (0, 0, 0)) := by
  have := FI.init n ((LL.take k).map fun R => rsL R n n) (by rw [List.length_map, List.length_take]; omega) (fun S hS => by
    obtain ⟨R, _, rfl⟩ := List.mem_map.1 hS
    obtain ⟨h1, h2⟩ := rsL_ok R n n
    exact ⟨h1, h2, Nat.zero_le _, by show 0 = min _ (1 / 2); omega⟩)
  rw [List.map_map] at this
  exact this
theorem sm_app (f : Hn → Nat) (H : List Hn) (x : Hn) : sm f (H ++ [x]) = sm f H + f x := by simp [sm]
set_option maxHeartbeats 16000000 in
theorem free_any (st : Int) (v : Value) (LL : List (List Int)) (vp : Value) (Pk : List Int) (w : World) (hs : SL w v LL) (hp : RI w vp Pk) :
    Calls Try.prog 3 #[.int .i64 st, v, vp] w fun e w' => e = .returned (.bool true) ∧ Below w.heap.size w w' := by
  obtain ⟨ip, hip, hy0, hy1, hy2⟩ := info_parts ptinfo
  have HIP := hid hip
  have HWk := hid (works_any w)
  have HN := hid new_in
  have HW1 := hid (fun w => within_any st 9 w (by omega) (by omega))
  have hw := wth_in st 9 (by omega)
  obtain ⟨m, hm⟩ : ∃ m : Nat, wth st 9 = (m : Int) := ⟨(wth st 9).toNat, by omega⟩
  rw [hm] at HW1
  have hm9 : m ≤ 9 := by omega
  clear hw hm
  obtain ⟨n, hn⟩ : ∃ n : Nat, n = m + 1 := ⟨_, rfl⟩
  have HnI := hid (show (m : Int) + 1 = (n : Int) ∧ 1 + (m : Int) = (n : Int) by omega)
  have hn10 : n ≤ 10 := by omega
  have hn1 : 1 ≤ n := by omega
  clear hn
  have HRi := hid (fun (u : Value) (R : List Int) (w : World) (hr : RI w u R) (hl : R.length ≤ 9223372036854775807) => rise_any u R n w hr hl hn1 hn10)
  obtain ⟨ao, cap, rfl, hc, hn', hcell⟩ := hs
  have HC := hid hcell
  obtain ⟨aop, capp, rfl, hcp, hnp, hcellp⟩ := hp
  have HP := hid hcellp
  clear hcell hn' hcellp hnp
  go_enter Try.func3, Try.ntmps3
  go_wp2_with fail
  refine Calls.mono HWk.out ?_
  rintro e wz ⟨rfl, hBz⟩
  have KZ := hid hBz
  have hz := hBz.size
  clear hBz HWk
  go_wp2_with fail
  refine Calls.mono (HW1.out _) ?_
  rintro e wq ⟨rfl, rfl⟩
  go_wp2_with fail
  first | rw [HnI.out.1] | rw [HnI.out.2]
  refine Calls.mono (HN.out n _ hn1 (by omega)) ?_
  rintro e w1 ⟨⟨d, hb, rfl, hT⟩, hB⟩
  have K1 := hid (show Below w.heap.size w w1 from KZ.out.trans (hB.mono hz))
  have T1 := hid (show TP w1 w.heap.size d hb (List.replicate n (0, 0, 0)) from ⟨Nat.le_trans hz hT.gd, Nat.le_trans hz hT.gh, hT.top, hT.row, hT.ne, hT.many, hT.ok⟩)
  have S1 := hid (show Calls Try.prog 7 #[.pointer (some ⟨d, 0, none⟩)] w1 fun e w' => e = .returned (.int .i64 (n : Int)) ∧ w' = w1 from (stripes_any w1 T1.out).mono fun e w' h => by rw [List.length_replicate] at h; exact h)
  clear HN hT hB KZ
  go_wp2_with (go_at_call 7; refine S1.out.mono ?_; rintro e w3 ⟨rfl, rfl⟩)
  go_loopw [9, 10, 11, 12] (fun vh vt vi _ wr => ∃ (k tot : Nat) (M : List Mh), k ≤ LL.length ∧ k ≤ 8 ∧ vi = .int .i64 (k : Int) ∧ vt = .int .i64 (tot : Int) ∧ tot = 5 * sm nn (Hs LL n k) ∧ tot ≤ 50 * k ∧ HM wr w.heap.size vh M (Hs LL n k) ∧ TP wr w.heap.size d hb (List.replicate n (0, 0, 0)) ∧ Below w.heap.size w wr) (fun _ _ vi _ _ => 8 - (intOf vi).toNat)
  case atStart => exact ⟨0, 0, [], Nat.zero_le _, Nat.zero_le _, rfl, rfl, by simp [Hs, sm], Nat.zero_le _, HM.nil _ _, T1.out, K1.out⟩
  case round =>
    obtain ⟨k, tot, M, hk, hk8, rfl, rfl, htot, htb, hm, hT, hB⟩ := hrel
    have HMm := hid hm
    have HT := hid hT
    have HB := hid hB
    have hws := hB.size
    clear hm hT hB T1 K1 S1
    obtain ⟨aoh, caph, hvh⟩ := HMm.out.ptr.sl
    rw [List.length_map, HMm.out.len, Hs_len LL n k hk] at hvh
    subst hvh
    by_cases h : k < LL.length ∧ k < 8
    · have hI : (k : Int) < (LL.length : Int) := by omega
      have hI2 : (k : Int) < 8 := by omega
      obtain ⟨gs, off, u, hao, cx, hr, hrl⟩ := HC.out k h.1
      subst hao
      have c1 := below_cells HB.out _ _ cx
      obtain ⟨au, cu, hu⟩ := hr.len0
      have HHs := hid (Hs_succ LL n k h.1)
      have HRr := hid (HRi.out u LL[k] wr (hr.below (HB.out.mono (Nat.le_refl _))) hrl)
      subst hu
      clear cx hr
      go_wp2_with fail
      refine Calls.mono HRr.out ?_
      rintro e w5 ⟨⟨sv, rfl, ho5⟩, hB5⟩
      have hrs := rsL_len LL[k] n n
      obtain ⟨sa, sc, hsv⟩ := ho5.sl
      subst hsv
      have HO5 := hid ho5
      have HB5 := hid hB5
      have hz5 := hB5.size
      clear ho5 hB5 HRr
      generalize hSS : rsL LL[k] n n = SS at HO5 HHs hrs
      go_wp2_with (at_builtin; refine wpList_append_own_at _ rfl _ _ 31 rfl w.heap.size 32 ip (.pointer none) 1 8 Try.underlying31 HIP.out hy0 hy1 hy2 rfl (by decide) _ k (pc (M.map (·.1))) rfl ?m0 ⟨w5.heap.size + 1, 0, none⟩ 1 1 [.pointer (some ⟨w5.heap.size, 0, none⟩)] rfl rfl ?mn (pone_one _) ?m1 ?m2 ?m3 ?hnext)
      case m0 =>
        have hh := ((HMm.out.later HB5.out).later (((Below.refl w5.heap.size w5).alloc (Nat.le_refl _) (.cells #[.slice sa SS.length sc, .int .i64 0, .slice none 0 0] THd)).alloc (by simp) (.cells #[.pointer (some ⟨w5.heap.size, 0, none⟩)] TPt))).ptr
        unfold PO at hh
        rw [List.length_map, HMm.out.len, Hs_len LL n k hk] at hh
        exact hh
      case mn =>
        have := pone_new (w5.alloc (.cells #[.slice sa SS.length sc, .int .i64 0, .slice none 0 0] THd)) (.pointer (some ⟨w5.heap.size, 0, none⟩))
        rw [World.size_alloc] at this
        exact this
      case m1 => unfold maxLen; omega
      case m2 => omega
      case m3 => simp; omega
      case hnext =>
        intro v' w6 hown hgrow _ _
        have hpo : PO w6 w.heap.size v' (M.map (·.1) ++ [w5.heap.size]) := by
          unfold PO
          rw [pc_app, List.length_append, List.length_map, HMm.out.len, Hs_len LL n k hk]
          exact hown
        obtain ⟨hm6, hk6⟩ := HMm.out.snoc hws HB5.out HO5.out hpo hgrow
        rw [← HHs.out] at hm6
        have HM6 := hid hm6
        have hvl : ∀ g, (Value.slice aoh k caph).ownBlock = some g → w.heap.size ≤ g ∧ ∃ row, wr.heap[g]? = some (.cells row TPt (0, 0)) := fun g e => ⟨(World.ownsRow.lt HMm.out.ptr g e).1, HMm.out.ptr.ty e⟩
        have HT6 := hid (HT.out.kw hk6 (fun e => by obtain ⟨row, hr⟩ := (hvl _ e).2; exact ty_ne hr HT.out.top (by decide) rfl) (fun e => by obtain ⟨row, hr⟩ := (hvl _ e).2; exact ty_ne hr HT.out.row (by decide) rfl))
        have HB6 := hid (Kw.since HB.out hws hk6 (fun g e => (hvl g e).1))
        have hl6 : (M ++ [(w5.heap.size, Value.slice sa SS.length sc, Value.slice none 0 0)])[k]? = some (w5.heap.size, Value.slice sa SS.length sc, Value.slice none 0 0) := by
          have : M.length = k := by rw [HMm.out.len, Hs_len LL n k hk]
          rw [List.getElem?_append, if_neg (by omega), this, Nat.sub_self]
          rfl
        obtain ⟨q0, _⟩ := hm6.cells (h := h0 SS) hl6 (by
          rw [HHs.out, List.getElem?_append, Hs_len LL n k hk, if_neg (by omega), Nat.sub_self]
          rfl)
        have q0' : w6.cell? ⟨w5.heap.size, 0, none⟩ = some (.slice sa SS.length sc) := q0
        have HTt := hid (show tot + 5 * SS.length = 5 * sm nn (Hs LL n (k + 1)) by
          rw [HHs.out, sm_app]
          show tot + 5 * SS.length = 5 * (_ + SS.length)
          omega)
        clear hown hgrow hpo hm6 hk6 hvl hl6 q0
        go_wp2
        go_roundw
        case rel => exact ⟨k + 1, tot + 5 * SS.length, _, by omega, by omega, by go_num, by go_num, HTt.out, by omega, HM6.out, HT6.out, HB6.out⟩
        case measure => simp [intOf]; omega
    · have DD : ¬ (k : Int) < (LL.length : Int) ∨ ((k : Int) < (LL.length : Int) ∧ ¬ (k : Int) < 8) := by omega
      have HFS := hid (show FSx w wr d hb (.slice aoh k caph) n (Hs LL n k) (List.replicate n (0, 0, 0)) M from ⟨Hs_fi LL n k hk hk8, HT.out, HMm.out, HB.out⟩)
      have hsl : (Hs LL n k).length = k := Hs_len LL n k hk
      have ha0 : sm aa (Hs LL n k) = 0 := sm_zero aa _ (fun g hg => by unfold Hs at hg; obtain ⟨R, _, rfl⟩ := List.mem_map.1 hg; rfl)
      have HTot := hid htot
      have HA0 := hid ha0
      have HSL := hid hsl
      clear h HMm HT HB hws htot ha0 hsl
      generalize Hs LL n k = Hx at HFS HTot HA0 HSL
      rcases DD with hI | ⟨hI, hI2⟩
      all_goals
        as_aux_lemma =>
          go_wp2
          go_loopw [13, 14, 15, 16, 17, 18, 19, 20, 21, 22, 23, 24] (fun vs vq _ _ _ _ _ _ _ _ _ _ wr => ∃ (H : List Hn) (T : List Hd) (M : List Mh) (sn p : Nat), vs = .int .i64 (sn : Int) ∧ vq = .int .i64 (p : Int) ∧ sn = sm aa H ∧ p ≤ sn ∧ sn ≤ tot ∧ H.map (·.1) = Hx.map (·.1) ∧ FSx w wr d hb (.slice aoh k caph) n H T M) (fun vs _ _ _ _ _ _ _ _ _ _ _ _ => tot - (intOf vs).toNat)
          case atStart => exact ⟨Hx, _, _, 0, 0, rfl, rfl, HA0.out.symm, Nat.le_refl _, Nat.zero_le _, rfl, HFS.out⟩
          case round =>
            obtain ⟨H, T, M, sn, p, rfl, rfl, hsn, hpn, hst, hmq, hF⟩ := hrel
            have HF := hid hF
            have HSN := hid hsn
            have HMQ := hid hmq
            have HNN := hid (sm_nn Hx H hmq)
            have HHL := hid (show H.length = k from by have h1 := (sm_nn Hx H hmq).2; have h2 := HSL.out; omega)
            clear hF hsn hmq HFS HA0
            by_cases h : sn < tot
            · have hI : (sn : Int) < (tot : Int) := by omega
              have HEX := hid (sm_lt H (by have h1 := HNN.out.1; have h2 := HTot.out; have h3 := HSN.out; omega))
              have hk1 : 1 ≤ k := by obtain ⟨i, h, e, _⟩ := HEX.out; have := (List.getElem?_eq_some_iff.1 e).1; have := HHL.out; omega
              by_cases hpk : 0 < Pk.length
              · have hpI : (0 : Int) < (Pk.length : Int) := by omega
                obtain ⟨jx, hjx⟩ : ∃ jx, p % Pk.length = jx := ⟨_, rfl⟩
                have hjl : jx < Pk.length := by rw [← hjx]; exact Nat.mod_lt _ hpk
                have hjI : (jx : Int) < (Pk.length : Int) := by omega
                have hjm : (p : Int).tmod (Pk.length : Int) = (jx : Int) := by have := @tmod_nat 0 p Pk.length; rw [Nat.zero_add, hjx] at this; simpa using this
                have hjm2 : (p : Int) % (Pk.length : Int) = (jx : Int) := by rw [← hjx]; simp
                obtain ⟨gp, offp, hap, cp⟩ := HP.out jx hjl
                subst hap
                have cp1 := below_cells HF.out.below _ _ cp
                clear cp
                generalize Pk[jx] = z at cp1
                have hwz := wth_in z ((k : Int) - 1) (by omega)
                obtain ⟨f, hf⟩ : ∃ f : Nat, wth z ((k : Int) - 1) = (f : Int) := ⟨(wth z ((k : Int) - 1)).toNat, by omega⟩
                have HWz := hid (fun w => within_any z ((k : Int) - 1) w (by omega) (by omega))
                rw [hf] at HWz
                have hfk : f < k := by omega
                clear hf hwz hjx
                go_wp2_with fail
                refine Calls.mono (HWz.out _) ?_
                rintro e wq ⟨rfl, rfl⟩
                go_wp2
                go_loopw [16, 17, 18, 19, 20] (fun vg vi _ _ _ wx => ∃ (i0 : Nat) (g : Bool), i0 ≤ k ∧ vi = .int .i64 (i0 : Int) ∧ vg = .bool g ∧ ((g = false ∧ FSx w wx d hb (.slice aoh k caph) n H T M ∧ ∀ i, i < i0 → ∀ h, H[(f + i) % k]? = some h → can T h = false) ∨ (g = true ∧ ∃ H' T' M', FSx w wx d hb (.slice aoh k caph) n H' T' M' ∧ H'.map (·.1) = H.map (·.1) ∧ sm aa H' = sm aa H + 1))) (fun _ vi _ _ _ _ => k - (intOf vi).toNat)
                case atStart => exact ⟨0, false, Nat.zero_le _, rfl, rfl, .inl ⟨rfl, HF.out, fun i hi => by omega⟩⟩
                case round =>
                  obtain ⟨i0, g, hi0, rfl, rfl, hst⟩ := hrel
                  rcases hst with ⟨rfl, hF, hcan⟩ | ⟨rfl, H', T', M', hF', hmp, hsm⟩
                  · by_cases hlt : i0 < k
                    · have hI3 : (i0 : Int) < (k : Int) := by omega
                      obtain ⟨ix, hix⟩ : ∃ ix, (f + i0) % k = ix := ⟨_, rfl⟩
                      have hixl : ix < k := by rw [← hix]; exact Nat.mod_lt _ (by omega)
                      have hmod : ((f : Int) + (i0 : Int)).tmod (k : Int) = (ix : Int) := by rw [tmod_nat, hix]
                      have hmod2 : ((f : Int) + (i0 : Int)) % (k : Int) = (ix : Int) := by rw [← hix]; push_cast; rfl
                      have hixI : (ix : Int) < (k : Int) := by omega
                      obtain ⟨h, hh⟩ : ∃ h, H[ix]? = some h := ⟨_, List.getElem?_eq_getElem (by have := HHL.out; omega)⟩
                      obtain ⟨m1, hm1⟩ : ∃ m, M[ix]? = some m := ⟨_, List.getElem?_eq_getElem (by have := HHL.out; have := hF.hm.len; omega)⟩
                      obtain ⟨r, hr, cr⟩ := hF.hm.ptrAt hm1
                      subst hr
                      have HST := hid (step_any hF hm1 hh hn10)
                      have HCAN := hid hcan
                      have HIX := hid hix
                      have HHH := hid hh
                      clear hF hcan hix hm1 hh
                      go_wp2_with fail
                      refine Calls.mono HST.out ?_
                      rintro e w4 ⟨rfl, has⟩
                      rcases has with ⟨ec, hF4⟩ | ⟨ec, hx⟩
                      · rw [ec]
                        have HF4 := hid hF4
                        have HEC := hid ec
                        clear hF4 ec HST
                        go_wp2
                        go_roundw
                        case rel => exact ⟨i0 + 1, false, by omega, by go_num, rfl, .inl ⟨rfl, HF4.out, fun i hi h' e => by
                          by_cases c : i = i0
                          · subst c
                            rw [HIX.out, HHH.out] at e
                            cases e
                            exact HEC.out
                          · exact HCAN.out i (by omega) h' e⟩⟩
                        case measure => simp [intOf]; omega
                      · rw [ec]
                        have HX := hid hx
                        clear hx ec HST
                        go_wp2
                        go_roundw
                        case rel => exact ⟨i0 + 1, true, by omega, by go_num, rfl, .inr ⟨rfl, HX.out⟩⟩
                        case measure => simp [intOf]; omega
                    · exfalso
                      obtain rfl : i0 = k := by omega
                      have hl := HHL.out
                      exact all_none hF.fi (f) (by omega) HEX.out (fun i hi h e => hcan i (by omega) h (by rw [hl] at e; exact e))
                  · have HF3 := hid hF'
                    have HMP := hid hmp
                    have HSS := hid hsm
                    have DD2 : ¬ (i0 : Int) < (k : Int) ∨ (i0 : Int) < (k : Int) := by omega
                    clear hF' hmp hsm
                    rcases DD2 with hI3 | hI3
                    all_goals
                      as_aux_lemma =>
                        have HK3 := hid (show H'.length = k from by have h1 := (sm_nn H H' HMP.out).2; have h2 := HHL.out; omega)
                        go_wp2
                        go_loopw [21, 22, 23, 24] (fun vs _ _ _ wx => ∃ s0 : Nat, s0 ≤ n ∧ vs = .int .i64 (s0 : Int) ∧ wx = wr) (fun vs _ _ _ _ => n - (intOf vs).toNat)
                        case atStart => exact ⟨0, Nat.zero_le _, rfl, rfl⟩
                        case round =>
                          obtain ⟨s0, hs0, rfl, rfl⟩ := hrel
                          by_cases hsn : s0 < n
                          · have hI4 : (s0 : Int) < (n : Int) := by omega
                            go_wp2
                            go_loopw [22, 23, 24] (fun vin vi _ wx => ∃ i1 : Nat, i1 ≤ k ∧ vi = .int .i64 (i1 : Int) ∧ vin = .int .i64 ((sm (fun h => Go.Proofs.Ytokpncfnkokmcaa.ind h.1 (s0 : Int) (inB h)) (H'.take i1) : Nat) : Int) ∧ wx = wr) (fun _ vi _ _ => k - (intOf vi).toNat)
                            case atStart => exact ⟨0, Nat.zero_le _, rfl, by simp [sm], rfl⟩
                            case round =>
                              obtain ⟨i1, hi1, rfl, rfl, rfl⟩ := hrel
                              by_cases hik : i1 < k
                              · have hI5 : (i1 : Int) < (k : Int) := by omega
                                obtain ⟨h, hh⟩ : ∃ h, H'[i1]? = some h := ⟨_, List.getElem?_eq_getElem (by have := HK3.out; omega)⟩
                                obtain ⟨m1, hm1⟩ : ∃ m, M'[i1]? = some m := ⟨_, List.getElem?_eq_getElem (by have := HK3.out; have := HF3.out.hm.len; omega)⟩
                                obtain ⟨r, hr, cr⟩ := HF3.out.hm.ptrAt hm1
                                subst hr
                                obtain ⟨ao1, cap1, cs0, hel⟩ := HF3.out.hm.setAt hm1 hh
                                have HEL := hid hel
                                have hok := HF3.out.fi.hok i1 h hh
                                have hsm10 : h.1.length ≤ 10 := by have := hok.small; have e : nn h = h.1.length := rfl; omega
                                have haa : aa h ≤ 50 := by have := hok.le; have e : nn h = h.1.length := rfl; omega
                                have HIN := hid (fun k0 (hk0 : k0 ≤ 100) => inside_any k0 _ HF3.out.hm hm1 hh (by have e : nn h = h.1.length := rfl; omega) (by omega) hk0)
                                have HSM := hid (sm_take (fun h => Go.Proofs.Ytokpncfnkokmcaa.ind h.1 (s0 : Int) (inB h)) H' i1 h hh)
                                have HCN := hid (cn_ind hok (s0 : Int) (inB h))
                                have hsb : sm (fun h => Go.Proofs.Ytokpncfnkokmcaa.ind h.1 (s0 : Int) (inB h)) (H'.take i1) ≤ 8 := by
                                  have h1 := sm_le (fun h => Go.Proofs.Ytokpncfnkokmcaa.ind h.1 (s0 : Int) (inB h)) 1 (H'.take i1) (fun g _ => ind_le _ _ _)
                                  rw [List.length_take] at h1
                                  omega
                                generalize sm (fun h => Go.Proofs.Ytokpncfnkokmcaa.ind h.1 (s0 : Int) (inB h)) (H'.take i1) = sb at hsb HSM
                                clear hel hok
                                go_wp2
                                go_loopw [22, 24] (fun vin vk wx => ∃ k1 : Nat, k1 ≤ h.1.length ∧ vk = .int .i64 (k1 : Int) ∧ vin = .int .i64 ((sb + cn h.1 (s0 : Int) (inB h) k1 : Nat) : Int) ∧ wx = wr) (fun _ vk _ => h.1.length - (intOf vk).toNat)
                                case atStart => exact ⟨0, Nat.zero_le _, rfl, rfl, rfl⟩
                                case round =>
                                  obtain ⟨k1, hk1, rfl, rfl, rfl⟩ := hrel
                                  by_cases hkk : k1 < h.1.length
                                  · have hI6 : (k1 : Int) < (h.1.length : Int) := by omega
                                    obtain ⟨g6, off6, e6, c6⟩ := HEL.out k1 hkk
                                    subst e6
                                    have hcb := cn_le h.1 (s0 : Int) (inB h) k1
                                    have HCS := hid (show cn h.1 (s0 : Int) (inB h) (k1 + 1) = cn h.1 (s0 : Int) (inB h) k1 + if decide (ss h k1 = (s0 : Int)) && inB h k1 then 1 else 0 from rfl)
                                    have HI1 := hid (HIN.out k1 (by omega))
                                    generalize hs6 : ss h k1 = sv6 at c6 HCS
                                    generalize cn h.1 (s0 : Int) (inB h) k1 = cc at hcb HCS
                                    by_cases he6 : sv6 = (s0 : Int)
                                    · have hb6 : (sv6 == (s0 : Int)) = true := by simp [he6]
                                      rw [decide_eq_true he6] at HCS
                                      clear he6
                                      go_wp2_with fail
                                      refine Calls.mono HI1.out ?_
                                      rintro e wq ⟨rfl, rfl⟩
                                      cases hin : inB h k1 with
                                      | true =>
                                        rw [hin] at HCS
                                        go_wp2
                                        go_roundw
                                        case rel => exact ⟨k1 + 1, by omega, by go_num, by rw [HCS.out]; go_num, (by trivial)⟩
                                        case measure => simp [intOf]; omega
                                      | false =>
                                        rw [hin] at HCS
                                        go_wp2
                                        go_roundw
                                        case rel => exact ⟨k1 + 1, by omega, by go_num, by rw [HCS.out]; go_num, (by trivial)⟩
                                        case measure => simp [intOf]; omega
                                    · have hb6 : (sv6 == (s0 : Int)) = false := by simp [he6]
                                      rw [decide_eq_false he6] at HCS
                                      clear he6
                                      go_wp2
                                      go_roundw
                                      case rel => exact ⟨k1 + 1, by omega, by go_num, by rw [HCS.out]; go_num, (by trivial)⟩
                                      case measure => simp [intOf]; omega
                                  · have hI6 : ¬ (k1 : Int) < (h.1.length : Int) := by omega
                                    obtain rfl : k1 = h.1.length := by omega
                                    rw [HCN.out]
                                    have HS1 := hid (show sm (fun h => Go.Proofs.Ytokpncfnkokmcaa.ind h.1 (s0 : Int) (inB h)) (H'.take (i1 + 1)) = sb + Go.Proofs.Ytokpncfnkokmcaa.ind h.1 (s0 : Int) (inB h) from HSM.out)
                                    generalize Go.Proofs.Ytokpncfnkokmcaa.ind h.1 (s0 : Int) (inB h) = ix at HS1
                                    go_wp2
                                    go_roundw
                                    case rel => exact ⟨i1 + 1, by omega, by go_num, by rw [HS1.out], (by trivial)⟩
                                    case measure => simp [intOf]; omega
                              · have hI5 : ¬ (i1 : Int) < (k : Int) := by omega
                                obtain rfl : i1 = k := by omega
                                have hle := HF3.out.fi.inner (s0 : Int)
                                rw [List.take_of_length_le (by have := HK3.out; omega)]
                                generalize sm (fun h => Go.Proofs.Ytokpncfnkokmcaa.ind h.1 (s0 : Int) (inB h)) H' = sq at hle
                                have hle2 : ¬ (sq : Int) > 1 := by omega
                                have hle3 : (sq : Int) ≤ 1 := by omega
                                go_wp2
                                go_roundw
                                case rel => exact ⟨s0 + 1, by omega, by go_num, (by trivial)⟩
                                case measure => simp [intOf]; omega
                          · have hI4 : ¬ (s0 : Int) < (n : Int) := by omega
                            go_wp2
                            go_roundw
                            case rel => exact ⟨H', T', M', sn + 1, p + 1, by go_num, by go_num, by rw [HSS.out, HSN.out], by omega, by omega, by rw [HMP.out]; exact HMQ.out, HF3.out⟩
                            case measure => simp [intOf]; omega
              · have hpI : ¬ (0 : Int) < (Pk.length : Int) := by omega
                have hpI2 : (Pk.length : Int) ≤ 0 := by omega
                go_wp2
                go_loopw [16, 17, 18, 19, 20] (fun vg vi _ _ _ wx => ∃ (i0 : Nat) (g : Bool), i0 ≤ k ∧ vi = .int .i64 (i0 : Int) ∧ vg = .bool g ∧ ((g = false ∧ FSx w wx d hb (.slice aoh k caph) n H T M ∧ ∀ i, i < i0 → ∀ h, H[(0 + i) % k]? = some h → can T h = false) ∨ (g = true ∧ ∃ H' T' M', FSx w wx d hb (.slice aoh k caph) n H' T' M' ∧ H'.map (·.1) = H.map (·.1) ∧ sm aa H' = sm aa H + 1))) (fun _ vi _ _ _ _ => k - (intOf vi).toNat)
                case atStart => exact ⟨0, false, Nat.zero_le _, rfl, rfl, .inl ⟨rfl, HF.out, fun i hi => by omega⟩⟩
                case round =>
                  obtain ⟨i0, g, hi0, rfl, rfl, hst⟩ := hrel
                  rcases hst with ⟨rfl, hF, hcan⟩ | ⟨rfl, H', T', M', hF', hmp, hsm⟩
                  · by_cases hlt : i0 < k
                    · have hI3 : (i0 : Int) < (k : Int) := by omega
                      obtain ⟨ix, hix⟩ : ∃ ix, (0 + i0) % k = ix := ⟨_, rfl⟩
                      have hixl : ix < k := by rw [← hix]; exact Nat.mod_lt _ (by omega)
                      have hmod : (i0 : Int).tmod (k : Int) = (ix : Int) := by have := @tmod_nat 0 i0 k; rw [hix] at this; simpa using this
                      have hmod2 : (i0 : Int) % (k : Int) = (ix : Int) := by rw [← hix]; simp
                      have hixI : (ix : Int) < (k : Int) := by omega
                      obtain ⟨h, hh⟩ : ∃ h, H[ix]? = some h := ⟨_, List.getElem?_eq_getElem (by have := HHL.out; omega)⟩
                      obtain ⟨m1, hm1⟩ : ∃ m, M[ix]? = some m := ⟨_, List.getElem?_eq_getElem (by have := HHL.out; have := hF.hm.len; omega)⟩
                      obtain ⟨r, hr, cr⟩ := hF.hm.ptrAt hm1
                      subst hr
                      have HST := hid (step_any hF hm1 hh hn10)
                      have HCAN := hid hcan
                      have HIX := hid hix
                      have HHH := hid hh
                      clear hF hcan hix hm1 hh
                      go_wp2_with fail
                      refine Calls.mono HST.out ?_
                      rintro e w4 ⟨rfl, has⟩
                      rcases has with ⟨ec, hF4⟩ | ⟨ec, hx⟩
                      · rw [ec]
                        have HF4 := hid hF4
                        have HEC := hid ec
                        clear hF4 ec HST
                        go_wp2
                        go_roundw
                        case rel => exact ⟨i0 + 1, false, by omega, by go_num, rfl, .inl ⟨rfl, HF4.out, fun i hi h' e => by
                          by_cases c : i = i0
                          · subst c
                            rw [HIX.out, HHH.out] at e
                            cases e
                            exact HEC.out
                          · exact HCAN.out i (by omega) h' e⟩⟩
                        case measure => simp [intOf]; omega
                      · rw [ec]
                        have HX := hid hx
                        clear hx ec HST
                        go_wp2
                        go_roundw
                        case rel => exact ⟨i0 + 1, true, by omega, by go_num, rfl, .inr ⟨rfl, HX.out⟩⟩
                        case measure => simp [intOf]; omega
                    · exfalso
                      obtain rfl : i0 = k := by omega
                      have hl := HHL.out
                      exact all_none hF.fi (0) (by omega) HEX.out (fun i hi h e => hcan i (by omega) h (by rw [hl] at e; exact e))
                  · have HF3 := hid hF'
                    have HMP := hid hmp
                    have HSS := hid hsm
                    have DD2 : ¬ (i0 : Int) < (k : Int) ∨ (i0 : Int) < (k : Int) := by omega
                    clear hF' hmp hsm
                    rcases DD2 with hI3 | hI3
                    all_goals
                      as_aux_lemma =>
                        have HK3 := hid (show H'.length = k from by have h1 := (sm_nn H H' HMP.out).2; have h2 := HHL.out; omega)
                        go_wp2
                        go_loopw [21, 22, 23, 24] (fun vs _ _ _ wx => ∃ s0 : Nat, s0 ≤ n ∧ vs = .int .i64 (s0 : Int) ∧ wx = wr) (fun vs _ _ _ _ => n - (intOf vs).toNat)
                        case atStart => exact ⟨0, Nat.zero_le _, rfl, rfl⟩
                        case round =>
                          obtain ⟨s0, hs0, rfl, rfl⟩ := hrel
                          by_cases hsn : s0 < n
                          · have hI4 : (s0 : Int) < (n : Int) := by omega
                            go_wp2
                            go_loopw [22, 23, 24] (fun vin vi _ wx => ∃ i1 : Nat, i1 ≤ k ∧ vi = .int .i64 (i1 : Int) ∧ vin = .int .i64 ((sm (fun h => Go.Proofs.Ytokpncfnkokmcaa.ind h.1 (s0 : Int) (inB h)) (H'.take i1) : Nat) : Int) ∧ wx = wr) (fun _ vi _ _ => k - (intOf vi).toNat)
                            case atStart => exact ⟨0, Nat.zero_le _, rfl, by simp [sm], rfl⟩
                            case round =>
                              obtain ⟨i1, hi1, rfl, rfl, rfl⟩ := hrel
                              by_cases hik : i1 < k
                              · have hI5 : (i1 : Int) < (k : Int) := by omega
                                obtain ⟨h, hh⟩ : ∃ h, H'[i1]? = some h := ⟨_, List.getElem?_eq_getElem (by have := HK3.out; omega)⟩
                                obtain ⟨m1, hm1⟩ : ∃ m, M'[i1]? = some m := ⟨_, List.getElem?_eq_getElem (by have := HK3.out; have := HF3.out.hm.len; omega)⟩
                                obtain ⟨r, hr, cr⟩ := HF3.out.hm.ptrAt hm1
                                subst hr
                                obtain ⟨ao1, cap1, cs0, hel⟩ := HF3.out.hm.setAt hm1 hh
                                have HEL := hid hel
                                have hok := HF3.out.fi.hok i1 h hh
                                have hsm10 : h.1.length ≤ 10 := by have := hok.small; have e : nn h = h.1.length := rfl; omega
                                have haa : aa h ≤ 50 := by have := hok.le; have e : nn h = h.1.length := rfl; omega
                                have HIN := hid (fun k0 (hk0 : k0 ≤ 100) => inside_any k0 _ HF3.out.hm hm1 hh (by have e : nn h = h.1.length := rfl; omega) (by omega) hk0)
                                have HSM := hid (sm_take (fun h => Go.Proofs.Ytokpncfnkokmcaa.ind h.1 (s0 : Int) (inB h)) H' i1 h hh)
                                have HCN := hid (cn_ind hok (s0 : Int) (inB h))
                                have hsb : sm (fun h => Go.Proofs.Ytokpncfnkokmcaa.ind h.1 (s0 : Int) (inB h)) (H'.take i1) ≤ 8 := by
                                  have h1 := sm_le (fun h => Go.Proofs.Ytokpncfnkokmcaa.ind h.1 (s0 : Int) (inB h)) 1 (H'.take i1) (fun g _ => ind_le _ _ _)
                                  rw [List.length_take] at h1
                                  omega
                                generalize sm (fun h => Go.Proofs.Ytokpncfnkokmcaa.ind h.1 (s0 : Int) (inB h)) (H'.take i1) = sb at hsb HSM
                                clear hel hok
                                go_wp2
                                go_loopw [22, 24] (fun vin vk wx => ∃ k1 : Nat, k1 ≤ h.1.length ∧ vk = .int .i64 (k1 : Int) ∧ vin = .int .i64 ((sb + cn h.1 (s0 : Int) (inB h) k1 : Nat) : Int) ∧ wx = wr) (fun _ vk _ => h.1.length - (intOf vk).toNat)
                                case atStart => exact ⟨0, Nat.zero_le _, rfl, rfl, rfl⟩
                                case round =>
                                  obtain ⟨k1, hk1, rfl, rfl, rfl⟩ := hrel
                                  by_cases hkk : k1 < h.1.length
                                  · have hI6 : (k1 : Int) < (h.1.length : Int) := by omega
                                    obtain ⟨g6, off6, e6, c6⟩ := HEL.out k1 hkk
                                    subst e6
                                    have hcb := cn_le h.1 (s0 : Int) (inB h) k1
                                    have HCS := hid (show cn h.1 (s0 : Int) (inB h) (k1 + 1) = cn h.1 (s0 : Int) (inB h) k1 + if decide (ss h k1 = (s0 : Int)) && inB h k1 then 1 else 0 from rfl)
                                    have HI1 := hid (HIN.out k1 (by omega))
                                    generalize hs6 : ss h k1 = sv6 at c6 HCS
                                    generalize cn h.1 (s0 : Int) (inB h) k1 = cc at hcb HCS
                                    by_cases he6 : sv6 = (s0 : Int)
                                    · have hb6 : (sv6 == (s0 : Int)) = true := by simp [he6]
                                      rw [decide_eq_true he6] at HCS
                                      clear he6
                                      go_wp2_with fail
                                      refine Calls.mono HI1.out ?_
                                      rintro e wq ⟨rfl, rfl⟩
                                      cases hin : inB h k1 with
                                      | true =>
                                        rw [hin] at HCS
                                        go_wp2
                                        go_roundw
                                        case rel => exact ⟨k1 + 1, by omega, by go_num, by rw [HCS.out]; go_num, (by trivial)⟩
                                        case measure => simp [intOf]; omega
                                      | false =>
                                        rw [hin] at HCS
                                        go_wp2
                                        go_roundw
                                        case rel => exact ⟨k1 + 1, by omega, by go_num, by rw [HCS.out]; go_num, (by trivial)⟩
                                        case measure => simp [intOf]; omega
                                    · have hb6 : (sv6 == (s0 : Int)) = false := by simp [he6]
                                      rw [decide_eq_false he6] at HCS
                                      clear he6
                                      go_wp2
                                      go_roundw
                                      case rel => exact ⟨k1 + 1, by omega, by go_num, by rw [HCS.out]; go_num, (by trivial)⟩
                                      case measure => simp [intOf]; omega
                                  · have hI6 : ¬ (k1 : Int) < (h.1.length : Int) := by omega
                                    obtain rfl : k1 = h.1.length := by omega
                                    rw [HCN.out]
                                    have HS1 := hid (show sm (fun h => Go.Proofs.Ytokpncfnkokmcaa.ind h.1 (s0 : Int) (inB h)) (H'.take (i1 + 1)) = sb + Go.Proofs.Ytokpncfnkokmcaa.ind h.1 (s0 : Int) (inB h) from HSM.out)
                                    generalize Go.Proofs.Ytokpncfnkokmcaa.ind h.1 (s0 : Int) (inB h) = ix at HS1
                                    go_wp2
                                    go_roundw
                                    case rel => exact ⟨i1 + 1, by omega, by go_num, by rw [HS1.out], (by trivial)⟩
                                    case measure => simp [intOf]; omega
                              · have hI5 : ¬ (i1 : Int) < (k : Int) := by omega
                                obtain rfl : i1 = k := by omega
                                have hle := HF3.out.fi.inner (s0 : Int)
                                rw [List.take_of_length_le (by have := HK3.out; omega)]
                                generalize sm (fun h => Go.Proofs.Ytokpncfnkokmcaa.ind h.1 (s0 : Int) (inB h)) H' = sq at hle
                                have hle2 : ¬ (sq : Int) > 1 := by omega
                                have hle3 : (sq : Int) ≤ 1 := by omega
                                go_wp2
                                go_roundw
                                case rel => exact ⟨s0 + 1, by omega, by go_num, (by trivial)⟩
                                case measure => simp [intOf]; omega
                          · have hI4 : ¬ (s0 : Int) < (n : Int) := by omega
                            go_wp2
                            go_roundw
                            case rel => exact ⟨H', T', M', sn + 1, p, by go_num, by go_num, by rw [HSS.out, HSN.out], by omega, by omega, by rw [HMP.out]; exact HMQ.out, HF3.out⟩
                            case measure => simp [intOf]; omega
            · have hI : ¬ (sn : Int) < (tot : Int) := by omega
              have HALL := hid (sm_all H (fun h hm => by obtain ⟨i, e⟩ := List.getElem?_of_mem hm; exact (HF.out.fi.hok i h e).le) (by have h1 := HNN.out.1; have h2 := HTot.out; have h3 := HSN.out; omega))
              as_aux_lemma =>
                go_wp2
                go_loopw [25, 26, 27, 28] (fun vs _ _ _ wx => ∃ s0 : Nat, s0 ≤ n ∧ vs = .int .i64 (s0 : Int) ∧ FSx w wx d hb (.slice aoh k caph) n H T M) (fun vs _ _ _ _ => n - (intOf vs).toNat)
                case atStart => exact ⟨0, Nat.zero_le _, rfl, HF.out⟩
                case round =>
                  obtain ⟨s0, hs0, rfl, hF7⟩ := hrel
                  have HF7 := hid hF7
                  clear hF7 HF
                  by_cases hsn : s0 < n
                  · have hI4 : (s0 : Int) < (n : Int) := by omega
                    go_wp2
                    go_loopw [26, 27, 28] (fun vn vi _ wx => ∃ i1 : Nat, i1 ≤ k ∧ vi = .int .i64 (i1 : Int) ∧ vn = .int .i64 ((sm (fun h => Go.Proofs.Ytokpncfnkokmcaa.ind h.1 (s0 : Int) (fun _ => true)) (H.take i1) : Nat) : Int) ∧ FSx w wx d hb (.slice aoh k caph) n H T M) (fun _ vi _ _ => k - (intOf vi).toNat)
                    case atStart => exact ⟨0, Nat.zero_le _, rfl, by simp [sm], HF7.out⟩
                    case round =>
                      obtain ⟨i1, hi1, rfl, rfl, hF8⟩ := hrel
                      have HF8 := hid hF8
                      clear hF8 HF7
                      by_cases hik : i1 < k
                      · have hI5 : (i1 : Int) < (k : Int) := by omega
                        obtain ⟨h, hh⟩ : ∃ h, H[i1]? = some h := ⟨_, List.getElem?_eq_getElem (by have := HHL.out; omega)⟩
                        obtain ⟨m1, hm1⟩ : ∃ m, M[i1]? = some m := ⟨_, List.getElem?_eq_getElem (by have := HHL.out; have := HF8.out.hm.len; omega)⟩
                        obtain ⟨r, hr, cr⟩ := HF8.out.hm.ptrAt hm1
                        subst hr
                        have hok := HF8.out.fi.hok i1 h hh
                        have hsm10 : h.1.length ≤ 10 := by have := hok.small; have e : nn h = h.1.length := rfl; omega
                        have HDo := hid (done_any _ HF8.out.hm hm1 hh (by have e : nn h = h.1.length := rfl; omega))
                        rw [decide_eq_true (show 5 * nn h ≤ aa h by rw [HALL.out h (List.mem_of_getElem? hh)]; exact Nat.le_refl _)] at HDo
                        have HSM := hid (sm_take (fun h => Go.Proofs.Ytokpncfnkokmcaa.ind h.1 (s0 : Int) (fun _ => true)) H i1 h hh)
                        have HCN := hid (cn_ind hok (s0 : Int) (fun _ => true))
                        have hsb : sm (fun h => Go.Proofs.Ytokpncfnkokmcaa.ind h.1 (s0 : Int) (fun _ => true)) (H.take i1) ≤ 8 := by
                          have h1 := sm_le (fun h => Go.Proofs.Ytokpncfnkokmcaa.ind h.1 (s0 : Int) (fun _ => true)) 1 (H.take i1) (fun g _ => ind_le _ _ _)
                          rw [List.length_take] at h1
                          omega
                        have HHH := hid hh
                        have HMM := hid hm1
                        generalize sm (fun h => Go.Proofs.Ytokpncfnkokmcaa.ind h.1 (s0 : Int) (fun _ => true)) (H.take i1) = sb at hsb HSM
                        clear hok hh hm1
                        go_wp2_with fail
                        refine Calls.mono HDo.out ?_
                        rintro e w5 ⟨rfl, hB5⟩
                        have hF9 := HF8.out.later hB5
                        have HF9 := hid hF9
                        obtain ⟨r2, hr2, cr2⟩ := hF9.hm.ptrAt HMM.out
                        cases hr2
                        obtain ⟨ao1, cap1, cs0, hel⟩ := hF9.hm.setAt HMM.out HHH.out
                        have HEL := hid hel
                        clear hel hF9 hB5 HDo cr HF8
                        go_wp2
                        go_loopw [26, 28] (fun vn vk wx => ∃ k1 : Nat, k1 ≤ h.1.length ∧ vk = .int .i64 (k1 : Int) ∧ vn = .int .i64 ((sb + cn h.1 (s0 : Int) (fun _ => true) k1 : Nat) : Int) ∧ wx = w5) (fun _ vk _ => h.1.length - (intOf vk).toNat)
                        case atStart => exact ⟨0, Nat.zero_le _, rfl, rfl, rfl⟩
                        case round =>
                          obtain ⟨k1, hk1, rfl, rfl, rfl⟩ := hrel
                          by_cases hkk : k1 < h.1.length
                          · have hI6 : (k1 : Int) < (h.1.length : Int) := by omega
                            obtain ⟨g6, off6, e6, c6⟩ := HEL.out k1 hkk
                            subst e6
                            have hcb := cn_le h.1 (s0 : Int) (fun _ => true) k1
                            have HCS := hid (show cn h.1 (s0 : Int) (fun _ => true) (k1 + 1) = cn h.1 (s0 : Int) (fun _ => true) k1 + if decide (ss h k1 = (s0 : Int)) && true then 1 else 0 from rfl)
                            generalize hs6 : ss h k1 = sv6 at c6 HCS
                            generalize cn h.1 (s0 : Int) (fun _ => true) k1 = cc at hcb HCS
                            by_cases he6 : sv6 = (s0 : Int)
                            · have hb6 : (sv6 == (s0 : Int)) = true := by simp [he6]
                              rw [decide_eq_true he6] at HCS
                              clear he6
                              go_wp2
                              go_roundw
                              case rel => exact ⟨k1 + 1, by omega, by go_num, by rw [HCS.out]; go_num, (by trivial)⟩
                              case measure => simp [intOf]; omega
                            · have hb6 : (sv6 == (s0 : Int)) = false := by simp [he6]
                              rw [decide_eq_false he6] at HCS
                              clear he6
                              go_wp2
                              go_roundw
                              case rel => exact ⟨k1 + 1, by omega, by go_num, by rw [HCS.out]; go_num, (by trivial)⟩
                              case measure => simp [intOf]; omega
                          · have hI6 : ¬ (k1 : Int) < (h.1.length : Int) := by omega
                            obtain rfl : k1 = h.1.length := by omega
                            rw [HCN.out]
                            have HS1 := hid (show sm (fun h => Go.Proofs.Ytokpncfnkokmcaa.ind h.1 (s0 : Int) (fun _ => true)) (H.take (i1 + 1)) = sb + Go.Proofs.Ytokpncfnkokmcaa.ind h.1 (s0 : Int) (fun _ => true) from HSM.out)
                            generalize Go.Proofs.Ytokpncfnkokmcaa.ind h.1 (s0 : Int) (fun _ => true) = ix at HS1
                            go_wp2
                            go_roundw
                            case rel => exact ⟨i1 + 1, by omega, by go_num, by rw [HS1.out], HF9.out⟩
                            case measure => simp [intOf]; omega
                      · have hI5 : ¬ (i1 : Int) < (k : Int) := by omega
                        obtain rfl : i1 = k := by omega
                        obtain ⟨e1, e2⟩ := HF8.out.fi.all HALL.out (s := (s0 : Int)) (by omega) (by omega)
                        have hT1 : T[s0]? = some (tg T (s0 : Int)) := by have := tg_at (T := T) (s := (s0 : Int)) (by omega) (by rw [HF8.out.fi.len]; omega); rwa [Int.toNat_natCast] at this
                        rw [List.take_of_length_le (by have := HHL.out; omega)]
                        have hsb : sm (fun h => Go.Proofs.Ytokpncfnkokmcaa.ind h.1 (s0 : Int) (fun _ => true)) H ≤ 8 := by
                          have h1 := sm_le (fun h => Go.Proofs.Ytokpncfnkokmcaa.ind h.1 (s0 : Int) (fun _ => true)) 1 H (fun g _ => ind_le _ _ _)
                          have := HHL.out
                          omega
                        generalize sm (fun h => Go.Proofs.Ytokpncfnkokmcaa.ind h.1 (s0 : Int) (fun _ => true)) H = sq at e1 hsb
                        have HSq := hid (sqc (s0 : Int) s0 (tg T (s0 : Int)) (2 * (sq : Int)) rfl hT1 e1 HF8.out.tp)
                        have HWt := hid (wtg (s0 : Int) s0 (tg T (s0 : Int)) 0 rfl hT1 (by omega) HF8.out.tp)
                        clear e1 e2 hT1
                        go_wp2_with fail
                        refine Calls.mono HSq.out ?_
                        rintro e w5 ⟨rfl, rfl⟩
                        go_wp2_with fail
                        refine Calls.mono HWt.out ?_
                        rintro e w6 ⟨rfl, _, hB6⟩
                        have HF10 := hid (HF8.out.later hB6)
                        clear hB6
                        go_wp2
                        go_roundw
                        case rel => exact ⟨s0 + 1, by omega, by go_num, HF10.out⟩
                        case measure => simp [intOf]; omega
                  · have hI4 : ¬ (s0 : Int) < (n : Int) := by omega
                    go_wp2
                    go_ret
                    exact ⟨rfl, HF7.out.below⟩
end Go.Proofs.Ytokpncfnkokmcaa
