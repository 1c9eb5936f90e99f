/-
  SchedRise: the law's walk.
-/
import Derived.Test.YtaiccmbhdgecgaaGwd
import Derived.Deep.DeepCutAuto
namespace Go.Proofs.Ytaiccmbhdgecgaa
open Go.RowKit Go.Shelf
set_option maxRecDepth 100000
set_option linter.unusedVariables false
set_option linter.unusedSimpArgs false
attribute [local go_sem] Oper.semAt_some
attribute [local go_sem ↓] apN_op mki_op

theorem results_cellR {fn : Func} {p : Tmp} (h : fn.results = #[.cell p 4]) (tmps : Array Value) (w : World) (g : Nat) (b : Bool) (hp : tmps.getD p undef = .pointer (some ⟨g, 0, none⟩)) (hc : w.cell? ⟨g, 0, none⟩ = some (.bool b)) : (results fn tmps).run Try.prog w = .ok (.bool b) w := by
  have hp' : tmps[p]?.getD undef = .pointer (some ⟨g, 0, none⟩) := by simpa using hp
  simp [results, h, hp', asAddr, go_sem, hc]
set_option maxHeartbeats 20000000 in
theorem rise_law (v : Value) (R : List Int) (h d mo : Int) (w : World) (hr : RI w v R) (hl : R.length * 8 ≤ reachBytes) (hh : -9223372036854775808 ≤ h ∧ h ≤ 9223372036854775807) (hd : -9223372036854775808 ≤ d ∧ d ≤ 9223372036854775807) (hmo : -9223372036854775808 ≤ mo ∧ mo ≤ 9223372036854775807) :
    Calls Try.prog 4 #[v, .int .i64 h, .int .i64 d, .int .i64 mo] w fun e w' => e = .returned (.bool true) ∧ Below w.heap.size w w' := by
  have hrb : reachBytes = 140737488351232 := rfl
  have hRl : R.length ≤ 9223372036854775807 := by omega
  have HCn := hid (fun W (hb : Below w.heap.size w W) => countR_any v R W (RI.below (w := w) hr hb) hRl)
  have HMx := hid (fun W (hb : Below w.heap.size w W) => mixes_any v R W (RI.below (w := w) hr hb) hRl)
  have HFe := hid (fun W (hb : Below w.heap.size w W) => few_any v R 24 W (RI.below (w := w) hr hb) hRl (by omega))
  have HFm := hid (fun W (hb : Below w.heap.size w W) => few_any v R mo W (RI.below (w := w) hr hb) hRl hmo)
  have HAl := hid (fun W => allF_any h d W)
  have HWh := hid (fun gf lb W => whole_any gf lb W)
  obtain ⟨ao, cap, hv⟩ := hr.len0
  subst hv
  obtain ⟨W0, hW0⟩ : ∃ W0, ((w.alloc (.cells #[.int .i64 d] 3)).alloc (.cells #[.int .i64 mo] 3)).alloc (.cells #[.bool false] 4) = W0 := ⟨_, rfl⟩
  obtain ⟨B, hB⟩ : ∃ B, w.heap.size = B := ⟨_, rfl⟩
  obtain ⟨cn, hcn⟩ : ∃ cn, (cntA R).1 = cn := ⟨_, rfl⟩
  obtain ⟨ce, hce⟩ : ∃ ce, (cntA R).2 = ce := ⟨_, rfl⟩
  have HSm := hid (show smR R = (decide (ce = 0) && decide (cn ≤ 1048576)) by unfold smR; rw [hcn, hce])
  have HFg := hid (fun mo => fwg R mo)
  rw [hcn, hce] at HCn
  have HX0 := hid (show (IBox W0 B d ∧ IBox W0 (B + 1) mo ∧ Boxed W0 (B + 2) 4 (.bool false)) ∧ Below B w W0 ∧ W0.heap.size = B + 3 by
    rw [← hW0]
    refine ⟨⟨((bx_a w B hB _ _).alloc _).alloc _, (bx_a _ _ (by simp; omega) _ _).alloc _, bx_a _ _ (by simp; omega) _ _⟩, ?_, by simp; omega⟩
    exact (((Below.refl _ _).alloc (by omega) _).alloc (by simp; omega) _).alloc (by simp; omega) _)
  obtain ⟨sm, hsm⟩ : ∃ sm, smR R = sm := ⟨_, rfl⟩
  have HSs := hid hsm
  rw [hsm] at HSm
  clear hr hsm
  refine (callsIn_wide (n := 5)).1 ?_
  refine callsIn_of_wp_marks Try.func4 rfl trivial ?_ rfl
  simp only [Try.ntmps4, List.size_toArray, List.length_cons, List.length_nil, Nat.reduceAdd, Nat.reduceSub, Array.replicate_succ, Array.replicate_zero, List.push_toArray, List.append_toArray, List.nil_append, List.cons_append]
  gi_wp2_with fail
  try rw [hW0]
  try rw [hB]
  try simp only [Nat.add_assoc, Nat.reduceAdd]
  refine ⟨trivial, (callsIn_wide.2 (HCn.out _ (hB ▸ HX0.out.2.1))).mono ?_⟩
  rintro e wz ⟨rfl, hwz⟩
  replace hwz := hwz.symm
  subst hwz
  gi_upto_region 2 with fail
  gi_cut [11] from 26 (fun s11 wx => s11 = .bool sm ∧ wx = W0)
  case first =>
    by_cases he : ce = 0
    · have heb : (ce == 0) = true := by simpa using he
      have HE := hid he
      clear he
      by_cases hn : cn ≤ 1048576
      · gi_wp2_with fail
        gi_meet
        exact ⟨by rw [HSm.out]; simp [HE.out, hn], rfl⟩
      · gi_wp2_with fail
        gi_meet
        exact ⟨by rw [HSm.out]; simp [HE.out, hn], rfl⟩
    · have heb : (ce == 0) = false := by simpa using he
      have HE := hid he
      clear he
      gi_wp2_with fail
      gi_meet
      exact ⟨by rw [HSm.out]; simp [HE.out], rfl⟩
  obtain ⟨rfl, hwc⟩ := hcut
  rw [hwc]
  clear hwc
  gi_wp2_with fail
  obtain ⟨W1, hW1⟩ : ∃ W1, (W0.alloc (.cells #[.int .i64 0] 3)).alloc (.cells #[.slice none 0 0] 22) = W1 := ⟨_, rfl⟩
  have zW0 : W0.heap.size = B + 3 := HX0.out.2.2
  have HR1 := hid (show RiB B d mo w W1 0 (.slice none 0 0) ∧ W1.heap.size = B + 5 by
    have z1 : W1.heap.size = B + 5 := by rw [← hW1]; simp; omega
    refine ⟨⟨?_, ?_, ?_, ?_, ?_, ?_, by omega⟩, z1⟩
    · rw [← hW1]; exact Boxed.alloc (Boxed.alloc (show Boxed W0 B 3 (.int .i64 d) from HX0.out.1.1) _) _
    · rw [← hW1]; exact Boxed.alloc (Boxed.alloc (show Boxed W0 (B + 1) 3 (.int .i64 mo) from HX0.out.1.2.1) _) _
    · rw [← hW1]; exact Boxed.alloc (Boxed.alloc HX0.out.1.2.2 _) _
    · rw [← hW1]; exact Boxed.alloc (bx_a W0 (B + 3) zW0 _ _) _
    · rw [← hW1]; exact bx_a _ _ (by simp; omega) _ _
    · rw [← hW1]; exact (HX0.out.2.1.alloc (by omega) _).alloc (by simp; omega) _)
  rw [zW0]
  try rw [World.size_alloc, zW0]
  try rw [hW1]
  try simp only [Nat.add_assoc, Nat.reduceAdd]
  refine ⟨trivial, (callsIn_wide.2 (HMx.out _ (hB ▸ HR1.out.1.be))).mono ?_⟩
  rintro e w2 ⟨hq, hb2⟩
  obtain ⟨g1, l1, c1, rfl, hS1⟩ := SqG.of_few hq
  have HS1 := hid hS1
  have HB2 := hid hb2
  have HR2 := hid (HR1.out.1.later hb2)
  clear hq hS1 hb2
  gi_wp2_with fail
  refine ⟨trivial, (callsIn_wide.2 (HFe.out _ (hB ▸ HR2.out.be))).mono ?_⟩
  rintro e w3 ⟨hq, hb3⟩
  obtain ⟨g2, l2, c2, rfl, hS2⟩ := SqG.of_few hq
  have HS2 := hid hS2
  have HB3 := hid hb3
  have HR3 := hid (HR2.out.later hb3)
  have m3 := HR3.out.m.facts.1
  clear hq hS2 hb3
  gi_wp2_with fail
  refine ⟨trivial, (callsIn_wide.2 (HFm.out _ (hB ▸ HR3.out.be))).mono ?_⟩
  rintro e w4 ⟨hq, hb4⟩
  obtain ⟨g3, l3, c3, rfl, hS3⟩ := SqG.of_few hq
  have HS3 := hid hS3
  have HB4 := hid hb4
  have HR4 := hid (HR3.out.later hb4)
  have d4 := HR4.out.d.facts.1
  clear hq hS3 hb4 m3
  gi_wp2_with fail
  refine ⟨trivial, (callsIn_wide.2 (HAl.out _)).mono ?_⟩
  rintro e w5 ⟨hq, hb5⟩
  obtain ⟨g4, l4, c4, G4, rfl, hS4, hA4⟩ := SqG.of_all hq
  have HS4 := hid hS4
  have HA4 := hid hA4
  have HB5 := hid hb5
  have HR5 := hid (HR4.out.later hb5)
  clear hq hS4 hA4 hb5 d4
  have HF24 := hid (HFg.out 24)
  have HFmo := hid (HFg.out mo)
  obtain ⟨G1, hG1⟩ : ∃ G1, (GL R 24).map iN = G1 := ⟨_, rfl⟩
  obtain ⟨G3, hG3⟩ : ∃ G3, (GL R mo).map iN = G3 := ⟨_, rfl⟩
  rw [hG1] at HS1 HS2 HF24
  rw [hG3] at HS3 HFmo
  clear hG1 hG3
  obtain ⟨G2, hG2⟩ : ∃ G2, G2 = G1 := ⟨_, rfl⟩
  rw [← hG2] at HS2
  have HG2 := hid hG2
  clear hG2
  have hz1 : W1.heap.size = B + 5 := HR1.out.2
  have hz2 : W1.heap.size ≤ w2.heap.size := HB2.out.size
  have hz3 : w2.heap.size ≤ w3.heap.size := HB3.out.size
  have hz4 : w3.heap.size ≤ w4.heap.size := HB4.out.size
  have hz5 : w4.heap.size ≤ w5.heap.size := HB5.out.size
  have HK4 := hid (show KpL w4.heap.size w5.heap.size w5 w5 from KpL.refl _ _ _)
  have HK3 := hid (show KpL w3.heap.size w4.heap.size w4 w5 from KpL.of_below HB5.out (Nat.le_refl _))
  have HK2 := hid (show KpL w2.heap.size w3.heap.size w3 w5 from KpL.of_below (HB4.out.trans (HB5.out.mono hz4)) (Nat.le_refl _))
  have HK1 := hid (show KpL W1.heap.size w2.heap.size w2 w5 from KpL.of_below ((HB3.out.trans (HB4.out.mono hz3)).trans (HB5.out.mono (by omega))) (Nat.le_refl _))
  have HGl1 := hid (show G1.length ≤ 1048576 from HF24.out.few)
  have HGl2 := hid (show G2.length ≤ 1048576 by rw [HG2.out]; exact HF24.out.few)
  have HGl3 := hid (show G3.length ≤ 1048576 from HFmo.out.few)
  have HGl4 := hid (show G4.length ≤ 1048576 by
    rcases HA4.out.len with ⟨e1, e2⟩ | ⟨e1, e2⟩
    · have hk : 1 ≤ h ∧ h ≤ 16 ∧ 0 ≤ d ∧ d ≤ 24 ∧ h.toNat ^ d.toNat ≤ 1048576 := of_decide_eq_true e1
      rw [e2]; exact hk.2.2.2.2
    · omega)
  have HGr1 := hid (show Rsg G1 from HF24.out.rise)
  have HGr2 := hid (show Rsg G2 by rw [HG2.out]; exact HF24.out.rise)
  have HGr3 := hid (show Rsg G3 from HFmo.out.rise)
  have HGr4 := hid (show Rsg G4 from HA4.out.rise)
  have gn : ∀ {R' : List Int} {mo' : Int} {G : List (List Int)}, FwG R' mo' G → ∀ k, (G.getD k []).length ≤ 9223372036854775807 := fun {R' mo' G} hF k => by
    by_cases hk : k < G.length
    · obtain ⟨x, hx, _, hl, _⟩ := hF.each k hk
      rw [hx, iN_len]; omega
    · rw [List.getD_eq_getElem?_getD, List.getElem?_eq_none (by omega)]
      exact Nat.zero_le _
  have HGn1 := hid (gn HF24.out)
  have HGn2 := hid (show ∀ k, (G2.getD k []).length ≤ 9223372036854775807 by rw [HG2.out]; exact gn HF24.out)
  have HGn3 := hid (gn HFmo.out)
  have HGn4 := hid (show ∀ k, (G4.getD k []).length ≤ 9223372036854775807 from fun k => by
    by_cases hk : k < G4.length
    · have := HA4.out.each k hk; omega
    · rw [List.getD_eq_getElem?_getD, List.getElem?_eq_none (by omega)]
      exact Nat.zero_le _)
  have HL1 := hid (show (sm = false → G1.length = 0) ∧ (sm = true → (G1.length : Int) = cn) from ⟨fun e => HF24.out.none (.inl (HSs.out.trans e)), fun e => (HF24.out.all rfl (HSs.out.trans e)).trans hcn⟩)
  have HL2 := hid (show (sm = false → G2.length = 0) ∧ (sm = true → (G2.length : Int) = cn) by rw [HG2.out]; exact HL1.out)
  have HL3 := hid (show (mo < 0 → G3.length = 0) ∧ (sm = true → 0 ≤ mo → 0 < G3.length) from ⟨fun e => HFmo.out.none (.inr e), fun e h0 => HFmo.out.some (HSs.out.trans e) h0⟩)
  clear HMx HFe HFm HAl HR1 HR2 HR3 HR4 HB2 HB3 HB4 HB5 hW1 hW0 HX0 zW0 HCn HFg
  gi_wp2_with fail
  refine ⟨trivial, (callsIn_wide.2 (HWh.out _ _ _)).mono ?_⟩
  rintro e wz ⟨rfl, hwz⟩
  replace hwz := hwz.symm
  subst hwz
  have HKp1 := hid HK1.out
  have HBz1 := hid (show w2.heap.size ≤ w5.heap.size by omega)
  obtain ⟨z1, hzz1⟩ : ∃ z1, z1 = w5.heap.size + (c1 + 2) := ⟨_, rfl⟩
  have HZ1 := hid hzz1
  have HQq1 := hid (show B + 5 ≤ w5.heap.size ∧ w5.heap.size ≤ w5.heap.size ∧ (∀ p, p ∈ ([] : List Nat) → p < w5.heap.size) ∧ w2.heap.size ≤ w5.heap.size ∧ B + 5 ≤ W1.heap.size ∧ B + 5 ≤ z1 ∧ (∀ p, p ∈ ([] : List Nat) → B + 5 ≤ p) from ⟨by omega, Nat.le_refl _, (fun p hp => by cases hp), by omega, by omega, by omega, (fun p hp => by cases hp)⟩)
  have HI1 := hid (show RiI B d mo w w5 z1 G1 [] 0 w5 from RiI.start HR5.out (fun p hp => by cases hp) (KpL.refl _ _ _) (Nat.le_refl _))
  clear HR5 hzz1 HK1
  gi_wp2_with fail
  refine range_r3 (q := 18) (w0 := w2) (gf := g1) (lb := l1) (c := c1) (Lo := W1.heap.size) (B0 := w2.heap.size) (n := G1.length) (D := LzD G1) rfl HS1.out.eg HS1.out.sq (HKp1.out) (HBz1.out) (fun k W => RiI B d mo w w5 z1 G1 [] k W) (fun _ _ => False) ?_ ?_ ?_ ?_ ?_ ?_ ?_
  · skip
    intro k A A' hI hc
    exact hI.chg hc HQq1.out.1 HQq1.out.2.1 (Nat.le_of_eq HZ1.out.symm) HQq1.out.2.2.1
  · skip
    intro k A A' hI _
    exact hI
  · exact HI1.out
  · skip
    intro l x W K' hK'
    have HKK := hid hK'
    clear hK'
    gi_wp2
    exact HKK.out
  · skip
    rintro l k x A W1' W hI hk hAW hD hc hz hs
    obtain ⟨vl, hN⟩ := hI.enter hAW hD hc hz hs HZ1.out HQq1.out.1 HQq1.out.2.1 HQq1.out.2.2.1 W1.heap.size w2.heap.size
    have HN := hid hN
    have HEn := hid (fun W' (h : RiN B d mo w w5 z1 G1 [] W1.heap.size w2.heap.size w5.heap.size (c1 + 2) W k x vl W') => h.end HQq1.out.2.2.2.1 HQq1.out.2.2.2.2.1 HQq1.out.1 HQq1.out.2.2.2.2.2.1 HQq1.out.2.2.2.2.2.2)
    have HKl := hid hk
    have hk2 : (k : Int) ≤ 1048576 := by have := HGl1.out; omega
    have hk3 : 0 ≤ (k : Int) := by omega
    obtain ⟨⟨k0, l0, f0, d0, m0⟩, k1, f1⟩ := hN.cells
    obtain ⟨a0, n0, hx0⟩ := hN.x.1.len0
    obtain ⟨X, hX⟩ : ∃ X, G1.getD k [] = X := ⟨_, rfl⟩
    rw [hX] at hx0
    obtain ⟨nX, hnX⟩ : ∃ nX, X.length = nX := ⟨_, rfl⟩
    rw [hnX] at hx0
    have HX := hid (And.intro hX hnX)
    clear hI hAW hD hc hz hs hN hX hnX
    simp only [List.setIfInBounds_toArray, List.set_cons_succ, List.set_cons_zero]
    subst hx0
    by_cases hgo : 0 < k
    · have hI : (0 : Int) < (k : Int) := by omega
      have hk' : k - 1 + 1 = k := by omega
      have hbl : bl (G1.getD (k - 1) []) (G1.getD k []) = true := by
        have := HGr1.out.next (k - 1) (by have := HKl.out; omega)
        rwa [hk'] at this
      have HBe := hid (below_any vl (.slice a0 nX n0) _ _ W (HN.out.l hgo).1 HN.out.x.1 (HGn1.out _) (HGn1.out _))
      rw [hbl] at HBe
      clear hk' hbl
      gi_wp2_with fail
      refine ⟨trivial, ((callsIn_wide.2 HBe.out).inRound l).mono ?_⟩
      rintro e w6 ⟨rfl, hb6⟩
      have HN6 := hid (HN.out.later hb6 HQq1.out.2.2.2.1)
      clear hb6 HBe k0 l0 f0 d0 m0 k1 f1
      obtain ⟨⟨k0, l0, f0, d0, m0⟩, k1, f1⟩ := HN6.out.cells
      have HE6 := hid (HEn.out _ HN6.out)
      clear HEn HN HN6
      gi_wp2
      exact .inl ⟨rfl, HE6.out.1, HE6.out.2⟩
    · have hI : ¬ (0 : Int) < (k : Int) := by omega
      have HE6 := hid (HEn.out _ HN.out)
      clear HEn
      gi_wp2_with fail
      refine ⟨trivial, ?_⟩
      gi_wp2
      exact .inl ⟨rfl, HE6.out.1, HE6.out.2⟩
  · skip
    intro W hI hdq
    have HI := hid hI
    have HDq := hid hdq
    clear hI hdq
    obtain ⟨nk, hnk⟩ : ∃ nk, G1.length = nk := ⟨_, rfl⟩
    have HX := hid hnk
    clear hnk
    obtain ⟨k0, kf, m0⟩ : W.cell? ⟨B + 3, 0, none⟩ = some (.int .i64 (G1.length : Int)) ∧ W.frozen? ⟨B + 3, 0, none⟩ = false ∧ W.cell? ⟨B + 1, 0, none⟩ = some (.int .i64 mo) := by
      obtain ⟨⟨vl, hb, _⟩, _, _, _⟩ := HI.out
      exact ⟨hb.k.facts.1, (show Boxed _ (B + 3) 3 (.int .i64 (G1.length : Int)) from hb.k).frozen, hb.m.facts.1⟩
    gi_upto_region 15 with fail
    gi_cut [74] from 49 (fun s wx => s = .bool false ∧ wx = W)
    case first =>
      rw [HX.out] at k0
      cases sm with
      | false =>
        have hl0 : nk = 0 := HX.out.symm.trans (HL1.out.1 rfl)
        rw [hl0] at k0
        have k0 : W.cell? ⟨B + 3, 0, none⟩ = some (.int .i64 0) := k0
        clear hl0
        gi_wp2_with fail
        gi_meet
        exact ⟨rfl, rfl⟩
      | true =>
        have hl0 : (nk : Int) = cn := by have := HL1.out.2 rfl; rw [HX.out] at this; exact this
        rw [hl0] at k0
        clear hl0
        gi_wp2_with fail
        gi_meet
        exact ⟨rfl, rfl⟩
    obtain ⟨rfl, hwc⟩ := hcut
    rw [hwc]
    clear hwc
    have HI' := hid (show RiI B d mo w w5 z1 G1 [w5.heap.size] G1.length W from ⟨HI.out.ex, fun p hp => by
      rcases List.mem_cons.1 hp with e | e
      · rw [e]; exact HDq.out
      · exact HI.out.dl p e, HI.out.kp, HI.out.sz⟩)
    have HDb := hid (show ∀ p, p ∈ [w5.heap.size] → B + 5 ≤ p from fun p hp => by
      rcases List.mem_cons.1 hp with e | e
      · rw [e]; exact HQq1.out.1
      · exact HQq1.out.2.2.2.2.2.2 p e)
    gi_wp2_with fail
    obtain ⟨u2, hu2⟩ : ∃ u, W.setCell ⟨B + 3, 0, none⟩ (.int .i64 0) = u := ⟨_, rfl⟩
    rw [hu2]
    refine ⟨trivial, (callsIn_wide.2 (HWh.out _ _ _)).mono ?_⟩
    rintro e wz ⟨rfl, hwz⟩
    replace hwz := hwz.symm
    subst hwz
    obtain ⟨z2, hzz⟩ : ∃ z, z = u2.heap.size + (c2 + 2) := ⟨_, rfl⟩
    have HZ2 := hid hzz
    have HI2 := hid (show RiI B d mo w w5 z2 G2 [w5.heap.size] 0 u2 by rw [← hu2]; exact HI'.out.zero HDb.out)
    have hsz2 : w5.heap.size ≤ u2.heap.size := HI2.out.sz
    have HQq2 := hid (show B + 5 ≤ u2.heap.size ∧ w5.heap.size ≤ u2.heap.size ∧ (∀ p, p ∈ [w5.heap.size] → p < u2.heap.size) ∧ w3.heap.size ≤ u2.heap.size ∧ B + 5 ≤ w2.heap.size ∧ B + 5 ≤ z2 ∧ (∀ p, p ∈ [w5.heap.size] → B + 5 ≤ p) from ⟨by omega, hsz2, (fun p hp => (Array.getElem?_eq_some_iff.1 (HI2.out.dl p hp)).1), by omega, by omega, by omega, HDb.out⟩)
    have HKp2 := hid (show KpL w2.heap.size w3.heap.size w3 u2 from fun g h1 h2 => (HI2.out.kp g (by omega) (by omega)).trans (HK2.out g h1 h2))
    have HBz2 := hid (show w3.heap.size ≤ u2.heap.size by omega)
    clear hzz hu2 HI HI' HDq HDb HX kf k0 m0
    gi_wp2_with fail
    refine range_r3 (q := 19) (w0 := w3) (gf := g2) (lb := l2) (c := c2) (Lo := w2.heap.size) (B0 := w3.heap.size) (n := G2.length) (D := LzD G2) rfl HS2.out.eg HS2.out.sq (HKp2.out) (HBz2.out) (fun k W => RiI B d mo w w5 z2 G2 [w5.heap.size] k W) (fun _ _ => False) ?_ ?_ ?_ ?_ ?_ ?_ ?_
    · skip
      intro k A A' hI hc
      exact hI.chg hc HQq2.out.1 HQq2.out.2.1 (Nat.le_of_eq HZ2.out.symm) HQq2.out.2.2.1
    · skip
      intro k A A' hI _
      exact hI
    · exact HI2.out
    · skip
      intro l x W K' hK'
      have HKK := hid hK'
      clear hK'
      gi_wp2
      exact HKK.out
    · skip
      rintro l k x A W1' W hI hk hAW hD hc hz hs
      obtain ⟨vl, hN⟩ := hI.enter hAW hD hc hz hs HZ2.out HQq2.out.1 HQq2.out.2.1 HQq2.out.2.2.1 w2.heap.size w3.heap.size
      have HN := hid hN
      have HEn := hid (fun W' (h : RiN B d mo w w5 z2 G2 [w5.heap.size] w2.heap.size w3.heap.size u2.heap.size (c2 + 2) W k x vl W') => h.end HQq2.out.2.2.2.1 HQq2.out.2.2.2.2.1 HQq2.out.1 HQq2.out.2.2.2.2.2.1 HQq2.out.2.2.2.2.2.2)
      have HKl := hid hk
      have hk2 : (k : Int) ≤ 1048576 := by have := HGl2.out; omega
      have hk3 : 0 ≤ (k : Int) := by omega
      obtain ⟨⟨k0, l0, f0, d0, m0⟩, k1, f1⟩ := hN.cells
      obtain ⟨a0, n0, hx0⟩ := hN.x.1.len0
      obtain ⟨X, hX⟩ : ∃ X, G2.getD k [] = X := ⟨_, rfl⟩
      rw [hX] at hx0
      obtain ⟨nX, hnX⟩ : ∃ nX, X.length = nX := ⟨_, rfl⟩
      rw [hnX] at hx0
      have HX := hid (And.intro hX hnX)
      clear hI hAW hD hc hz hs hN hX hnX
      simp only [List.setIfInBounds_toArray, List.set_cons_succ, List.set_cons_zero]
      subst hx0
      by_cases hgo : 0 < k
      · have hI : (0 : Int) < (k : Int) := by omega
        have hk' : k - 1 + 1 = k := by omega
        have hbl : bl (G2.getD (k - 1) []) (G2.getD k []) = true := by
          have := HGr2.out.next (k - 1) (by have := HKl.out; omega)
          rwa [hk'] at this
        have HBe := hid (below_any vl (.slice a0 nX n0) _ _ W (HN.out.l hgo).1 HN.out.x.1 (HGn2.out _) (HGn2.out _))
        rw [hbl] at HBe
        clear hk' hbl
        gi_wp2_with fail
        refine ⟨trivial, ((callsIn_wide.2 HBe.out).inRound l).mono ?_⟩
        rintro e w6 ⟨rfl, hb6⟩
        have HN6 := hid (HN.out.later hb6 HQq2.out.2.2.2.1)
        clear hb6 HBe k0 l0 f0 d0 m0 k1 f1
        obtain ⟨⟨k0, l0, f0, d0, m0⟩, k1, f1⟩ := HN6.out.cells
        have HE6 := hid (HEn.out _ HN6.out)
        clear HEn HN HN6
        gi_wp2
        exact .inl ⟨rfl, HE6.out.1, HE6.out.2⟩
      · have hI : ¬ (0 : Int) < (k : Int) := by omega
        have HE6 := hid (HEn.out _ HN.out)
        clear HEn
        gi_wp2_with fail
        refine ⟨trivial, ?_⟩
        gi_wp2
        exact .inl ⟨rfl, HE6.out.1, HE6.out.2⟩
    · skip
      intro W hI hdq
      have HI := hid hI
      have HDq := hid hdq
      clear hI hdq
      obtain ⟨nk, hnk⟩ : ∃ nk, G2.length = nk := ⟨_, rfl⟩
      have HX := hid hnk
      clear hnk
      obtain ⟨k0, kf, m0⟩ : W.cell? ⟨B + 3, 0, none⟩ = some (.int .i64 (G2.length : Int)) ∧ W.frozen? ⟨B + 3, 0, none⟩ = false ∧ W.cell? ⟨B + 1, 0, none⟩ = some (.int .i64 mo) := by
        obtain ⟨⟨vl, hb, _⟩, _, _, _⟩ := HI.out
        exact ⟨hb.k.facts.1, (show Boxed _ (B + 3) 3 (.int .i64 (G2.length : Int)) from hb.k).frozen, hb.m.facts.1⟩
      gi_upto_region 24 with fail
      gi_cut [102] from 49 (fun s wx => s = .bool false ∧ wx = W)
      case first =>
        rw [HX.out] at k0
        cases sm with
        | false =>
          have hl0 : nk = 0 := HX.out.symm.trans (HL2.out.1 rfl)
          rw [hl0] at k0
          have k0 : W.cell? ⟨B + 3, 0, none⟩ = some (.int .i64 0) := k0
          clear hl0
          gi_wp2_with fail
          gi_meet
          exact ⟨rfl, rfl⟩
        | true =>
          have hl0 : (nk : Int) = cn := by have := HL2.out.2 rfl; rw [HX.out] at this; exact this
          rw [hl0] at k0
          clear hl0
          gi_wp2_with fail
          gi_meet
          exact ⟨rfl, rfl⟩
      obtain ⟨rfl, hwc⟩ := hcut
      rw [hwc]
      clear hwc
      have HI' := hid (show RiI B d mo w w5 z2 G2 [u2.heap.size, w5.heap.size] G2.length W from ⟨HI.out.ex, fun p hp => by
        rcases List.mem_cons.1 hp with e | e
        · rw [e]; exact HDq.out
        · exact HI.out.dl p e, HI.out.kp, HI.out.sz⟩)
      have HDb := hid (show ∀ p, p ∈ [u2.heap.size, w5.heap.size] → B + 5 ≤ p from fun p hp => by
        rcases List.mem_cons.1 hp with e | e
        · rw [e]; exact HQq2.out.1
        · exact HQq2.out.2.2.2.2.2.2 p e)
      gi_wp2_with fail
      obtain ⟨u3, hu3⟩ : ∃ u, W.setCell ⟨B + 3, 0, none⟩ (.int .i64 0) = u := ⟨_, rfl⟩
      rw [hu3]
      refine ⟨trivial, (callsIn_wide.2 (HWh.out _ _ _)).mono ?_⟩
      rintro e wz ⟨rfl, hwz⟩
      replace hwz := hwz.symm
      subst hwz
      obtain ⟨z3, hzz⟩ : ∃ z, z = u3.heap.size + (c3 + 2) := ⟨_, rfl⟩
      have HZ3 := hid hzz
      have HI3 := hid (show RiI B d mo w w5 z3 G3 [u2.heap.size, w5.heap.size] 0 u3 by rw [← hu3]; exact HI'.out.zero HDb.out)
      have hsz3 : w5.heap.size ≤ u3.heap.size := HI3.out.sz
      have HQq3 := hid (show B + 5 ≤ u3.heap.size ∧ w5.heap.size ≤ u3.heap.size ∧ (∀ p, p ∈ [u2.heap.size, w5.heap.size] → p < u3.heap.size) ∧ w4.heap.size ≤ u3.heap.size ∧ B + 5 ≤ w3.heap.size ∧ B + 5 ≤ z3 ∧ (∀ p, p ∈ [u2.heap.size, w5.heap.size] → B + 5 ≤ p) from ⟨by omega, hsz3, (fun p hp => (Array.getElem?_eq_some_iff.1 (HI3.out.dl p hp)).1), by omega, by omega, by omega, HDb.out⟩)
      have HKp3 := hid (show KpL w3.heap.size w4.heap.size w4 u3 from fun g h1 h2 => (HI3.out.kp g (by omega) (by omega)).trans (HK3.out g h1 h2))
      have HBz3 := hid (show w4.heap.size ≤ u3.heap.size by omega)
      clear hzz hu3 HI HI' HDq HDb HX kf k0 m0
      gi_wp2_with fail
      refine range_r3 (q := 20) (w0 := w4) (gf := g3) (lb := l3) (c := c3) (Lo := w3.heap.size) (B0 := w4.heap.size) (n := G3.length) (D := LzD G3) rfl HS3.out.eg HS3.out.sq (HKp3.out) (HBz3.out) (fun k W => RiI B d mo w w5 z3 G3 [u2.heap.size, w5.heap.size] k W) (fun _ _ => False) ?_ ?_ ?_ ?_ ?_ ?_ ?_
      · skip
        intro k A A' hI hc
        exact hI.chg hc HQq3.out.1 HQq3.out.2.1 (Nat.le_of_eq HZ3.out.symm) HQq3.out.2.2.1
      · skip
        intro k A A' hI _
        exact hI
      · exact HI3.out
      · skip
        intro l x W K' hK'
        have HKK := hid hK'
        clear hK'
        gi_wp2
        exact HKK.out
      · skip
        rintro l k x A W1' W hI hk hAW hD hc hz hs
        obtain ⟨vl, hN⟩ := hI.enter hAW hD hc hz hs HZ3.out HQq3.out.1 HQq3.out.2.1 HQq3.out.2.2.1 w3.heap.size w4.heap.size
        have HN := hid hN
        have HEn := hid (fun W' (h : RiN B d mo w w5 z3 G3 [u2.heap.size, w5.heap.size] w3.heap.size w4.heap.size u3.heap.size (c3 + 2) W k x vl W') => h.end HQq3.out.2.2.2.1 HQq3.out.2.2.2.2.1 HQq3.out.1 HQq3.out.2.2.2.2.2.1 HQq3.out.2.2.2.2.2.2)
        have HKl := hid hk
        have hk2 : (k : Int) ≤ 1048576 := by have := HGl3.out; omega
        have hk3 : 0 ≤ (k : Int) := by omega
        obtain ⟨⟨k0, l0, f0, d0, m0⟩, k1, f1⟩ := hN.cells
        obtain ⟨a0, n0, hx0⟩ := hN.x.1.len0
        obtain ⟨X, hX⟩ : ∃ X, G3.getD k [] = X := ⟨_, rfl⟩
        rw [hX] at hx0
        obtain ⟨nX, hnX⟩ : ∃ nX, X.length = nX := ⟨_, rfl⟩
        rw [hnX] at hx0
        have HX := hid (And.intro hX hnX)
        clear hI hAW hD hc hz hs hN hX hnX
        simp only [List.setIfInBounds_toArray, List.set_cons_succ, List.set_cons_zero]
        subst hx0
        obtain ⟨sw, hsw, hms⟩ : ∃ sw : Int, Calls Try.prog 18 #[.slice a0 nX n0] W (fun e w' => e = .returned (.tuple #[.int .i64 sw, .int .i64 0]) ∧ Below W.heap.size W w') ∧ ¬ mo < sw := by
          obtain ⟨y, hy, y1, y2, y3⟩ := HFmo.out.each k HKl.out
          refine ⟨((cS y y.length : Nat) : Int), ?_, by omega⟩
          refine (switchesA_any _ _ W HN.out.x.1 (HGn3.out _)).mono fun e w' he => ⟨?_, he.2⟩
          have h1 := he.1
          rw [hy] at h1
          exact swA_mix y1 y2 h1
        have HSw := hid hsw
        clear hsw
        gi_wp2_with fail
        refine ⟨trivial, ((callsIn_wide.2 HSw.out).inRound l).mono ?_⟩
        rintro e w7 ⟨rfl, hb7⟩
        have HN7 := hid (HN.out.later hb7 HQq3.out.2.2.2.1)
        clear hb7 HSw HN k0 l0 f0 d0 m0 k1 f1
        obtain ⟨⟨k0, l0, f0, d0, m0⟩, k1, f1⟩ := HN7.out.cells
        by_cases hgo : 0 < k
        · have hI : (0 : Int) < (k : Int) := by omega
          have hk' : k - 1 + 1 = k := by omega
          have hbl : bl (G3.getD (k - 1) []) (G3.getD k []) = true := by
            have := HGr3.out.next (k - 1) (by have := HKl.out; omega)
            rwa [hk'] at this
          have HBe := hid (below_any vl (.slice a0 nX n0) _ _ w7 (HN7.out.l hgo).1 HN7.out.x.1 (HGn3.out _) (HGn3.out _))
          rw [hbl] at HBe
          clear hk' hbl
          gi_wp2_with fail
          refine ⟨trivial, ((callsIn_wide.2 HBe.out).inRound l).mono ?_⟩
          rintro e w6 ⟨rfl, hb6⟩
          have HN6 := hid (HN7.out.later hb6 HQq3.out.2.2.2.1)
          clear hb6 HBe k0 l0 f0 d0 m0 k1 f1
          obtain ⟨⟨k0, l0, f0, d0, m0⟩, k1, f1⟩ := HN6.out.cells
          have HE6 := hid (HEn.out _ HN6.out)
          clear HEn HN7 HN6
          gi_wp2
          exact .inl ⟨rfl, HE6.out.1, HE6.out.2⟩
        · have hI : ¬ (0 : Int) < (k : Int) := by omega
          have HE6 := hid (HEn.out _ HN7.out)
          clear HEn
          gi_wp2_with fail
          refine ⟨trivial, ?_⟩
          gi_wp2
          exact .inl ⟨rfl, HE6.out.1, HE6.out.2⟩
      · skip
        intro W hI hdq
        have HI := hid hI
        have HDq := hid hdq
        clear hI hdq
        obtain ⟨nk, hnk⟩ : ∃ nk, G3.length = nk := ⟨_, rfl⟩
        have HX := hid hnk
        clear hnk
        obtain ⟨k0, kf, m0⟩ : W.cell? ⟨B + 3, 0, none⟩ = some (.int .i64 (G3.length : Int)) ∧ W.frozen? ⟨B + 3, 0, none⟩ = false ∧ W.cell? ⟨B + 1, 0, none⟩ = some (.int .i64 mo) := by
          obtain ⟨⟨vl, hb, _⟩, _, _, _⟩ := HI.out
          exact ⟨hb.k.facts.1, (show Boxed _ (B + 3) 3 (.int .i64 (G3.length : Int)) from hb.k).frozen, hb.m.facts.1⟩
        gi_upto_region 34 with fail
        gi_cut [147] from 49 (fun s wx => s = .bool false ∧ wx = W)
        case first =>
          rw [HX.out] at k0
          by_cases hm : mo < 0
          · have hm2 : ¬ 0 ≤ mo := by omega
            have hl0 : nk = 0 := HX.out.symm.trans (HL3.out.1 hm)
            rw [hl0] at k0
            have k0 : W.cell? ⟨B + 3, 0, none⟩ = some (.int .i64 0) := k0
            clear hl0
            gi_wp2_with fail
            gi_meet
            exact ⟨rfl, rfl⟩
          · have hm2 : 0 ≤ mo := by omega
            cases sm with
            | false =>
              gi_wp2_with fail
              gi_meet
              exact ⟨rfl, rfl⟩
            | true =>
              have hl0 : 0 < nk := by have := HL3.out.2 rfl hm2; rw [HX.out] at this; exact this
              have hl1 : ¬ (nk : Int) = 0 := by omega
              have hl2 : ((nk : Int) == 0) = false := by simpa using hl1
              have hl3 : ¬ nk = 0 := by omega
              gi_wp2_with fail
              gi_meet
              exact ⟨rfl, rfl⟩
        obtain ⟨rfl, hwc⟩ := hcut
        rw [hwc]
        clear hwc
        have HI' := hid (show RiI B d mo w w5 z3 G3 [u3.heap.size, u2.heap.size, w5.heap.size] G3.length W from ⟨HI.out.ex, fun p hp => by
          rcases List.mem_cons.1 hp with e | e
          · rw [e]; exact HDq.out
          · exact HI.out.dl p e, HI.out.kp, HI.out.sz⟩)
        have HDb := hid (show ∀ p, p ∈ [u3.heap.size, u2.heap.size, w5.heap.size] → B + 5 ≤ p from fun p hp => by
          rcases List.mem_cons.1 hp with e | e
          · rw [e]; exact HQq3.out.1
          · exact HQq3.out.2.2.2.2.2.2 p e)
        gi_wp2_with fail
        obtain ⟨u4, hu4⟩ : ∃ u, W.setCell ⟨B + 3, 0, none⟩ (.int .i64 0) = u := ⟨_, rfl⟩
        rw [hu4]
        refine ⟨trivial, (callsIn_wide.2 (HWh.out _ _ _)).mono ?_⟩
        rintro e wz ⟨rfl, hwz⟩
        replace hwz := hwz.symm
        subst hwz
        obtain ⟨z4, hzz⟩ : ∃ z, z = u4.heap.size + (c4 + 2) := ⟨_, rfl⟩
        have HZ4 := hid hzz
        have HI4 := hid (show RiI B d mo w w5 z4 G4 [u3.heap.size, u2.heap.size, w5.heap.size] 0 u4 by rw [← hu4]; exact HI'.out.zero HDb.out)
        have hsz4 : w5.heap.size ≤ u4.heap.size := HI4.out.sz
        have HQq4 := hid (show B + 5 ≤ u4.heap.size ∧ w5.heap.size ≤ u4.heap.size ∧ (∀ p, p ∈ [u3.heap.size, u2.heap.size, w5.heap.size] → p < u4.heap.size) ∧ w5.heap.size ≤ u4.heap.size ∧ B + 5 ≤ w4.heap.size ∧ B + 5 ≤ z4 ∧ (∀ p, p ∈ [u3.heap.size, u2.heap.size, w5.heap.size] → B + 5 ≤ p) from ⟨by omega, hsz4, (fun p hp => (Array.getElem?_eq_some_iff.1 (HI4.out.dl p hp)).1), by omega, by omega, by omega, HDb.out⟩)
        have HKp4 := hid (show KpL w4.heap.size w5.heap.size w5 u4 from fun g h1 h2 => (HI4.out.kp g (by omega) (by omega)).trans (HK4.out g h1 h2))
        have HBz4 := hid (show w5.heap.size ≤ u4.heap.size by omega)
        clear hzz hu4 HI HI' HDq HDb HX kf k0 m0
        gi_wp2_with fail
        refine range_r3 (q := 23) (w0 := w5) (gf := g4) (lb := l4) (c := c4) (Lo := w4.heap.size) (B0 := w5.heap.size) (n := G4.length) (D := LzD G4) rfl HS4.out.eg HS4.out.sq (HKp4.out) (HBz4.out) (fun k W => RiI B d mo w w5 z4 G4 [u3.heap.size, u2.heap.size, w5.heap.size] k W) (fun _ _ => False) ?_ ?_ ?_ ?_ ?_ ?_ ?_
        · skip
          intro k A A' hI hc
          exact hI.chg hc HQq4.out.1 HQq4.out.2.1 (Nat.le_of_eq HZ4.out.symm) HQq4.out.2.2.1
        · skip
          intro k A A' hI _
          exact hI
        · exact HI4.out
        · skip
          intro l x W K' hK'
          have HKK := hid hK'
          clear hK'
          gi_wp2
          exact HKK.out
        · skip
          rintro l k x A W1' W hI hk hAW hD hc hz hs
          obtain ⟨vl, hN⟩ := hI.enter hAW hD hc hz hs HZ4.out HQq4.out.1 HQq4.out.2.1 HQq4.out.2.2.1 w4.heap.size w5.heap.size
          have HN := hid hN
          have HEn := hid (fun W' (h : RiN B d mo w w5 z4 G4 [u3.heap.size, u2.heap.size, w5.heap.size] w4.heap.size w5.heap.size u4.heap.size (c4 + 2) W k x vl W') => h.end HQq4.out.2.2.2.1 HQq4.out.2.2.2.2.1 HQq4.out.1 HQq4.out.2.2.2.2.2.1 HQq4.out.2.2.2.2.2.2)
          have HKl := hid hk
          have hk2 : (k : Int) ≤ 1048576 := by have := HGl4.out; omega
          have hk3 : 0 ≤ (k : Int) := by omega
          obtain ⟨⟨k0, l0, f0, d0, m0⟩, k1, f1⟩ := hN.cells
          obtain ⟨a0, n0, hx0⟩ := hN.x.1.len0
          obtain ⟨X, hX⟩ : ∃ X, G4.getD k [] = X := ⟨_, rfl⟩
          rw [hX] at hx0
          obtain ⟨nX, hnX⟩ : ∃ nX, X.length = nX := ⟨_, rfl⟩
          rw [hnX] at hx0
          have HX := hid (And.intro hX hnX)
          clear hI hAW hD hc hz hs hN hX hnX
          simp only [List.setIfInBounds_toArray, List.set_cons_succ, List.set_cons_zero]
          subst hx0
          have hlen : (nX : Int) = d := by
            have := HA4.out.each k HKl.out
            rw [HX.out.1, HX.out.2] at this
            exact this
          by_cases hgo : 0 < k
          · have hI : (0 : Int) < (k : Int) := by omega
            have hk' : k - 1 + 1 = k := by omega
            have hbl : bl (G4.getD (k - 1) []) (G4.getD k []) = true := by
              have := HGr4.out.next (k - 1) (by have := HKl.out; omega)
              rwa [hk'] at this
            have HBe := hid (below_any vl (.slice a0 nX n0) _ _ W (HN.out.l hgo).1 HN.out.x.1 (HGn4.out _) (HGn4.out _))
            rw [hbl] at HBe
            clear hk' hbl
            gi_wp2_with fail
            refine ⟨trivial, ((callsIn_wide.2 HBe.out).inRound l).mono ?_⟩
            rintro e w6 ⟨rfl, hb6⟩
            have HN6 := hid (HN.out.later hb6 HQq4.out.2.2.2.1)
            clear hb6 HBe k0 l0 f0 d0 m0 k1 f1
            obtain ⟨⟨k0, l0, f0, d0, m0⟩, k1, f1⟩ := HN6.out.cells
            have HE6 := hid (HEn.out _ HN6.out)
            clear HEn HN HN6
            gi_wp2
            exact .inl ⟨rfl, HE6.out.1, HE6.out.2⟩
          · have hI : ¬ (0 : Int) < (k : Int) := by omega
            have HE6 := hid (HEn.out _ HN.out)
            clear HEn
            gi_wp2_with fail
            refine ⟨trivial, ?_⟩
            gi_wp2
            exact .inl ⟨rfl, HE6.out.1, HE6.out.2⟩
        · skip
          intro W hI hdq
          have HI := hid hI
          have HDq := hid hdq
          clear hI hdq
          obtain ⟨nk, hnk⟩ : ∃ nk, G4.length = nk := ⟨_, rfl⟩
          have HX := hid hnk
          obtain ⟨vl, hb, _⟩ := HI.out.ex
          have k0 : W.cell? ⟨B + 3, 0, none⟩ = some (.int .i64 (nk : Int)) := hnk ▸ hb.k.facts.1
          have d0 := hb.d.facts.1
          have r1 := hb.r.cell
          have r2 := hb.r.frozen
          have HRb := hid hb
          obtain ⟨M, hM, hM1, hM2⟩ : ∃ M : Nat, max 1 (min h 16) = (M : Int) ∧ 1 ≤ M ∧ M ≤ 16 := ⟨(max 1 (min h 16)).toNat, by omega, by omega, by omega⟩
          have HM := hid hM
          clear hb hnk hM
          gi_upto_region 43 with fail
          gi_wp2_with fail
          gi_loopw [24, 25] (fun s24 s25 wx => ∃ (i a : Nat), s24 = .int .i64 (a : Int) ∧ s25 = .int .i64 (i : Int) ∧ Hid (a = M ^ i) ∧ a ≤ 16777216 ∧ 1 ≤ a ∧ i ≤ 25 ∧ Hid ((i : Int) ≤ d ∨ i = 0) ∧ wx = W) (fun _ s25 _ => 25 - (intOf s25).toNat)
          case atStart => exact ⟨0, 1, rfl, rfl, hid rfl, by omega, by omega, by omega, hid (.inr rfl), rfl⟩
          case round =>
            obtain ⟨i, a, e24, e25, HA, ha, ha1, hi, HId, ewr⟩ := hrel
            subst e24 e25 ewr
            by_cases hgo : (i : Int) < d ∧ i ≤ 24 ∧ a ≤ 1048576
            · obtain ⟨q1, q2, q3⟩ := hgo
              have q2I : (i : Int) ≤ 24 := by omega
              have q3I : (a : Int) ≤ 1048576 := by omega
              gi_wp2
              have hm : (a : Int) * max 1 (min h 16) = ((a * M : Nat) : Int) := by rw [HM.out, Int.natCast_mul]
              have hb16 : a * M ≤ 16777216 := Nat.le_trans (Nat.mul_le_mul q3 hM2) (by decide)
              have hb1 : 1 ≤ a * M := Nat.mul_pos ha1 hM1
              have hpw : a * M = M ^ (i + 1) := by rw [Nat.pow_succ, ← HA.out]
              rw [hm]
              generalize a * M = b at *
              refine ⟨⟨i + 1, b, ?_, ?_, hid hpw, hb16, hb1, by omega, hid (.inl (by omega)), trivial⟩, ?_⟩
              · rw [show wrap64 (b : Int) = (b : Int) by unfold wrap64; omega]
              · rw [Int.natCast_add]; rfl
              · simp [intOf]; omega
            · have HDq2 := hid (show wr.heap[u2.heap.size]? = some (.deferred (some [])) ∧ wr.heap[u3.heap.size]? = some (.deferred (some [])) ∧ wr.heap[w5.heap.size]? = some (.deferred (some [])) from ⟨HI.out.dl _ (by simp), HI.out.dl _ (by simp), HI.out.dl _ (by simp)⟩)
              have o1 : w5.heap.size < u2.heap.size := HQq2.out.2.2.1 _ (by simp)
              have o2 : u2.heap.size < u3.heap.size := HQq3.out.2.2.1 _ (by simp)
              have o3 : u3.heap.size < u4.heap.size := HQq4.out.2.2.1 _ (by simp)
              have o0 : B + 5 ≤ w5.heap.size := HQq1.out.1
              have rS := (HRb.out.r.set (.bool true))
              have kS : ∀ p, B + 5 ≤ p → wr.heap[p]? = some (.deferred (some [])) → (wr.setCell ⟨B + 2, 0, none⟩ (.bool true)).heap[p]? = some (.deferred (some [])) := fun p hp hk => (hp_o (Array.getElem?_eq_some_iff.1 hk).1 (by omega) _).trans hk
              obtain ⟨wF, hwF⟩ : ∃ wF, wr.setCell ⟨B + 2, 0, none⟩ (.bool true) = wF := ⟨_, rfl⟩
              have K1 := kS _ (by omega) HDq.out
              have hF : Below B w wF := by rw [← hwF]; exact HRb.out.be.setCell (p := ⟨B + 2, 0, none⟩) (by show B ≤ B + 2; omega) _
              rw [hwF] at K1 rS
              obtain ⟨K2, K3, K4, hFb⟩ := four_k o3 o2 o1 K1 (hwF ▸ kS _ (by omega) HDq2.out.2.1) (hwF ▸ kS _ (by omega) HDq2.out.1) (hwF ▸ kS _ (by omega) HDq2.out.2.2)
              have HKs := hid (And.intro K1 (And.intro K2 (And.intro K3 K4)))
              have HEnd := hid (And.intro ((hFb.block (B + 2) (by omega)).trans rS) (hF.trans (hFb.mono (by omega))))
              have HwF := hid hwF
              clear K1 K2 K3 K4 kS rS hF hFb hwF
              have hex : (¬ (i : Int) < d) ∨ ((i : Int) < d ∧ ¬ (i : Int) ≤ 24) ∨ ((i : Int) < d ∧ (i : Int) ≤ 24 ∧ ¬ (a : Int) ≤ 1048576) := by omega
              by_cases hbad : h < 1 ∨ 16 < h ∨ d < 0 ∨ 24 < d ∨ 1048576 < (a : Int)
              · have hn0 : nk = 0 := HX.out.symm.trans (want_bad HA4.out HM.out HA.out HId.out hbad)
                rw [hn0] at k0
                have k0 : wr.cell? ⟨B + 3, 0, none⟩ = some (.int .i64 0) := k0
                have hbad2 : h < 1 ∨ (¬ h < 1 ∧ 16 < h) ∨ (¬ h < 1 ∧ ¬ 16 < h ∧ d < 0) ∨ (¬ h < 1 ∧ ¬ 16 < h ∧ ¬ d < 0 ∧ 24 < d) ∨ (¬ h < 1 ∧ ¬ 16 < h ∧ ¬ d < 0 ∧ ¬ 24 < d ∧ 1048576 < (a : Int)) := by omega
                clear hbad hgo hn0
                rcases hex with x1 | ⟨x1, x2⟩ | ⟨x1, x2, x3⟩
                all_goals
                  rcases hbad2 with y1 | ⟨y1, y2⟩ | ⟨y1, y2, y3⟩ | ⟨y1, y2, y3, y4⟩ | ⟨y1, y2, y3, y4, y5⟩
                  all_goals first
                    | (exfalso; omega)
                    | (gi_wp2
                       rw [HwF.out]
                       refine ⟨by simp, .inl ⟨_, _, rfl, run_takeDeferred HKs.out.1, ?_⟩⟩
                       refine ⟨by simp, .inl ⟨_, _, rfl, run_takeDeferred HKs.out.2.1, ?_⟩⟩
                       refine ⟨by simp, .inl ⟨_, _, rfl, run_takeDeferred HKs.out.2.2.1, ?_⟩⟩
                       refine ⟨by simp, .inl ⟨_, _, rfl, run_takeDeferred HKs.out.2.2.2, ?_⟩⟩
                       exact ⟨_, results_cellR rfl _ _ (B + 2) true rfl (show Boxed _ (B + 2) 4 (.bool true) from HEnd.out.1).cell, rfl, hB ▸ HEnd.out.2⟩)
              · have hn0 : nk = a := HX.out.symm.trans (want_good HA4.out HM.out HA.out HId.out hbad hgo)
                rw [hn0] at k0
                have x1 : ¬ (i : Int) < d := by omega
                obtain ⟨y1, y2, y3, y4, y5⟩ : ¬ h < 1 ∧ ¬ 16 < h ∧ ¬ d < 0 ∧ ¬ 24 < d ∧ ¬ 1048576 < (a : Int) := by omega
                clear hbad hgo hn0 hex
                gi_wp2
                rw [HwF.out]
                refine ⟨by simp, .inl ⟨_, _, rfl, run_takeDeferred HKs.out.1, ?_⟩⟩
                refine ⟨by simp, .inl ⟨_, _, rfl, run_takeDeferred HKs.out.2.1, ?_⟩⟩
                refine ⟨by simp, .inl ⟨_, _, rfl, run_takeDeferred HKs.out.2.2.1, ?_⟩⟩
                refine ⟨by simp, .inl ⟨_, _, rfl, run_takeDeferred HKs.out.2.2.2, ?_⟩⟩
                exact ⟨_, results_cellR rfl _ _ (B + 2) true rfl (show Boxed _ (B + 2) 4 (.bool true) from HEnd.out.1).cell, rfl, hB ▸ HEnd.out.2⟩
        · skip
          intro k W h
          exact h.elim
      · skip
        intro k W h
        exact h.elim
    · skip
      intro k W h
      exact h.elim
  · skip
    intro k W h
    exact h.elim
end Go.Proofs.Ytaiccmbhdgecgaa
