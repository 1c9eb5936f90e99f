/-
  SchedSmall: the law's walk.
-/
import Derived.Test.YtaiccmbhdgecgaaGw9
import Derived.Test.YtaiccmbhdgecgaaNt4
import Derived.Test.YtaiccmbhdgecgaaSr2
import Derived.Test.YtaiccmbhdgecgaaRgR
namespace Go.Proofs.Ytaiccmbhdgecgaa
open Go.RowKit Go.Shelf
set_option maxRecDepth 100000
set_option linter.unusedVariables false
set_option linter.unusedSimpArgs false
attribute [local go_sem] Oper.semAt_some
attribute [local go_sem ↓] apN_op mki_op

theorem seq_not (fn : Fn) (fi ca : Array Value) (w : World) : (binOp .eql 32 (.func fn fi ca) .nilFunc).run Try.prog w = .ok (.bool false) w := eql_func_nil w Try.underlying32 fn fi ca
theorem results_cellS {fn : Func} {p : Tmp} (h : fn.results = #[.cell p 4]) (tmps : Array Value) (w : World) (g : Nat) (b : Bool) (hp : tmps.getD p undef = .pointer (some ⟨g, 0, none⟩)) (hc : w.cell? ⟨g, 0, none⟩ = some (.bool b)) : (results fn tmps).run Try.prog w = .ok (.bool b) w := by
  have hp' : tmps[p]?.getD undef = .pointer (some ⟨g, 0, none⟩) := by simpa using hp
  simp [results, h, hp', asAddr, go_sem, hc]
/-- append of one int, run -/
theorem run_appO {w : World} {base : Nat} {v : Value} {L : List Int} (ho : OI w base v L) (x : Int) (hl : L.length ≤ 1000000) (hb : base ≤ w.heap.size) :
    ∃ v' w', (apN #[v, .slice (some ⟨w.heap.size, 0, none⟩) 1 1]).run Try.prog (w.alloc (.cells #[.int .i64 x] 3)) = .ok v' w' ∧ OI w' base v' (L ++ [x]) ∧ (w.alloc (.cells #[.int .i64 x] 3)).grownBy w' v.ownBlock := by
  obtain ⟨i, hi, hz, hsz, hby⟩ := info_parts intinfo
  obtain ⟨v', w', hr, h1, h2, _⟩ := run_append_own (P := Try.prog) (w.alloc (.cells #[.int .i64 x] 3)) base 22 22 3 i (.int .i64 0) 1 8 Try.underlying22 hi hz hsz hby rfl (by decide) v L.length (ic L) (ho.alloc _) ⟨w.heap.size, 0, none⟩ 1 1 [.int .i64 x] rfl (fun j u hu => by
    match j, hu with
    | 0, hu =>
      injection hu with hu
      subst hu
      rw [Addr.add_lit]
      exact Lib.cell_of_heap (heap_alloc_new w _) 0
    | j + 1, hu => cases hu) (fun u hu => by rw [List.mem_singleton.1 hu]; rfl) (by unfold maxLen; omega) (by omega) (by simp; omega)
  refine ⟨v', w', hr, ?_, h2⟩
  unfold OI
  rw [ic_app, List.length_append]
  exact h1
/-- the law's boxes: the pairs, the result, few -/
structure SmB (B : Nat) (w : World) (vp : Value) (wx : World) (vf : Value) (F : List Int) : Prop where
  p : Boxed wx B 38 vp
  r : Boxed wx (B + 1) 4 (.bool false)
  f : Boxed wx (B + 2) 22 vf
  o : OI wx (B + 3) vf F
  be : Below B w wx
  sz : B + 3 ≤ wx.heap.size
theorem SmB.app {B : Nat} {w : World} {vp : Value} {wx w7 : World} {vf v' : Value} {F : List Int} {x : Int} (h : SmB B w vp wx vf F) (o : Obj) (ho : OI w7 (B + 3) v' (F ++ [x])) (hg : (wx.alloc o).grownBy w7 vf.ownBlock) : SmB B w vp (w7.setCell ⟨B + 2, 0, none⟩ v') v' (F ++ [x]) ∧ w7.cell? ⟨B + 2, 0, none⟩ = some vf ∧ w7.frozen? ⟨B + 2, 0, none⟩ = false := by
  have hz := h.sz
  have hzg : wx.heap.size + 1 ≤ w7.heap.size := by have := hg.size; simpa using this
  have old : ∀ g, g < B + 3 → w7.heap[g]? = wx.heap[g]? := fun g hlt => (hg.block g (by simp; omega) (fun e => by have := (h.o.own_lt g e.symm).1; omega)).trans (Lib.alloc_old wx o g (by omega))
  have hf7 : Boxed w7 (B + 2) 22 vf := (old _ (by omega)).trans h.f
  have gb := gb_set w7 (B + 2) 0 v'
  have old2 : ∀ g, g < B + 2 → (w7.setCell ⟨B + 2, 0, none⟩ v').heap[g]? = wx.heap[g]? := fun g hlt => (gb.block g (by omega) (fun e => by injection e with e; omega)).trans (old g (by omega))
  refine ⟨⟨(old2 _ (by omega)).trans h.p, (old2 _ (by omega)).trans h.r, hf7.set v', ho.stay (fun g hg' => gb.block g (ho.own_lt g hg').2 (fun e => by injection e with e; have := (ho.own_lt g hg').1; omega)), ?_, by simp; omega⟩, hf7.cell, hf7.frozen⟩
  have hal := alloc_below wx o
  exact h.be.trans ⟨by show w7.os = _; rw [hg.os, hal.os], by show w7.tape = _; rw [hg.tape, hal.tape], by show w7.output = _; rw [hg.output, hal.output], by simp; omega, fun k hk => old2 k (by omega)⟩
theorem SmB.later {B : Nat} {w : World} {vp : Value} {wx wy : World} {vf : Value} {F : List Int} (h : SmB B w vp wx vf F) (hb : Below wx.heap.size wx wy) : SmB B w vp wy vf F :=
  ⟨(hb.block _ h.p.lt).trans h.p, (hb.block _ h.r.lt).trans h.r, (hb.block _ h.f.lt).trans h.f, h.o.below hb, h.be.trans (hb.mono (by have := h.sz; omega)), Nat.le_trans h.sz hb.size⟩
theorem SmB.alloc {B : Nat} {w : World} {vp : Value} {wx : World} {vf : Value} {F : List Int} (h : SmB B w vp wx vf F) (o : Obj) : SmB B w vp (wx.alloc o) vf F := h.later (alloc_below wx o)
set_option maxHeartbeats 20000000 in
theorem small_law (v vp : Value) (R : List Int) (P : List Pr) (w : World) (hr : RI w v R) (hp : PL w vp P) (hl : R.length * 8 ≤ reachBytes) (hl2 : P.length * 16 ≤ reachBytes) :
    Calls Try.prog 5 #[v, vp] w fun e w' => e = .returned (.bool true) ∧ Below w.heap.size w w' := by
  have hrb : reachBytes = 140737488351232 := rfl
  have HR := hid hr
  have HP := hid hp
  obtain ⟨ao, cap, hv⟩ := hr.len0
  subst hv
  obtain ⟨apo, apc, hvp, _⟩ := hp
  subst hvp
  have hRl : (R.length : Int) ≤ 17592186043904 := by omega
  obtain ⟨W0, hW0⟩ : ∃ W0, ((w.alloc (.cells #[.slice apo P.length apc] 38)).alloc (.cells #[.bool false] 4)).alloc (.cells #[.slice none 0 0] 22) = W0 := ⟨_, rfl⟩
  obtain ⟨B, hB⟩ : ∃ B, w.heap.size = B := ⟨_, rfl⟩
  have HS0 := hid (show SmB B w (.slice apo P.length apc) W0 (.slice none 0 0) [] by
    rw [← hW0]
    refine ⟨((bx_a w B hB _ _).alloc _).alloc _, (bx_a _ _ (by simp; omega) _ _).alloc _, bx_a _ _ (by simp; omega) _ _, OI.nil _ _, ?_, by simp; omega⟩
    exact (((Below.refl _ _).alloc (by omega) _).alloc (by simp; omega) _).alloc (by simp; omega) _)
  clear hr
  refine (callsIn_wide (n := 5)).1 ?_
  refine callsIn_of_wp_marks Try.func5 rfl trivial ?_ rfl
  simp only [Try.ntmps5, List.size_toArray, List.length_cons, List.length_nil, Nat.reduceAdd, Nat.reduceSub, Array.replicate_succ, Array.replicate_zero, List.push_toArray, List.append_toArray, List.nil_append, List.cons_append]
  gi_wp2_with fail
  try rw [hW0]
  try rw [hB]
  try simp only [Nat.add_assoc, Nat.reduceAdd]
  gi_loopw [6] (fun vi wx => ∃ (i : Nat) (vf : Value), i ≤ R.length ∧ i ≤ 6 ∧ vi = .int .i64 (i : Int) ∧ SmB B w (.slice apo P.length apc) wx vf (R.take i)) (fun vi _ => 6 - (intOf vi).toNat)
  case atStart => exact ⟨0, _, Nat.zero_le _, by omega, rfl, HS0.out⟩
  case round =>
    obtain ⟨i, vf, hi, hi6, rfl, hs⟩ := hrel
    have HS := hid hs
    clear hs HS0
    by_cases hgo : i < R.length ∧ i < 6
    · obtain ⟨g1, g2⟩ := hgo
      have g1I : (i : Int) < (R.length : Int) := by omega
      have g2I : (i : Int) < 6 := by omega
      obtain ⟨_, _, hvs, _, _, hcell⟩ := (show RI wr (.slice ao R.length cap) R from HR.out.below (hB ▸ HS.out.be))
      obtain ⟨g, off, hao, c0⟩ := hcell i g1
      injection hvs with e1 e2 e3
      subst e1 e3 hao
      have f0 := HS.out.f.cell
      have HT := hid (show R.take (i + 1) = R.take i ++ [R[i]] by rw [List.take_add_one, List.getElem?_eq_getElem g1]; rfl)
      obtain ⟨v', w7, hap, ho7, hg7⟩ := run_appO (w := wr.drew) HS.out.o R[i] (by rw [List.length_take]; omega) (by have := HS.out.sz; show B + 3 ≤ wr.heap.size; omega)
      generalize R[i] = x at *
      obtain ⟨s1, s2, s3⟩ := HS.out.app (.cells #[.int .i64 x] 3) ho7 (show (wr.alloc (.cells #[.int .i64 x] 3)).grownBy w7 vf.ownBlock from ⟨hg7.os, hg7.tape, hg7.output, hg7.size, hg7.block⟩)
      have HS7 := hid s1
      obtain ⟨ao8, c8, hv8⟩ := ho7.reads.len0
      obtain ⟨ao9, c9, hv9⟩ := HS.out.o.reads.len0
      subst hv8 hv9
      clear hcell ho7 hg7 s1 e2
      replace hap : (apN #[.slice ao9 (R.take i).length c9, .slice (some ⟨wr.heap.size, 0, none⟩) 1 1]).run Try.prog ((wr.alloc (.cells #[.int .i64 x] 3)).drew) = .ok (.slice ao8 (R.take i ++ [x]).length c8) w7 := hap
      have f1 : ((wr.alloc (.cells #[.int .i64 x] 3)).drew).cell? ⟨B + 2, 0, none⟩ = some (.slice ao9 (R.take i).length c9) := (HS.out.f.alloc _).cell
      have hti : (R.take i).length = i := by rw [List.length_take]; omega
      have hti2 : (R.take i ++ [x]).length = i + 1 := by rw [List.length_append, hti]; rfl
      rw [hti] at hap f0 f1 s2
      rw [hti2] at hap HS7
      clear hti hti2
      have hiw : IntKind.i64.wrap (i : Int) = (i : Int) := by rw [IntKind.wrap_i64]; omega
      have hi0 : (0 : Int) ≤ (i : Int) := by omega
      gi_wp2_with fail
      gi_region
      all_goals
        gi_wp2
        go_roundw
        case rel => exact ⟨i + 1, _, by omega, by omega, by go_num, by rw [HT.out]; exact HS7.out⟩
        case measure => simp [intOf]; omega
    · obtain ⟨F, hF⟩ : ∃ F, R.take i = F := ⟨_, rfl⟩
      have hFl : F.length = i := by rw [← hF, List.length_take]; omega
      have HSF := hid (show SmB B w (.slice apo P.length apc) wr vf F by rw [← hF]; exact HS.out)
      have HLe := hid (least_any vf (.slice apo P.length apc) F P wr HSF.out.o.reads (HP.out.below (hB ▸ HSF.out.be)) (by omega) (by omega))
      have f0 := HSF.out.f.cell
      have p0 := HSF.out.p.cell
      obtain ⟨ao9, c9, hv9⟩ := HSF.out.o.reads.len0
      subst hv9
      rw [hFl] at HLe HSF f0
      have hgo2 : ¬ (i : Int) < (R.length : Int) ∨ ((i : Int) < (R.length : Int) ∧ ¬ (i : Int) < 6) := by omega
      have h6 : i ≤ 6 := hi6
      clear hgo HS hF hi6
      have HLi := hid (fun W => lives_any W)
      rcases hgo2 with h1I | ⟨h1I, h2I⟩
      all_goals
        gi_wp2_with fail
        refine ⟨trivial, (callsIn_wide.2 HLe.out).mono ?_⟩
        rintro e w1 ⟨⟨va, rfl, hoa⟩, hb1⟩
        have HS1 := hid (HSF.out.later hb1)
        have HOa := hid hoa
        obtain ⟨aoa, ca, hva⟩ := hoa.reads.len0
        subst hva
        have hB1 := HS1.out.be
        clear hoa hb1 HLe f0 p0
        by_cases hE : leE F P = 0
        · obtain ⟨q1, _, q3, _⟩ := (leE_zero F P).1 hE
          obtain ⟨K, hK, hx⟩ := nat_list q3
          subst hK
          have hKl : K.length = i := by rw [← hFl, iN_len]
          obtain ⟨M, n, hsm⟩ := sml_ex K P hx (by omega) hE
          have HM := hid hsm
          rw [hsm.lst, hE]
          rw [hsm.lst] at HOa
          have hML : (iN M).length = i := by rw [← hsm.lst, leL_len hE, iN_len, hKl]
          rw [hML] at HOa
          rw [hML]
          obtain ⟨W2, hW2⟩ : ∃ W2, w1.alloc (.cells #[.slice aoa i ca] 22) = W2 := ⟨_, rfl⟩
          have hS2 := HS1.out.alloc (.cells #[.slice aoa i ca] 22)
          rw [hW2] at hS2
          have HS2 := hid hS2
          have HA2 := hid (show Boxed W2 w1.heap.size 22 (.slice aoa i ca) ∧ OI W2 B (.slice aoa i ca) (iN M) by rw [← hW2]; exact ⟨Boxed.new w1 _ _, (HOa.out.alloc _).mono (by have := HSF.out.sz; omega)⟩)
          have hm : ∀ w : World, (mkI (.int .i64 16) (.int .i64 16)).run Try.prog w = .ok (.slice (some ⟨w.heap.size, 0, none⟩) 16 16) (w.alloc (.cells (ic (List.replicate 16 0)).toArray 3)) := run_mkI 16 (by omega)
          obtain ⟨Z, hZ⟩ : ∃ Z, (ic (List.replicate 16 0)).toArray = Z := ⟨_, rfl⟩
          rw [hZ] at hm
          have HZ := hid hZ
          have HKl := hid hKl
          have HIn := hid hx
          have hb13 : B + 3 ≤ w1.heap.size := HS1.out.sz
          clear hS2 hE hsm hML hKl hx q1 q3 hZ hB1 HS1 HOa
          have hz2 : W2.heap.size = w1.heap.size + 1 := by rw [← hW2, World.size_alloc]
          gi_wp2_with fail
          obtain ⟨W3, hW3⟩ : ∃ W3, W2.alloc (.cells Z 3) = W3 := ⟨_, rfl⟩
          try rw [hW3]
          have HRo := hid (show RowI W3 W2.heap.size (cR K 0) ∧ Below W2.heap.size W2 W3 by rw [← hW3, ← HZ.out]; exact ⟨heap_alloc_new W2 _, alloc_below _ _⟩)
          clear hm hW3 HZ
          obtain ⟨g, hg1⟩ : ∃ g, w1.heap.size + 1 = g := ⟨_, rfl⟩
          have hg : W2.heap.size = g := hz2.trans hg1
          rw [hg] at HRo
          rw [hg1]
          clear hz2
          gi_loopw [10] (fun vj wx => ∃ j : Nat, j ≤ i ∧ vj = .int .i64 (j : Int) ∧ RowI wx g (cR K j) ∧ Below g W2 wx) (fun vj _ => i - (intOf vj).toNat)
          case atStart => exact ⟨0, Nat.zero_le _, rfl, HRo.out.1, HRo.out.2⟩
          case round =>
            obtain ⟨j, hj, rfl, hro, hbe⟩ := hrel
            have HRj := hid hro
            have HBj := hid hbe
            have HSj := hid (HS2.out.later (hg ▸ hbe))
            have f0 := HSj.out.f.cell
            clear hro hbe HRo
            by_cases h : j < i
            · have hI : (j : Int) < (i : Int) := by omega
              have hjK : j < K.length := by rw [HKl.out]; exact h
              obtain ⟨_, _, hvs, _, _, hcell⟩ := HSj.out.o.reads
              obtain ⟨gf, off, hao, c0⟩ := hcell j (by rw [iN_len]; exact hjK)
              have hao2 : ao9 = some ⟨gf, off, none⟩ := by injection hvs with e1 e2 e3; rw [e1, hao]
              subst hao2
              rw [iN_at K j _ hjK] at c0
              have hx := HIn.out K[j] (List.getElem_mem _)
              have HSt := hid (show cR K (j + 1) = (cR K j).set K[j] ((cR K j).getD K[j] 0 + 1) by rw [← gN K j hjK]; rfl)
              have hy := cR_le K j K[j]
              have k0 := HRj.out.cell K[j] (by rw [cR_len]; exact hx)
              have k1 := HRj.out.frozen K[j]
              have HPu := hid (HRj.out.put K[j] ((cR K j).getD K[j] 0 + 1))
              have HB2 := hid (show Below g W2 (wr.setCell ⟨g, K[j], none⟩ (.int .i64 ((cR K j).getD K[j] 0 + 1))) from HBj.out.setCell (Nat.le_refl _) _)
              rw [← HSt.out] at HPu
              clear hcell hvs hao
              generalize (cR K j).getD K[j] 0 = y at *
              generalize K[j] = x at *
              have hxI : (x : Int) < 16 := by omega
              have hx0 : ¬ (x : Int) < 0 := by omega
              have hx1 : ¬ (16 : Int) ≤ (x : Int) := by omega
              have hyI : y ≤ 24 := by omega
              have hy0 : 0 ≤ y := hy.1
              clear hy
              gi_wp2
              go_roundw
              case rel => exact ⟨j + 1, by omega, by go_num, HPu.out, HB2.out⟩
              case measure => simp [intOf]; omega
            · have hI : ¬ (j : Int) < (i : Int) := by omega
              have hji : j = i := by omega
              have HRC := hid (show RowI wr g (iN (C16 K)) by
                have := HRj.out
                rw [cR_is K HIn.out j (by rw [HKl.out]; exact hj), hji, ← HKl.out, List.take_length] at this
                exact this)
              have HMi := hid (show Calls Try.prog 14 #[.slice (some ⟨g, 0, none⟩) 16 16] wr fun e w' => FwQ (iN (C16 K)) 24 w' e ∧ Below wr.heap.size wr w' by
                have h1 := HRC.out.reads
                rw [iN_len, C16_len] at h1
                exact mixes_any _ _ wr h1 (by rw [iN_len, C16_len]; decide))
              clear hji h
              gi_wp2_with fail
              refine ⟨trivial, (callsIn_wide.2 HMi.out).mono ?_⟩
              rintro e w4 ⟨⟨gf, lb, c, rfl, heg, hsq⟩, hb4⟩
              have hnn := seq_not (.func gf) #[] lb
              have HEg := hid heg
              have HSq := hid hsq
              have hb24 : Below g W2 w4 := HBj.out.trans (hb4.mono (by have := HBj.out.size; omega))
              have HS4 := hid (HS2.out.later (hg ▸ hb24))
              have HA4 := hid (show Boxed w4 w1.heap.size 22 (.slice aoa i ca) ∧ OI w4 B (.slice aoa i ca) (iN M) from ⟨(hb24.block _ (by omega)).trans HA2.out.1, HA2.out.2.below (hg ▸ hb24)⟩)
              clear heg hsq hb4 hb24 HMi
              obtain ⟨hGe, hm720, _⟩ := small_all K HIn.out (by rw [HKl.out]; omega)
              rw [hGe] at HSq
              obtain ⟨AG, hAG⟩ : ∃ AG, AL K.length (C16 K) = AG := ⟨_, rfl⟩
              rw [hAG] at HSq
              have HAG := hid hAG
              have HBl := hid (HS4.out.be)
              have hw4 : B + 3 ≤ w4.heap.size := HS4.out.sz
              have ha4 : w1.heap.size < w4.heap.size := HA4.out.1.lt
              clear hGe hm720 hAG
              gi_wp2_with fail
              refine range_r3 (q := 12) (w0 := w4) (gf := gf) (lb := lb) (c := c) (Bk := 0) (n := AG.length) (D := FwV AG) rfl HEg.out (HSq.out 0) (Nat.zero_le _) (Below.refl _ _) (fun k W => Below w4.heap.size w4 W ∧ ∀ i' Y, i' < k → AG[i']? = some Y → ¬ Alk P (iN Y) (iN K)) (fun _ W => Boxed W (B + 1) 4 (.bool true) ∧ Below B w W ∧ w4.heap.size ≤ W.heap.size) ?_ ?_ ?_ ?_ ?_ ?_ ?_
              · skip
                rintro k A A' ⟨h1, h2⟩ hc
                exact ⟨hc.below h1 (Nat.le_refl _) (Nat.le_refl _), h2⟩
              · skip
                rintro k A A' ⟨h1, h2, h3⟩ hc
                exact ⟨(hc.block _ h1.lt (by omega)).trans h1, hc.below h2 (by omega) (by omega), Nat.le_trans h3 hc.size⟩
              · exact ⟨Below.refl _ _, fun i' Y hi' => by omega⟩
              · skip
                intro l x W K' hK'
                have HKK := hid hK'
                clear hK'
                gi_wp2
                exact HKK.out
              · skip
                rintro l k x A W1 W ⟨hIb, hno⟩ hk hAW hD hc hz hsz
                obtain ⟨X, hX⟩ : ∃ X, AG[k]? = some X := ⟨_, List.getElem?_eq_getElem hk⟩
                have hD2 : OI W1 A.heap.size x (iN X) := by
                  have : AG.getD k [] = X := by rw [List.getD_eq_getElem?_getD, hX]; rfl
                  have hd := hD
                  unfold FwV at hd
                  rw [this] at hd
                  exact hd
                have hoX : OI W A.heap.size x (iN X) := hD2.stay (fun g hg => hc.block g (hD2.own_lt g hg).2 (by have := (hD2.own_lt g hg).1; omega))
                have hbW : Below w4.heap.size w4 W := hc.below (hIb.trans (hAW.mono hIb.size)) (Nat.le_refl _) (Nat.le_refl _)
                have HSW := hid (HS4.out.later hbW)
                have HAW := hid (show Boxed W w1.heap.size 22 (.slice aoa i ca) ∧ OI W B (.slice aoa i ca) (iN M) from ⟨(hbW.block _ ha4).trans HA4.out.1, HA4.out.2.below hbW⟩)
                have hXl : X.length = K.length := by
                  have hmx := AL_mx K.length (C16 K) (ctof16 K HIn.out).t (by rw [HKl.out]; omega) k X (by rw [HAG.out]; exact hX)
                  rw [mx_len hmx (by rw [(ctof16 K HIn.out).t, HKl.out]; omega), (ctof16 K HIn.out).t]
                obtain ⟨ax, cx, hvx⟩ := hoX.reads.len0
                rw [iN_len, hXl, HKl.out] at hvx
                subst hvx
                have hp1 : PL W (.slice apo P.length apc) P := HP.out.below ((by rw [hB]; exact HSW.out.be) : Below w.heap.size w W)
                have HAk := hid (alikeB_any _ (.slice ao9 i c9) (.slice apo P.length apc) (iN X) (iN K) P W hoX.reads HSW.out.o.reads hp1 (by omega) (by rw [iN_len, hXl, HKl.out]; omega) (by rw [iN_len, iN_len, hXl]))
                have HOX := hid hoX
                have HX := hid hX
                have HNo := hid hno
                have HBW := hid hbW
                have HXl := hid hXl
                have HZA := hid (show w4.heap.size + 2 + c ≤ W.heap.size by have := hAW.size; omega)
                have fW := HSW.out.f.cell
                have pW := HSW.out.p.cell
                clear hIb hno hk hAW hD hc hz hsz hX hD2 hoX hbW hXl hp1
                simp only [List.setIfInBounds_toArray, List.set_cons_succ, List.set_cons_zero]
                gi_wp2_with fail
                refine ⟨trivial, ((callsIn_wide.2 HAk.out).inRound l).mono ?_⟩
                rintro e w5 ⟨⟨b, rfl, hb⟩, hb5⟩
                have HBb := hid hb
                have HB5 := hid (HBW.out.trans (hb5.mono HBW.out.size))
                have HX5 := hid (HOX.out.below hb5)
                have HA5 := hid (show Boxed w5 w1.heap.size 22 (.slice aoa i ca) ∧ OI w5 B (.slice aoa i ca) (iN M) from ⟨(hb5.block _ HAW.out.1.lt).trans HAW.out.1, HAW.out.2.below hb5⟩)
                have HS5 := hid (HSW.out.later hb5)
                have HK5 := hid (show KpW 0 w4.heap.size (c + 2) W w5 from ⟨hb5.size, fun k' hk' => hb5.block k' (by have := HZA.out; omega)⟩)
                clear hb hb5 HAk HOX HAW HSW fW pW
                cases b with
                | false =>
                  have HN := hid (show ∀ i' Y, i' < k + 1 → AG[i']? = some Y → ¬ Alk P (iN Y) (iN K) from fun i' Y hi' hY' ha => by
                    by_cases e : i' = k
                    · subst e
                      rw [HX.out] at hY'
                      injection hY' with e2
                      subst e2
                      have := HBb.out.2 ha
                      cases this
                    · exact HNo.out i' Y (by omega) hY' ha)
                  gi_wp2
                  exact .inl ⟨rfl, HK5.out, HB5.out, HN.out⟩
                | true =>
                  have hXM : X = M := HM.out.first (k := k) (by rw [HAG.out]; exact HX.out) (HBb.out.1 rfl) (fun i' Y hi' hY' => HNo.out i' Y hi' (by rw [← HAG.out]; exact hY'))
                  have HSm := hid (same_any (.slice ax i cx) (.slice aoa i ca) (iN X) (iN M) w5 HX5.out.reads HA5.out.2.reads (by rw [iN_len, HXl.out, HKl.out]; omega) (by rw [← hXM, iN_len, HXl.out, HKl.out]; omega))
                  have a5 := HA5.out.1.cell
                  have HXM := hid hXM
                  clear hXM
                  gi_wp2_with fail
                  refine ⟨trivial, ((callsIn_wide.2 HSm.out).inRound l).mono ?_⟩
                  rintro e w6 ⟨⟨b2, rfl, hb2⟩, hb6⟩
                  obtain rfl : b2 = true := hb2.2 (by rw [HXM.out])
                  have HS6 := hid (HS5.out.later hb6)
                  have r1 := HS6.out.r.cell
                  have r2 := HS6.out.r.frozen
                  have HR6 := hid (HS6.out.r.set (.bool true))
                  have HB6 := hid (show Below B w (w6.setCell ⟨B + 1, 0, none⟩ (.bool true)) from HS6.out.be.setCell (p := ⟨B + 1, 0, none⟩) (by show B ≤ B + 1; omega) _)
                  have HK6 := hid (show KpW 0 w4.heap.size (c + 2) W (w6.setCell ⟨B + 1, 0, none⟩ (.bool true)) from ⟨by have := HK5.out.size; have := hb6.size; simp; omega, fun k' hk' => by
                    have h9 : k' < w5.heap.size := by have := HZA.out; have := HK5.out.size; omega
                    exact (hp_o (by have := hb6.size; omega) (by omega) _).trans ((hb6.block k' h9).trans (HK5.out.block k' hk'))⟩)
                  have HZ6 := hid (show w4.heap.size ≤ (w6.setCell ⟨B + 1, 0, none⟩ (.bool true)).heap.size by have := HB5.out.size; have := hb6.size; simp; omega)
                  clear hb2 hb6 HSm a5
                  gi_wp2
                  exact .inr ⟨rfl, HK6.out, HR6.out, HB6.out, HZ6.out⟩
              · skip
                rintro W ⟨_, hno⟩ _
                exact absurd HM.out.alk (hno n M (by have := HM.out.lt; rw [HAG.out] at this; exact this) (by rw [← HAG.out]; exact HM.out.pos))
              · skip
                rintro k W ⟨h1, h2, h3⟩ hK
                have H1 := hid h1
                have H2 := hid h2
                have HK := hid hK
                have hBw : B + 1 ≠ w4.heap.size := by omega
                clear h1 h2 hK
                gi_wp2
                refine ⟨by simp, .inl ⟨_, _, rfl, run_takeDeferred HK.out, ?_⟩⟩
                have r4 : (W.putObj w4.heap.size (.deferred none)).cell? ⟨B + 1, 0, none⟩ = some (.bool true) := by
                  refine (World.cell?_of_block (?_ : _ = _)).trans H1.out.cell
                  exact World.putObj_heap_other hBw
                exact ⟨_, results_cellS rfl _ _ (B + 1) true rfl r4, rfl, by rw [hB]; exact H2.out.trans ⟨rfl, rfl, rfl, by simp, fun k hk => World.putObj_heap_other (by omega)⟩⟩
        · have hL0 : leL F P = [] := by unfold leL; rw [if_neg hE]
          have hEb : (leE F P == 0) = false := by simpa using hE
          rw [hL0] at HOa ⊢
          generalize leE F P = E at *
          obtain ⟨W2, hW2⟩ : ∃ W2, w1.alloc (.cells #[.slice aoa ([] : List Int).length ca] 22) = W2 := ⟨_, rfl⟩
          have hS2 := HS1.out.alloc (.cells #[.slice aoa ([] : List Int).length ca] 22)
          rw [hW2] at hS2
          have HS2 := hid hS2
          have a2 : Boxed W2 w1.heap.size 22 (.slice aoa ([] : List Int).length ca) := by rw [← hW2]; exact Boxed.new w1 _ _
          have a2c := a2.cell
          have HL2 := hid (HLi.out W2)
          clear hS2 a2 hE hL0
          simp only [List.length_nil] at hW2 a2c ⊢
          gi_wp2_with fail
          refine ⟨trivial, (callsIn_wide.2 HL2.out).mono ?_⟩
          rintro e w3 ⟨rfl, hb3⟩
          have hS3 := HS2.out.later hb3
          have r1 := hS3.r.cell
          have r2 := hS3.r.frozen
          have r3 := (hS3.r.set (.bool true)).cell
          have hbe := hS3.be.setCell (p := ⟨B + 1, 0, none⟩) (by show B ≤ B + 1; omega) (.bool true)
          clear hb3 hS3
          gi_wp2
          exact ⟨_, results_cellS rfl _ _ (B + 1) true rfl r3, rfl, by rw [hB]; exact hbe⟩
end Go.Proofs.Ytaiccmbhdgecgaa
