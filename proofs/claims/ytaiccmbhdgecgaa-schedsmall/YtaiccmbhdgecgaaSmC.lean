/-
  Gw3: Few: its search.
  Gw5: Few: what its iterator goes over.
  Gw7: Few, Mixes: what they answer.
  Gw9: SchedSmall: the first of all mixes that is alike is the least (pure).
  LawSSm: SchedSmall: the law's walk.
-/
import Derived.Test.YtaiccmbhdgecgaaSmB
import Derived.Sort.CutIn
import Derived.Stop.RegionWithIn
import Derived.Deep.RegionHeld3
import Derived.Deep.DeepCutAuto
import Derived.Laws.EntriesVeiled
import Derived.Test.YtaiccmbhdgecgaaAl3
import Derived.Test.YtaiccmbhdgecgaaNt4
import Derived.Test.YtaiccmbhdgecgaaSr2
import Derived.Test.YtaiccmbhdgecgaaRgR
namespace Go.Proofs.Ytaiccmbhdgecgaa
open Go.RowKit Go.Shelf
set_option maxRecDepth 100000
set_option linter.unusedVariables false
set_option linter.unusedSimpArgs false
attribute [local go_sem] Oper.semAt_some

theorem wpListIn_fitI {F : Fence} {m : Nat} (w : World) {ops : Array Oper} {rest : List Oper} {o : Oper} {a : Act} {Q : Exit → Act → World → Prop} (hgd : o.guard = none) (s x : Operand)
    (ho : o.op = .call { callee := .builtin .append, args := #[s, x], argTypes := #[22, 22] })
    (base g k cap : Nat) (L : List Int) (hs : a.eval s = .slice (some ⟨g, 0, none⟩) k cap) (hown : OI w base (.slice (some ⟨g, 0, none⟩) k cap) L) (hk : L.length = k) (b : Nat) (hx : a.eval x = .slice (some ⟨b, 0, none⟩) 1 1) (j : Int)
    (hc : w.heap[b]? = some (.cells #[.int .i64 j] 3 (0, 0))) (b1 : k + 1 ≤ cap)
    (hK : ∀ w', OI w' base (.slice (some ⟨g, 0, none⟩) (k + 1) cap) (L ++ [j]) → w.grownBy w' (some g) → wpListIn F m Try.prog ops Q rest (a.put o.dst (.slice (some ⟨g, 0, none⟩) (k + 1) cap)) w') :
    wpListIn F m Try.prog ops Q (o :: rest) a w := by
  obtain ⟨i, hi, hz, hsz, hby⟩ := info_parts intinfo
  subst hk
  refine wpListIn_append_fits w hgd s x 22 ho base 3 i 1 Try.underlying22 hi hsz g L.length cap (ic L) hs hown ⟨b, 0, none⟩ 1 1 [.int .i64 j] hx rfl ?_ ?_ b1 ?_
  · intro t u hu
    match t, hu with
    | 0, hu =>
      injection hu with hu
      subst hu
      exact Lib.cell_of_heap hc 0 |>.trans rfl
    | t + 1, hu => cases hu
  · intro u hu
    rw [List.mem_singleton.1 hu]
    rfl
  · intro w' ho' hg
    refine hK w' ?_ hg
    unfold OI
    rw [ic_app, List.length_append]
    exact ho'
/-- how a search ends -/
def SeE (J Jx : Nat → World → Prop) (wB bY bL aL bP bX aX bS n cL pl l k : Nat) (N P : List Nat) (W' : World) (e : Ending) : Prop :=
  ∃ b, e = .returned (.bool b) ∧ FwM wB bY bL aL bP bX aX bS n cL pl l W' N P ∧ ((b = true ∧ J k W') ∨ (b = false ∧ ∃ k', Jx k' W'))
theorem few_enter : ∀ args w, (callFunc 40 args).run Try.prog w = .ok (.enter 40 args) w := enters_of Try.func40 (by kernel_rfl) rfl
/-- the two ways of a yield as one -/
theorem yb_of {J Jx : Nat → World → Prop} {k B0 wB : Nat} {W1 W' : World} {e : Ending} (h : (e = .returned (.bool true) ∧ J (k + 1) W' ∧ KpW B0 wB 8 W1 W') ∨ (e = .returned (.bool false) ∧ Jx (k + 1) W' ∧ KpW B0 wB 8 W1 W')) : ∃ b, e = .returned (.bool b) ∧ Hid ((b = true ∧ J (k + 1) W' ∧ KpW B0 wB 8 W1 W') ∨ (b = false ∧ Jx (k + 1) W' ∧ KpW B0 wB 8 W1 W')) := by
  rcases h with ⟨rfl, h1, h2⟩ | ⟨rfl, h1, h2⟩
  · exact ⟨true, rfl, hid (.inl ⟨rfl, h1, h2⟩)⟩
  · exact ⟨false, rfl, hid (.inr ⟨rfl, h1, h2⟩)⟩
set_option maxHeartbeats 8000000 in
theorem search_any (B0 wB bY bL aL bP bX aX bS n cL pl l : Nat) (hi : ID wB bY bL aL bP bX aX bS) (hn16 : n ≤ 16) (h24 : pl ≤ 24) (G : List (List Nat)) (J Jx : Nat → World → Prop) (hJ : ∀ k A A', J k A → Chg wB 8 A A' → J k A') (hJx : ∀ k A A', Jx k A → Chg wB 8 A A' → Jx k A')
    (hY : ∀ k v A W1, J k A → k < G.length → Below A.heap.size A W1 → OI W1 A.heap.size v (iN (G.getD k [])) → wB + 8 ≤ A.heap.size → YieldAt Fence.wide 3 Try.prog l #[v] W1 fun e W' => (e = .returned (.bool true) ∧ J (k + 1) W' ∧ KpW B0 wB 8 W1 W') ∨ (e = .returned (.bool false) ∧ Jx (k + 1) W' ∧ KpW B0 wB 8 W1 W')) :
    ∀ s N P last sp k W, tN2 N = s → s + P.length = pl → FwM wB bY bL aL bP bX aX bS n cL pl l W N P → (last = -1 ∨ ∃ j : Nat, j < n ∧ last = (j : Int)) → 0 ≤ sp → sp ≤ 9223372036854775807 → Stnd G k P (FL s N last sp) → J k W →
      CallsIn Fence.wide 4 Try.prog 40 #[.int .i64 last, .int .i64 sp, .pointer (some ⟨bX, 0, none⟩), .pointer (some ⟨bP, 0, none⟩), .pointer (some ⟨bY, 0, none⟩), .pointer (some ⟨bL, 0, none⟩), .pointer (some ⟨bS, 0, none⟩)] W fun e W' => SeE J Jx wB bY bL aL bP bX aX bS n cL pl l (k + (FL s N last sp).length) N P W' e
  | 0, N, P, last, sp, k, W, hN, hP, hF, hla, hs0, hs1, hSt, hJk => by
    have hg := hSt 0 [] rfl
    rw [List.append_nil] at hg
    have hkl : k < G.length := (List.getElem?_eq_some_iff.1 hg).1
    have hgd : G.getD k [] = P := by rw [List.getD_eq_getElem?_getD, show G[k]? = some P from hg]; rfl
    have HF := hid hF
    have HCl := hid (fun wx (hb : Below W.heap.size W wx) => show Calls Try.prog 33 #[.slice (some ⟨aX, 0, none⟩) P.length pl] wx fun e w' => (∃ v', e = .returned v' ∧ OI w' W.heap.size v' (iN P)) ∧ Below W.heap.size W w' from (le_clone_any _ (iN P) wx (hF.later hi hb).r.reads (by rw [iN_len]; omega)).mono (by
      rintro e w' ⟨⟨v', h1, h2⟩, h3⟩
      exact ⟨⟨v', h1, h2.mono hb.size⟩, hb.trans (h3.mono hb.size)⟩))
    have HY := hid (fun v W1 (hb : Below W.heap.size W W1) (ho : OI W1 W.heap.size v (iN P)) => hY k v W W1 hJk hkl hb (by rw [hgd]; exact ho) hF.sz)
    have hPl : P.length = pl := by omega
    have hb : ((P.length : Int) == (pl : Int)) = true := by rw [hPl]; simp
    have y1 := hF.y.cell
    have p1 := hF.p.cell
    have x1 := hF.x.cell
    have HX := hid (fun wx (hb : Below W.heap.size W wx) => And.intro (hF.later hi hb).y.cell (hF.later hi hb).x.cell)
    clear hF hSt hg hgd hkl hJk hP hPl
    refine callsIn_of_wp Try.func40 rfl trivial ?_ rfl
    simp only [Try.ntmps40, List.size_toArray, List.length_cons, List.length_nil, Nat.reduceAdd, Nat.reduceSub, Array.replicate_succ, Array.replicate_zero, List.push_toArray, List.append_toArray, List.nil_append, List.cons_append]
    gi_wp2_with fail
    have s0 : Below W.heap.size W W.drew := (Below.refl _ _).drew
    gi_region_with (first
      | (refine ⟨trivial, ?_⟩; refine (callsIn_wide.2 (HCl.out _ s0)).mono ?_; rintro e w3 ⟨⟨v, rfl, ho⟩, s3⟩; obtain ⟨fn, tmps, assign, body, hy, hR⟩ := HY.out v w3 s3 ho; have yz := (HX.out w3 s3).1; clear ho)
      | (refine hR.mono ?_; rintro e W3 hz; obtain ⟨b, rfl, hb3⟩ := yb_of hz; clear hz))
    all_goals
      gi_wp2
      go_ret
      rcases hb3.out with ⟨rfl, hj, hk⟩ | ⟨rfl, hx, hk⟩
      · exact ⟨true, rfl, (HF.out.later hi s3).kpw hi hk, .inl ⟨rfl, hj⟩⟩
      · exact ⟨false, rfl, (HF.out.later hi s3).kpw hi hk, .inr ⟨rfl, _, hx⟩⟩
  | s + 1, N, P, last, sp, k, W, hN, hP, hF, hla, hs0, hs1, hSt, hJk => by
    have HF := hid hF
    have HIH := hid (search_any B0 wB bY bL aL bP bX aX bS n cL pl l hi hn16 h24 G J Jx hJ hJx hY s)
    have HSt := hid hSt
    have HJk := hid hJk
    have HLa := hid (show last = -1 ∨ ∃ j : Nat, j < N.length ∧ last = (j : Int) by rw [hF.len]; exact hla)
    have HJ := hid hJ
    have HJx := hid hJx
    have HP := hid hP
    have HN := hid hN
    have hPl : P.length < pl := by omega
    have hb : ((P.length : Int) == (pl : Int)) = false := beq_eq_false_iff_ne.2 (by omega)
    have p1 := hF.p.cell
    have x1 := hF.x.cell
    have l1 := hF.l.cell
    have hspI : sp ≤ 9223372036854775807 := hs1
    clear hF hSt hJk hP hJ hJx hY hla hN
    refine callsIn_of_wp Try.func40 rfl trivial ?_ rfl
    simp only [Try.ntmps40, List.size_toArray, List.length_cons, List.length_nil, Nat.reduceAdd, Nat.reduceSub, Array.replicate_succ, Array.replicate_zero, List.push_toArray, List.append_toArray, List.nil_append, List.cons_append]
    gi_wp2_with fail
    gi_loopw [10, 11, 12, 23] (fun _ _ _ vi wx => ∃ h : Nat, h ≤ n ∧ vi = .int .i64 (h : Int) ∧ J (k + (FP s N last sp h).length) wx ∧ FwM wB bY bL aL bP bX aX bS n cL pl l wx N P) (fun _ _ _ vi _ => n - (intOf vi).toNat)
    case atStart => exact ⟨0, Nat.zero_le _, rfl, HJk.out, HF.out⟩
    case round =>
      obtain ⟨h, hh, rfl, hj, hf⟩ := hrel
      have HFr := hid hf
      have HJr := hid hj
      clear hf hj p1 x1 l1
      by_cases hlt : h < n
      · have hI : (h : Int) < (n : Int) := by omega
        have hdI : decide (h < n) = true := decide_eq_true hlt
        have hNl := HFr.out.len
        have l1 := HFr.out.l.cell
        have HAs := hid (aside2_any (.slice (some ⟨aL, 0, none⟩) n cL) N h last wr HFr.out.a.reads HLa.out)
        obtain ⟨g0, c0, hv, hcn, _, hcl⟩ := HFr.out.a.form (by rw [iN_len]; omega)
        injection hv with e1 e2 e3
        injection e1 with e1
        injection e1 with e1
        subst e1 e3
        have k0 := hcl h (by rw [iN_len]; omega)
        rw [iN_at N h _ (by omega), ← gN N h (by omega)] at k0
        have k1 := HFr.out.a.own h
        have hx24 := hid (getD_le N h (by omega))
        have HSk := hid (FP_skip s N last sp h)
        have HGo := hid (FP_go s N last sp h)
        have hspr : spr N last sp h = if asd (iN N) last h then sp - 1 else sp := rfl
        have hmay : may N last sp h = (!decide (N.getD h 0 = 0) && !decide (spr N last sp h < 0)) := rfl
        have HSpr := hid hspr
        have HMay := hid hmay
        -- ROUND BEGINS
        clear hcl e2 hspr hmay
        cases hb0 : asd (iN N) last h with
        | true =>
          rw [hb0] at HAs
          have hq : spr N last sp h = sp - 1 := by rw [HSpr.out, if_pos hb0]
          clear HSpr
          have HSpr := hid hq
          have HMay := HMay.out
          rw [hq] at HMay
          have HMay := hid HMay
          clear hq hb0
          by_cases hz : N.getD h 0 = 0
          · have HMf := hid (show may N last sp h = false by rw [HMay.out, decide_eq_true hz]; rfl)
            rw [hz] at k0
            have k0 : wr.cell? ⟨aL, h, none⟩ = some (.int .i64 0) := k0
            have HZ := hid hz
            clear hz
            have HJ2 := hid (show J (k + (FP s N last sp (h + 1)).length) wr by rw [HSk.out HMf.out]; exact HJr.out)
            clear HGo
            gi_wp2_with fail
            refine ⟨trivial, (callsIn_wide.2 HAs.out).mono ?_⟩
            rintro e w1 ⟨rfl, hw1⟩
            have hws := hw1.symm
            clear hw1
            subst hws
            clear HAs
            gi_wp2
            go_roundw
            case rel => exact ⟨h + 1, by omega, by go_num, HJ2.out, HFr.out⟩
            case measure => simp [intOf]; omega
          · by_cases hneg : sp - 1 < 0
            · have HMf := hid (show may N last sp h = false by rw [HMay.out, decide_eq_true hneg]; simp)
              have hzb : (((N.getD h 0 : Nat) : Int) == 0) = false := beq_eq_false_iff_ne.2 (by omega)
              have hdn : decide (sp - 1 < 0) = true := decide_eq_true hneg
              have HZ := hid hz
              generalize N.getD h 0 = x at k0 hzb
              clear hz
              have HJ2 := hid (show J (k + (FP s N last sp (h + 1)).length) wr by rw [HSk.out HMf.out]; exact HJr.out)
              clear HGo
              gi_wp2_with fail
              refine ⟨trivial, (callsIn_wide.2 HAs.out).mono ?_⟩
              rintro e w1 ⟨rfl, hw1⟩
              have hws := hw1.symm
              clear hw1
              subst hws
              clear HAs
              gi_wp2
              go_roundw
              case rel => exact ⟨h + 1, by omega, by go_num, HJ2.out, HFr.out⟩
              case measure => simp [intOf]; omega
            · have HMt := hid (show may N last sp h = true by rw [HMay.out, decide_eq_false hz, decide_eq_false hneg]; rfl)
              have hdn : decide (sp - 1 < 0) = false := decide_eq_false hneg
              have HG2 := hid (HGo.out HMt.out)
              have H1 := hid (show 1 ≤ N.getD h 0 by omega)
              have hSn : (iN N).set h (((N.getD h 0 : Nat) : Int) - 1) = iN (less N h) := by
                rw [show ((N.getD h 0 : Nat) : Int) - 1 = ((N.getD h 0 - 1 : Nat) : Int) by omega, iN_set]
                rfl
              have hBk : (iN (less N h)).set h ((N.getD h 0 : Nat) : Int) = iN N := by
                rw [iN_set]
                unfold less
                rw [List.set_set]
                congr 1
                rw [gN N h (by omega)]
                exact List.set_getElem_self _
              have H2 := FwM.down hi HFr.out h (((N.getD h 0 : Nat) : Int) - 1) (less N h) hSn
              have HLs := hid (mN_less N h (by omega) H1.out (by have := HN.out; have := HP.out; omega)).2
              have hlat : (less N h).getD h 0 = N.getD h 0 - 1 := by rw [less_at N h h (by omega), if_pos rfl]
              have HBk := hid hBk
              have HLat := hid hlat
              obtain ⟨W2, hW2⟩ : ∃ W2, wr.setCell ⟨aL, h, none⟩ (.int .i64 (((N.getD h 0 : Nat) : Int) - 1)) = W2 := ⟨_, rfl⟩
              rw [hW2] at H2
              have HF2 := hid H2.1
              have HC2 := hid H2.2
              have x2 := HF2.out.x.cell
              have HJ2 := hid (HJ.out _ _ _ HJr.out HC2.out)
              have hx24 := hx24.out
              obtain ⟨x, hx⟩ : ∃ x, N.getD h 0 = x := ⟨_, rfl⟩
              rw [hx] at k0 hW2 HBk HLat hx24 H1
              have hxI : (x : Int) ≤ 24 := by have := HN.out; have := HP.out; omega
              have hxz : ((x : Int) == 0) = false := beq_eq_false_iff_ne.2 (by have := H1.out; omega)
              have HXx := hid hx
              clear H2 hSn hBk hlat hx hz HGo HSk HMay
              gi_wp2_with fail
              refine ⟨trivial, (callsIn_wide.2 HAs.out).mono ?_⟩
              rintro e w1 ⟨rfl, hw1⟩
              have hws := hw1.symm
              clear hw1
              subst hws
              clear HAs
              gi_wp2_with (gi_at_builtin; refine wpListIn_fitI _ rfl _ _ rfl wB aX P.length pl (iN P) rfl (HF2.out.r.alloc _) (iN_len P) W2.heap.size rfl (h : Int) (heap_alloc_new W2 _) (by omega) ?hnext)
              case hnext =>
                intro w4 ho4 hg4
                obtain ⟨p1, p2, p3, p4⟩ := FwM.push hi HF2.out _ h hg4 ho4
                obtain ⟨W5, hW5⟩ : ∃ W5, w4.setCell ⟨bX, 0, none⟩ (.slice (some ⟨aX, 0, none⟩) (P.length + 1) pl) = W5 := ⟨_, rfl⟩
                rw [hW5] at p1 p2
                have HF5 := hid p1
                have HJ5 := hid (HJ.out _ _ _ HJ2.out p2)
                have s5 := HF5.out.s.cell
                clear p1 p2 ho4 hg4
                have HCa := hid (HIH.out (less N h) (P ++ [h]) (h : Int) (sp - 1) (k + (FP s N last sp h).length) W5 (by have := HLs.out; have := HN.out; omega) (by rw [List.length_append, List.length_singleton]; have := HP.out; omega) HF5.out (.inr ⟨h, hlt, rfl⟩) (by omega) (by omega) (fun i y hy => by
                  have e1 : FL (s + 1) N last sp = FP s N last sp N.length := (FP_all s N last sp).symm
                  obtain ⟨T, hT⟩ := FP_pre s N last sp (show h + 1 ≤ N.length by omega)
                  have := HSt.out ((FP s N last sp h).length + i) (h :: y) (by
                    rw [e1, hT, HG2.out, List.append_assoc, List.getElem?_append_right (Nat.le_add_right _ _), Nat.add_sub_cancel_left, List.getElem?_append_left (by
                      rw [List.length_map, HSpr.out]
                      exact (List.getElem?_eq_some_iff.1 hy).1), List.getElem?_map, HSpr.out, hy]
                    rfl)
                  rw [Nat.add_assoc, this]
                  simp) HJ5.out)
                gi_wp2_with fail
                refine ⟨trivial, (callsIn_wide.2 (callsIn_wide.1 HCa.out)).mono ?_⟩
                rintro e W6 ⟨bm, rfl, hf6, hj6⟩
                have HF6 := hid hf6
                have HJ6 := hid hj6
                have x6 := HF6.out.x.cell
                rw [List.length_append, List.length_singleton] at x6
                have x6f := HF6.out.x.frozen
                obtain ⟨q1, q2⟩ := FwM.pop hi HF6.out
                obtain ⟨W7, hW7⟩ : ∃ W7, W6.setCell ⟨bX, 0, none⟩ (.slice (some ⟨aX, 0, none⟩) P.length pl) = W7 := ⟨_, rfl⟩
                rw [hW7] at q1 q2
                have HF7 := hid q1
                have l7 := HF7.out.l.cell
                obtain ⟨_, _, hv7, hcn7, _, hcl7⟩ := HF7.out.a.form (by rw [iN_len, less_len]; omega)
                injection hv7 with e1 e2 e3
                injection e1 with e1
                injection e1 with e1
                subst e1 e3
                have k7 := hcl7 h (by rw [iN_len, less_len]; omega)
                rw [iN_at (less N h) h _ (by rw [less_len]; omega), ← gN (less N h) h (by rw [less_len]; omega), HLat.out] at k7
                replace k7 : W7.cell? ⟨aL, h, none⟩ = some (.int .i64 ((x : Int) - 1)) := by rw [k7, show ((x - 1 : Nat) : Int) = (x : Int) - 1 by have := H1.out; omega]
                have k7f := HF7.out.a.own h
                have H8 := FwM.down hi HF7.out h (x : Int) N HBk.out
                obtain ⟨W8, hW8⟩ : ∃ W8, W7.setCell ⟨aL, h, none⟩ (.int .i64 (x : Int)) = W8 := ⟨_, rfl⟩
                rw [hW8] at H8
                have HF8 := hid H8.1
                have HC8 := hid (q2.trans H8.2)
                have hxx : (x : Int) - 1 + 1 = (x : Int) := by omega
                have HN1 := hid (show k + (FP s N last sp (h + 1)).length = k + (FP s N last sp h).length + (FL s (less N h) (h : Int) (sp - 1)).length by rw [HG2.out, List.length_append, List.length_map, HSpr.out, Nat.add_assoc])
                clear hf6 hj6 HCa hcl7 H8 q1 q2 e2
                rcases HJ6.out with ⟨rfl, hj⟩ | ⟨rfl, k9, hx9⟩
                · have HJ8 := hid (show J (k + (FP s N last sp (h + 1)).length) W8 by rw [HN1.out]; exact HJ.out _ _ _ hj HC8.out)
                  clear hj
                  gi_wp2
                  go_roundw
                  case rel => exact ⟨h + 1, by omega, by go_num, HJ8.out, HF8.out⟩
                  case measure => simp [intOf]; omega
                · have HX8 := hid (HJx.out _ _ _ hx9 HC8.out)
                  clear hx9
                  gi_wp2
                  go_ret
                  exact ⟨false, rfl, HF8.out, .inr ⟨rfl, _, HX8.out⟩⟩
        | false =>
          rw [hb0] at HAs
          have hq : spr N last sp h = sp := by rw [HSpr.out, if_neg (by rw [hb0]; decide)]
          clear HSpr
          have HSpr := hid hq
          have HMay := HMay.out
          rw [hq] at HMay
          have HMay := hid HMay
          clear hq hb0
          have hneg : ¬ sp < 0 := by omega
          have hdn : decide (sp < 0) = false := decide_eq_false hneg
          by_cases hz : N.getD h 0 = 0
          · have HMf := hid (show may N last sp h = false by rw [HMay.out, decide_eq_true hz]; rfl)
            rw [hz] at k0
            have k0 : wr.cell? ⟨aL, h, none⟩ = some (.int .i64 0) := k0
            have HZ := hid hz
            clear hz
            have HJ2 := hid (show J (k + (FP s N last sp (h + 1)).length) wr by rw [HSk.out HMf.out]; exact HJr.out)
            clear HGo
            gi_wp2_with fail
            refine ⟨trivial, (callsIn_wide.2 HAs.out).mono ?_⟩
            rintro e w1 ⟨rfl, hw1⟩
            have hws := hw1.symm
            clear hw1
            subst hws
            clear HAs
            gi_wp2
            go_roundw
            case rel => exact ⟨h + 1, by omega, by go_num, HJ2.out, HFr.out⟩
            case measure => simp [intOf]; omega
          · have HMt := hid (show may N last sp h = true by rw [HMay.out, decide_eq_false hz, decide_eq_false hneg]; rfl)
            have HG2 := hid (HGo.out HMt.out)
            have H1 := hid (show 1 ≤ N.getD h 0 by omega)
            have hSn : (iN N).set h (((N.getD h 0 : Nat) : Int) - 1) = iN (less N h) := by
              rw [show ((N.getD h 0 : Nat) : Int) - 1 = ((N.getD h 0 - 1 : Nat) : Int) by omega, iN_set]
              rfl
            have hBk : (iN (less N h)).set h ((N.getD h 0 : Nat) : Int) = iN N := by
              rw [iN_set]
              unfold less
              rw [List.set_set]
              congr 1
              rw [gN N h (by omega)]
              exact List.set_getElem_self _
            have H2 := FwM.down hi HFr.out h (((N.getD h 0 : Nat) : Int) - 1) (less N h) hSn
            have HLs := hid (mN_less N h (by omega) H1.out (by have := HN.out; have := HP.out; omega)).2
            have hlat : (less N h).getD h 0 = N.getD h 0 - 1 := by rw [less_at N h h (by omega), if_pos rfl]
            have HBk := hid hBk
            have HLat := hid hlat
            obtain ⟨W2, hW2⟩ : ∃ W2, wr.setCell ⟨aL, h, none⟩ (.int .i64 (((N.getD h 0 : Nat) : Int) - 1)) = W2 := ⟨_, rfl⟩
            rw [hW2] at H2
            have HF2 := hid H2.1
            have HC2 := hid H2.2
            have x2 := HF2.out.x.cell
            have HJ2 := hid (HJ.out _ _ _ HJr.out HC2.out)
            have hx24 := hx24.out
            obtain ⟨x, hx⟩ : ∃ x, N.getD h 0 = x := ⟨_, rfl⟩
            rw [hx] at k0 hW2 HBk HLat hx24 H1
            have hxI : (x : Int) ≤ 24 := by have := HN.out; have := HP.out; omega
            have hxz : ((x : Int) == 0) = false := beq_eq_false_iff_ne.2 (by have := H1.out; omega)
            have HXx := hid hx
            clear H2 hSn hBk hlat hx hz HGo HSk HMay
            gi_wp2_with fail
            refine ⟨trivial, (callsIn_wide.2 HAs.out).mono ?_⟩
            rintro e w1 ⟨rfl, hw1⟩
            have hws := hw1.symm
            clear hw1
            subst hws
            clear HAs
            gi_wp2_with (gi_at_builtin; refine wpListIn_fitI _ rfl _ _ rfl wB aX P.length pl (iN P) rfl (HF2.out.r.alloc _) (iN_len P) W2.heap.size rfl (h : Int) (heap_alloc_new W2 _) (by omega) ?hnext)
            case hnext =>
              intro w4 ho4 hg4
              obtain ⟨p1, p2, p3, p4⟩ := FwM.push hi HF2.out _ h hg4 ho4
              obtain ⟨W5, hW5⟩ : ∃ W5, w4.setCell ⟨bX, 0, none⟩ (.slice (some ⟨aX, 0, none⟩) (P.length + 1) pl) = W5 := ⟨_, rfl⟩
              rw [hW5] at p1 p2
              have HF5 := hid p1
              have HJ5 := hid (HJ.out _ _ _ HJ2.out p2)
              have s5 := HF5.out.s.cell
              clear p1 p2 ho4 hg4
              have HCa := hid (HIH.out (less N h) (P ++ [h]) (h : Int) sp (k + (FP s N last sp h).length) W5 (by have := HLs.out; have := HN.out; omega) (by rw [List.length_append, List.length_singleton]; have := HP.out; omega) HF5.out (.inr ⟨h, hlt, rfl⟩) (by omega) (by omega) (fun i y hy => by
                have e1 : FL (s + 1) N last sp = FP s N last sp N.length := (FP_all s N last sp).symm
                obtain ⟨T, hT⟩ := FP_pre s N last sp (show h + 1 ≤ N.length by omega)
                have := HSt.out ((FP s N last sp h).length + i) (h :: y) (by
                  rw [e1, hT, HG2.out, List.append_assoc, List.getElem?_append_right (Nat.le_add_right _ _), Nat.add_sub_cancel_left, List.getElem?_append_left (by
                    rw [List.length_map, HSpr.out]
                    exact (List.getElem?_eq_some_iff.1 hy).1), List.getElem?_map, HSpr.out, hy]
                  rfl)
                rw [Nat.add_assoc, this]
                simp) HJ5.out)
              gi_wp2_with fail
              refine ⟨trivial, (callsIn_wide.2 (callsIn_wide.1 HCa.out)).mono ?_⟩
              rintro e W6 ⟨bm, rfl, hf6, hj6⟩
              have HF6 := hid hf6
              have HJ6 := hid hj6
              have x6 := HF6.out.x.cell
              rw [List.length_append, List.length_singleton] at x6
              have x6f := HF6.out.x.frozen
              obtain ⟨q1, q2⟩ := FwM.pop hi HF6.out
              obtain ⟨W7, hW7⟩ : ∃ W7, W6.setCell ⟨bX, 0, none⟩ (.slice (some ⟨aX, 0, none⟩) P.length pl) = W7 := ⟨_, rfl⟩
              rw [hW7] at q1 q2
              have HF7 := hid q1
              have l7 := HF7.out.l.cell
              obtain ⟨_, _, hv7, hcn7, _, hcl7⟩ := HF7.out.a.form (by rw [iN_len, less_len]; omega)
              injection hv7 with e1 e2 e3
              injection e1 with e1
              injection e1 with e1
              subst e1 e3
              have k7 := hcl7 h (by rw [iN_len, less_len]; omega)
              rw [iN_at (less N h) h _ (by rw [less_len]; omega), ← gN (less N h) h (by rw [less_len]; omega), HLat.out] at k7
              replace k7 : W7.cell? ⟨aL, h, none⟩ = some (.int .i64 ((x : Int) - 1)) := by rw [k7, show ((x - 1 : Nat) : Int) = (x : Int) - 1 by have := H1.out; omega]
              have k7f := HF7.out.a.own h
              have H8 := FwM.down hi HF7.out h (x : Int) N HBk.out
              obtain ⟨W8, hW8⟩ : ∃ W8, W7.setCell ⟨aL, h, none⟩ (.int .i64 (x : Int)) = W8 := ⟨_, rfl⟩
              rw [hW8] at H8
              have HF8 := hid H8.1
              have HC8 := hid (q2.trans H8.2)
              have hxx : (x : Int) - 1 + 1 = (x : Int) := by omega
              have HN1 := hid (show k + (FP s N last sp (h + 1)).length = k + (FP s N last sp h).length + (FL s (less N h) (h : Int) sp).length by rw [HG2.out, List.length_append, List.length_map, HSpr.out, Nat.add_assoc])
              clear hf6 hj6 HCa hcl7 H8 q1 q2 e2
              rcases HJ6.out with ⟨rfl, hj⟩ | ⟨rfl, k9, hx9⟩
              · have HJ8 := hid (show J (k + (FP s N last sp (h + 1)).length) W8 by rw [HN1.out]; exact HJ.out _ _ _ hj HC8.out)
                clear hj
                gi_wp2
                go_roundw
                case rel => exact ⟨h + 1, by omega, by go_num, HJ8.out, HF8.out⟩
                case measure => simp [intOf]; omega
              · have HX8 := hid (HJx.out _ _ _ hx9 HC8.out)
                clear hx9
                gi_wp2
                go_ret
                exact ⟨false, rfl, HF8.out, .inr ⟨rfl, _, HX8.out⟩⟩
      · have hI : ¬ (h : Int) < (n : Int) := by omega
        have hdI : decide (h < n) = false := decide_eq_false hlt
        obtain rfl : h = n := by omega
        have HE := hid (show FP s N last sp h = FL (s + 1) N last sp by rw [← HFr.out.len]; exact FP_all s N last sp)
        gi_wp2
        go_ret
        exact ⟨true, rfl, HFr.out, .inl ⟨rfl, by rw [← HE.out]; exact HJr.out⟩⟩
end Go.Proofs.Ytaiccmbhdgecgaa

namespace Go.Proofs.Ytaiccmbhdgecgaa
open Go.RowKit Go.Shelf
set_option maxRecDepth 100000
set_option linter.unusedVariables false
set_option linter.unusedSimpArgs false
attribute [local go_sem] Oper.semAt_some
attribute [local go_sem ↓] mki_op

/-- the k-th mix, in a block of its own that is new since A -/
def FwV (G : List (List Nat)) (k : Nat) (A : World) (v : Value) (W : World) : Prop := OI W A.heap.size v (iN (G.getD k []))
/-- the clone, the boxes of left and of places -/
structure Cl4 (wB n pl : Nat) (N : List Nat) (W1 wx : World) (bL bP : Nat) : Prop where
  ex : ∃ aL cL, wB < aL ∧ aL < wB + 5 ∧ bL ≠ aL ∧ aL ≠ bP ∧ Boxed wx bL 22 (.slice (some ⟨aL, 0, none⟩) n cL) ∧ OI wx wB (.slice (some ⟨aL, 0, none⟩) n cL) (iN N)
  l : wB < bL ∧ bL < wB + 5
  p : wB < bP ∧ bP < wB + 5
  lp : bL ≠ bP
  bp : Boxed wx bP 3 (.int .i64 (pl : Int))
  sz : wx.heap.size = wB + 5
  be : Below (wB + 1) W1 wx
/-- of what lay in W1 nothing has turned (a name that 'assumption' does not mistake) -/
def LtW (w w' : World) : Prop := Below w.heap.size w w'
theorem LtW.step {w w1 w2 : World} (h : LtW w w1) (k : Below w1.heap.size w1 w2) : LtW w w2 := Below.trans h (k.mono (Below.size h))
theorem LtW.drew {w w1 : World} (h : LtW w w1) : LtW w w1.drew := Below.drew h
theorem LtW.alloc {w w1 : World} (h : LtW w w1) (o : Obj) : LtW w (w1.alloc o) := Below.alloc h (Below.size h) o
theorem LtW.set {w w1 : World} {p : Addr} (h : LtW w w1) (hp : w.heap.size ≤ p.block) (u : Value) : LtW w (w1.setCell p u) := Below.setCell h hp u
theorem cells_eq {w w' : World} (h : Below w.heap.size w w') : ∀ p : Addr, p.block < w.heap.size → w'.cell? p = w.cell? p := fun p hp => by simp only [World.cell?, h.block p.block hp]
theorem frozen_eq {w w' : World} (h : Below w.heap.size w w') : ∀ p : Addr, p.block < w.heap.size → w'.frozen? p = w.frozen? p := fun p hp => by simp only [World.frozen?, h.block p.block hp]
theorem run_mk0 (n : Nat) (hn : n ≤ 1000000) (w : World) : (mkI (.int .i64 0) (.int .i64 (n : Int))).run Try.prog w = .ok (.slice (some ⟨w.heap.size, 0, none⟩) 0 n) (w.alloc (.cells (ic (List.replicate n 0)).toArray 3)) := by
  obtain ⟨i, hi, hz, hs, hb⟩ := info_parts intinfo
  have := run_make (P := Try.prog) w 22 3 i _ Try.underlying22 hi hz .i64 .i64 0 (n : Int) (by omega) (by omega) (by rw [hb]; omega) (by omega)
  unfold mkI
  rw [this, hs, Nat.mul_one]
  simp only [Int.toNat_natCast]
  rw [show (Value.int IntKind.i64 0).cells = #[.int .i64 0] from rfl, made_i]
  rfl
theorem bx_a (w : World) (z : Nat) (hz : w.heap.size = z) (t : TypeId) (v : Value) : Boxed (w.alloc (.cells #[v] t)) z t v := hz ▸ Boxed.new w t v
theorem bx_o {w : World} {b g : Nat} {t : TypeId} {v : Value} (h : Boxed w b t v) (hne : b ≠ g) (u : Value) : Boxed (w.setCell ⟨g, 0, none⟩ u) b t v := ((gb_set w g 0 u).block b h.lt (fun e => by injection e with e; exact hne e)).trans h
theorem hp_o {w : World} {b g : Nat} (hb : b < w.heap.size) (hne : b ≠ g) (u : Value) : (w.setCell ⟨g, 0, none⟩ u).heap[b]? = w.heap[b]? := (gb_set w g 0 u).block b hb (fun e => by injection e with e; exact hne e)
theorem bx_k {w w' : World} {b : Nat} {t : TypeId} {v : Value} (h : Below w.drew.heap.size w.drew w') (hx : Boxed w b t v) : Boxed w' b t v := (h.block b hx.lt).trans hx
def BxE (w : World) (b : Nat) (t : TypeId) : Prop := ∃ v, Boxed w b t v
theorem be_a (w : World) (z : Nat) (hz : w.heap.size = z) (t : TypeId) (v : Value) : BxE (w.alloc (.cells #[v] t)) z t := ⟨v, bx_a w z hz t v⟩
theorem be_al {w : World} {b : Nat} {t : TypeId} (h : BxE w b t) (o : Obj) : BxE (w.alloc o) b t := h.elim fun v h => ⟨v, h.alloc o⟩
theorem be_o {w : World} {b g : Nat} {t : TypeId} (h : BxE w b t) (hne : b ≠ g) (u : Value) : BxE (w.setCell ⟨g, 0, none⟩ u) b t := h.elim fun v h => ⟨v, bx_o h hne u⟩
theorem be_k {w w' : World} {b : Nat} {t : TypeId} (h : Below w.drew.heap.size w.drew w') (hx : BxE w b t) : BxE w' b t := hx.elim fun v hx => ⟨v, bx_k h hx⟩
theorem bx_s {w : World} {b : Nat} {t : TypeId} {v' : Value} (h : BxE w b t) : Boxed (w.setCell ⟨b, 0, none⟩ v') b t v' := by
  obtain ⟨v, hv⟩ := h
  exact hv.set v'
set_option maxHeartbeats 8000000 in
theorem few_seq (g1 g2 B0 Bk : Nat) (sv : Value) (N : List Nat) (mo : Int) (w : World) (hn1 : 1 ≤ N.length) (hn16 : N.length ≤ 16) (h24 : tN2 N ≤ 24) (hm0 : 0 ≤ mo) (hm1 : mo ≤ 9223372036854775807) (b1 : g1 < B0) (b2 : g2 < B0) (h1 : Boxed w g1 22 sv) (h2 : IBox w g2 mo) (hr : RI w sv (iN N)) (hbw : B0 ≤ w.heap.size) (hrw : ∀ W, Below B0 w W → RI W sv (iN N)) :
    SeqC 39 #[.pointer (some ⟨g1, 0, none⟩), .pointer (some ⟨g2, 0, none⟩)] 8 B0 Bk (FL (tN2 N) N (-1) mo).length (FwV (FL (tN2 N) N (-1) mo)) w := fun l J Jx W hW hB hJ hJx hY h0 => by
  obtain ⟨pl, hpl⟩ : ∃ pl, tN2 N = pl := ⟨_, rfl⟩
  rw [hpl] at h24 hY ⊢
  obtain ⟨wB, hwB⟩ : ∃ wB, W.heap.size = wB := ⟨_, rfl⟩
  rw [hwB] at hJ hJx hY
  obtain ⟨n, hn⟩ : ∃ n, N.length = n := ⟨_, rfl⟩
  obtain ⟨W1, hW1⟩ : ∃ W1, W.alloc (.cells #[.func (.yield l) #[] #[]] 59) = W1 := ⟨_, rfl⟩
  have hz1 : W1.heap.size = wB + 1 := by rw [← hW1, World.size_alloc, hwB]
  have y1 : Boxed W1 wB 59 (.func (.yield l) #[] #[]) := by rw [← hW1, ← hwB]; exact Boxed.new W _ _
  have hbB : Below B0 w W1 := by rw [← hW1]; exact hW.alloc (by omega) _
  have HR := hid (fun wx (hb : Below (wB + 1) W1 wx) => hrw wx (hbB.trans (hb.mono (by omega))))
  have HG := hid (fun wx (hb : Below (wB + 1) W1 wx) => And.intro (show Boxed wx g1 22 sv from (hb.block _ (by omega)).trans ((hbB.block _ b1).trans h1)) (show IBox wx g2 mo from (hb.block _ (by omega)).trans ((hbB.block _ b2).trans h2)))
  have HCl := hid (fun wx (hb : Below (wB + 1) W1 wx) => show Calls Try.prog 33 #[sv] wx fun e w' => (∃ g c, e = .returned (.slice (some ⟨g, 0, none⟩) n c) ∧ OI w' wx.heap.size (.slice (some ⟨g, 0, none⟩) n c) (iN N)) ∧ Below wx.heap.size wx w' ∧ w'.heap.size = wx.heap.size + 2 by
    have := clone_sz sv (iN N) wx (HR.out wx hb) (by rw [iN_len]; exact hn1) (by rw [iN_len]; omega)
    rw [iN_len, hn] at this
    exact this)
  have HSu := hid (fun wx (hb : Below (wB + 1) W1 wx) => show Calls Try.prog 34 #[sv] wx fun e w' => e = .returned (.int .i64 (pl : Int)) ∧ w' = wx by
    have := sumOf_any sv N wx (HR.out wx hb) (by show tN2 N ≤ 24; omega) hn16
    rw [show sN N N.length = pl from hpl] at this
    exact this)
  have HY := hid hY
  have HJ := hid hJ
  have HJx := hid hJx
  have H0 := hid h0
  have c1 := (HG.out W1 (Below.refl _ _)).1.cell
  clear hJ hJx hY h0 h1 h2 hr hrw hW
  have HK := hid (fun wx (hb : LtW W1 wx) => show wx.cell? ⟨g1, 0, none⟩ = some sv from (HG.out wx (hb.mono (by omega))).1.cell)
  have HCl2 := hid (fun wx (hb : LtW W1 wx) => HCl.out wx (hb.mono (by omega)))
  have HSu2 := hid (fun wx (hb : LtW W1 wx) => HSu.out wx (hb.mono (by omega)))
  have l0 : LtW W1 W1 := Below.refl _ _
  have l1 : LtW W1 W1.drew := l0.drew
  clear HCl HSu
  refine callsIn_wide.2 ?_
  go_enter Try.func39, Try.ntmps39
  go_upto_region 1 with fail
  go_cut [4, 5] from 8 (fun s4 s5 wx => ∃ bL bP, s4 = .pointer (some ⟨bL, 0, none⟩) ∧ s5 = .pointer (some ⟨bP, 0, none⟩) ∧ Cl4 wB n pl N W1 wx bL bP)
  case first =>
    first
      | go_region_held3 (fun wx => wx.cell? ⟨g1, 0, none⟩ = some sv) ((refine HK.out _ ?_; repeat (first | assumption | refine LtW.alloc ?_ _ | refine LtW.drew ?_ | refine LtW.set ?_ (by simp <;> omega) _))) (first
        | (go_at_call 33; refine (HCl2.out _ ?_).mono ?_; (repeat (first | assumption | refine LtW.alloc ?_ _ | refine LtW.drew ?_ | refine LtW.set ?_ (by simp <;> omega) _)); rintro e w3 ⟨⟨aL, cL, rfl, ho⟩, hb3, hz3⟩; have kc := cells_eq hb3; have kf := frozen_eq hb3; have l3 : LtW W1 w3 := by (refine LtW.step ?_ hb3; repeat (first | assumption | refine LtW.alloc ?_ _ | refine LtW.drew ?_ | refine LtW.set ?_ (by simp <;> omega) _)))
        | (go_at_call 34; refine (HSu2.out _ ?_).mono ?_; (repeat (first | assumption | refine LtW.alloc ?_ _ | refine LtW.drew ?_ | refine LtW.set ?_ (by simp <;> omega) _)); rintro e w5 ⟨rfl, hw5⟩; have hws := hw5.symm; clear hw5; subst hws))
      | fail
    all_goals
      go_wp2_with fail
      go_meet
      have q := ho.own_lt aL rfl
      have h3 := hz3
      simp only [World.size_alloc, World.size_drew, hz1] at q h3
      refine ⟨_, _, rfl, rfl, ⟨⟨aL, cL, by omega, by omega, by omega, by omega, ?_, ?_⟩, ⟨by omega, by omega⟩, ⟨by omega, by omega⟩, by omega, ?_, by simp; omega, ?_⟩⟩
      · repeat (first
          | (refine bx_a _ _ ?_ _ _; first | exact h3 | exact hz1 | (simp; omega); done)
          | (refine bx_s ?_)
          | (refine be_a _ _ ?_ _ _; first | exact h3 | exact hz1 | (simp; omega); done)
          | (refine be_al ?_ _)
          | (refine be_o ?_ ?_ _; rotate_left; omega)
          | (refine be_k hb3 ?_)
          | (refine bx_o ?_ ?_ _; rotate_left; omega)
          | (refine Boxed.alloc ?_ _)
          | (refine bx_k hb3 ?_))
      · refine OI.stay (ho.mono ?_) (fun g e => ?_)
        · first | omega | (simp; omega)
        · have e : aL = g := Option.some.inj e
          subst e
          repeat (first
            | rfl
            | (refine (Lib.alloc_old _ _ _ ?_).trans ?_; (first | omega | (simp; omega)))
            | (refine (hp_o ?_ ?_ _).trans ?_; (first | omega | (simp; omega)); omega))
      · repeat (first
          | (refine bx_a _ _ ?_ _ _; first | exact h3 | exact hz1 | (simp; omega); done)
          | (refine bx_s ?_)
          | (refine be_a _ _ ?_ _ _; first | exact h3 | exact hz1 | (simp; omega); done)
          | (refine be_al ?_ _)
          | (refine be_o ?_ ?_ _; rotate_left; omega)
          | (refine be_k hb3 ?_)
          | (refine bx_o ?_ ?_ _; rotate_left; omega)
          | (refine Boxed.alloc ?_ _)
          | (refine bx_k hb3 ?_))
      · rw [← hz1]
        show LtW W1 _
        repeat (first | exact l3 | refine LtW.alloc ?_ _ | refine LtW.set ?_ (by simp <;> omega) _)
  case rest =>
    obtain ⟨bL, bP, rfl, rfl, hc4⟩ := hcut
    have HC4 := hid hc4
    have hzc := hc4.sz
    have c5 := hc4.bp.cell
    have c6 : ∀ o1 o2 o3, (((wc.alloc o1).alloc o2).alloc o3).cell? ⟨g2, 0, none⟩ = some (.int .i64 mo) := fun o1 o2 o3 => ((HG.out _ (((hc4.be.alloc (by omega) o1).alloc (by simp; omega) o2).alloc (by simp; omega) o3)).2).facts.1
    have hmk := run_mk0 pl (by omega)
    have hmf : ∀ (fn : Fn) (first cap : Array Value) (w : World), (Instr.makeFunc fn first cap).run Try.prog w = .ok (.func fn first cap) w := fun _ _ _ _ => rfl
    obtain ⟨Z, hZ⟩ : ∃ Z, (ic (List.replicate pl 0)).toArray = Z := ⟨_, rfl⟩
    rw [hZ] at hmk
    have HZ := hid hZ
    clear hc4 hZ
    go_wp2_with fail
    obtain ⟨W9, hW9⟩ : ∃ W9, (((wc.alloc (.cells Z 3)).alloc (.cells #[.slice (some ⟨wB + 5, 0, none⟩) 0 pl] 22)).alloc (.cells #[.func (.func 40) #[] (capsF wB bL bP (wB + 5 + 1) (wB + 5 + 1 + 1))] 66)) = W9 := ⟨_, rfl⟩
    have hW9' := hW9
    unfold capsF at hW9'
    rw [hW9']
    obtain ⟨aL, cL, a1, a2, a3, a4, a5, a6⟩ := HC4.out.ex
    have hId : ID wB wB bL aL bP (wB + 6) (wB + 5) (wB + 7) := ⟨rfl, HC4.out.l, ⟨a1, a2⟩, HC4.out.p, a3, HC4.out.lp, a4, rfl, rfl, rfl⟩
    have hb9 : Below (wB + 5) wc W9 := by
      rw [← hW9]
      exact (((Below.refl _ _).alloc (by omega) _).alloc (by simp; omega) _).alloc (by simp; omega) _
    have hz9 : W9.heap.size = wB + 8 := by rw [← hW9]; simp; omega
    have kp : ∀ g, g < wB + 5 → W9.heap[g]? = wc.heap[g]? := fun g hg => hb9.block g hg
    have hF : FwM wB wB bL aL bP (wB + 6) (wB + 5) (wB + 7) n cL pl l W9 N [] := by
      refine ⟨by omega, (kp _ (by omega)).trans ((HC4.out.be.block _ (by omega)).trans y1), (kp _ (by have := HC4.out.l; omega)).trans a5, a6.stay (fun g e => (Option.some.inj (show some aL = some g from e)) ▸ kp _ (by omega)), (kp _ (by have := HC4.out.p; omega)).trans HC4.out.bp, ?_, ?_, ?_, hn⟩
      · rw [← hW9]
        exact (bx_a _ _ (by simp; omega) _ _).alloc _
      · have h5 : W9.heap[wB + 5]? = some (.cells (ic (List.replicate pl 0)).toArray 3 (0, 0)) := by
          rw [← hW9, Lib.alloc_old _ _ _ (by simp; omega), Lib.alloc_old _ _ _ (by simp; omega), HZ.out, ← hzc]
          exact heap_alloc_new wc _
        exact ⟨rfl, .inr ⟨wB + 5, pl, _, rfl, by omega, h5, Nat.zero_le _, by unfold maxLen; omega, by simp [ic], by simp [ic, iN]⟩⟩
      · rw [← hW9]
        exact bx_a _ _ (by simp; omega) _ _
    have hJ9 : J 0 W9 := by
      refine HJ.out 0 W W9 H0.out ⟨?_, ?_, ?_, ?_, ?_⟩
      · rw [hb9.os, HC4.out.be.os, ← hW1]; rfl
      · rw [hb9.tape, HC4.out.be.tape, ← hW1]; rfl
      · rw [hb9.output, HC4.out.be.output, ← hW1]; rfl
      · omega
      · intro k hk _
        rw [kp k (by omega), HC4.out.be.block k (by omega), ← hW1]
        exact Lib.alloc_old W _ k (by omega)
    have HS := hid (callsIn_wide.1 (search_any Bk wB wB bL aL bP (wB + 6) (wB + 5) (wB + 7) n cL pl l hId (by omega) h24 (FL pl N (-1) mo) J Jx HJ.out HJx.out (fun k v A W1 h1 h2 h3 h4 h5 => HY.out k v A W1 h1 h2 h3 h4 h5) pl N [] (-1) mo 0 W9 hpl rfl hF (.inl rfl) hm0 hm1 (fun i x hx => by rw [Nat.zero_add]; exact hx) hJ9))
    clear hF hJ9 kp hb9 hW9 hW9' a5 a6
    refine Calls.mono HS.out ?_
    rintro e W' ⟨b, rfl, hf, hz⟩
    have HZ2 := hid hz
    clear hz hf
    go_wp2
    go_end0
    rcases HZ2.out with ⟨_, hj⟩ | ⟨_, k9, hx⟩
    · rw [Nat.zero_add] at hj
      exact ⟨⟨_, rfl⟩, .inl hj⟩
    · exact ⟨⟨_, rfl⟩, .inr ⟨k9, hx⟩⟩
end Go.Proofs.Ytaiccmbhdgecgaa

namespace Go.Proofs.Ytaiccmbhdgecgaa
open Go.RowKit Go.Shelf
set_option maxRecDepth 100000
set_option linter.unusedVariables false
set_option linter.unusedSimpArgs false
attribute [local go_sem] Oper.semAt_some

/-- has it few mixes -/
def smR (R : List Int) : Bool := decide ((cntA R).2 = 0) && decide ((cntA R).1 ≤ 1048576)
/-- what Few goes over -/
def GL (R : List Int) (mo : Int) : List (List Nat) := if smR R && !decide (mo < 0) then FL (tN2 (nats R)) (nats R) (-1) mo else []
/-- what Few answers -/
def FwQ (R : List Int) (mo : Int) (w' : World) (e : Ending) : Prop := ∃ gf lb c, e = .returned (.func (.func gf) #[] lb) ∧ (∀ args w, (callFunc gf args).run Try.prog w = .ok (.enter gf args) w) ∧ ∀ Bk, SeqC gf lb c w'.heap.size Bk (GL R mo).length (FwV (GL R mo)) w'
theorem none_seqC (B0 Bk : Nat) (D : Nat → World → Value → World → Prop) (w : World) : SeqC 38 #[] 0 B0 Bk 0 D w := fun l J Jx W hW hB hJ hJx hY h0 => by
  refine callsIn_of_wp Try.func38 rfl trivial ?_ rfl
  simp only [Try.ntmps38, List.size_toArray, List.length_cons, List.length_nil, Nat.reduceAdd, Nat.reduceSub, Array.replicate_succ, Array.replicate_zero, List.push_toArray, List.append_toArray, List.nil_append, List.cons_append]
  have H0 := hid h0
  clear hY hJ h0 hJx
  gi_wp2
  go_end0
  exact ⟨⟨_, rfl⟩, .inl H0.out⟩
theorem fwq_none {R : List Int} {mo : Int} (h : (smR R && !decide (mo < 0)) = false) (w' : World) : FwQ R mo w' (.returned (.func (.func 38) #[] #[])) := by
  refine ⟨_, _, 0, rfl, enters_of Try.func38 (by kernel_rfl) rfl, ?_⟩
  have : GL R mo = [] := by unfold GL; rw [h]; rfl
  intro Bk
  rw [this]
  exact none_seqC _ _ _ _
set_option maxHeartbeats 2000000 in
theorem few_any (v : Value) (R : List Int) (mo : Int) (w : World) (hr : RI w v R) (hl : R.length ≤ 9223372036854775807) (hm : -9223372036854775808 ≤ mo ∧ mo ≤ 9223372036854775807) :
    Calls Try.prog 15 #[v, .int .i64 mo] w fun e w' => FwQ R mo w' e ∧ Below w.heap.size w w' := by
  have hmf : ∀ (fn : Fn) (first cap : Array Value) (w : World), (Instr.makeFunc fn first cap).run Try.prog w = .ok (.func fn first cap) w := fun _ _ _ _ => rfl
  have HC := hid (fun W (hb : Below w.heap.size w W) => countR_any v R W (RI.below (w := w) hr hb) hl)
  have HR := hid hr
  obtain ⟨ao, cap, hv⟩ := hr.len0
  subst hv
  clear hr
  obtain ⟨W1, hW1⟩ : ∃ W1, w.alloc (.cells #[.int .i64 mo] 3) = W1 := ⟨_, rfl⟩
  have hb1 : Below w.heap.size w W1 := by rw [← hW1]; exact (Below.refl _ _).alloc (Nat.le_refl _) _
  have HB1 := hid hb1
  have hi1 : IBox W1 w.heap.size mo := by rw [← hW1]; exact heap_alloc_new w _
  have c1 := hi1.facts.1
  have HI1 := hid hi1
  have HC1 := hid (HC.out W1 hb1)
  clear hb1 hi1 HC
  go_enter Try.func15, Try.ntmps15
  go_wp2_with fail
  refine Calls.mono HC1.out ?_
  rintro e w2 ⟨rfl, hw2⟩
  have hws := hw2.symm
  clear hw2
  subst hws
  clear HC1
  obtain ⟨cn, hcn⟩ : ∃ cn, cntA R = cn := ⟨_, rfl⟩
  rw [hcn]
  obtain ⟨n0, e0⟩ := cn
  have HCN := hid hcn
  clear hcn
  by_cases he : e0 = 0
  · subst he
    by_cases hneg : mo < 0
    · have HF := hid (fwq_none (R := R) (mo := mo) (by rw [decide_eq_true hneg]; simp))
      have hdn : decide (mo < 0) = true := decide_eq_true hneg
      go_wp2
      go_ret
      exact ⟨HF.out _, HB1.out⟩
    · have hdn : decide (mo < 0) = false := decide_eq_false hneg
      by_cases hbig : 1048576 < n0
      · have HF := hid (fwq_none (R := R) (mo := mo) (by unfold smR; rw [HCN.out, decide_eq_false (show ¬ n0 ≤ 1048576 by omega)]; simp))
        have hdb : decide (1048576 < n0) = true := decide_eq_true hbig
        go_wp2
        go_ret
        exact ⟨HF.out _, HB1.out⟩
      · have hdb : decide (1048576 < n0) = false := decide_eq_false hbig
        obtain ⟨N, hN, a1, a2, a3, a4, a5⟩ := cnt_ok (show (cntA R).2 = 0 by rw [HCN.out])
        have HG := hid (show GL R mo = FL (tN2 N) N (-1) mo by
          unfold GL smR
          rw [HCN.out, decide_eq_true (show n0 ≤ 1048576 by omega), decide_eq_false hneg, hN, iN_nats]
          rfl)
        have HA := hid (And.intro a1 (And.intro a2 a3))
        have HCl := hid (show Calls Try.prog 33 #[.slice ao R.length cap] W1 fun e w' => (∃ v', e = .returned v' ∧ OI w' W1.heap.size v' (iN N)) ∧ Below W1.heap.size W1 w' by rw [← hN]; exact le_clone_any _ R W1 (HR.out.below HB1.out) (by rw [hN, iN_len]; omega))
        clear hN a1 a2 a3 a4 a5
        go_wp2_with fail
        refine Calls.mono HCl.out ?_
        rintro e w3 ⟨⟨v', rfl, ho⟩, hb3⟩
        obtain ⟨a5, c5, hv5⟩ := ho.reads.len0
        rw [iN_len] at hv5
        subst hv5
        obtain ⟨W4, hW4⟩ : ∃ W4, w3.alloc (.cells #[.slice a5 N.length c5] 22) = W4 := ⟨_, rfl⟩
        have hz1 := HI1.out.facts.2.2
        have hzb := hb3.size
        have HX := hid (show Boxed W4 w3.heap.size 22 (.slice a5 N.length c5) ∧ IBox W4 w.heap.size mo ∧ OI W4 W1.heap.size (.slice a5 N.length c5) (iN N) ∧ Below w.heap.size w W4 ∧ W4.heap.size = w3.heap.size + 1 by
          rw [← hW4]
          refine ⟨Boxed.new w3 _ _, ?_, ho.alloc _, (HB1.out.trans (hb3.mono HB1.out.size)).alloc (by have := HB1.out.size; omega) _, by simp⟩
          exact (Lib.alloc_old _ _ _ (by omega)).trans ((hb3.block _ hz1).trans HI1.out))
        clear ho hb3 HCl
        go_wp2
        go_ret
        refine ⟨⟨_, _, 8, rfl, enters_of Try.func39 (by kernel_rfl) rfl, ?_⟩, HX.out.2.2.2.1⟩
        intro Bk
        rw [HG.out]
        have hz4 := HX.out.2.2.2.2
        exact few_seq w3.heap.size w.heap.size _ Bk _ N mo _ HA.out.1 HA.out.2.1 HA.out.2.2 (by omega) hm.2 (by omega) (by omega) HX.out.1 HX.out.2.1 HX.out.2.2.1.reads (Nat.le_refl _) (fun W hb => HX.out.2.2.1.reads.below hb)
  · have HF := hid (fwq_none (R := R) (mo := mo) (by unfold smR; rw [HCN.out, decide_eq_false (show ¬ e0 = 0 from he)]; simp))
    have heb : (e0 == 0) = false := by simpa using he
    go_wp2
    go_ret
    exact ⟨HF.out _, HB1.out⟩
theorem mixes_any (v : Value) (R : List Int) (w : World) (hr : RI w v R) (hl : R.length ≤ 9223372036854775807) :
    Calls Try.prog 14 #[v] w fun e w' => FwQ R 24 w' e ∧ Below w.heap.size w w' := by
  have H := hid (few_any v R 24 w hr hl (by omega))
  obtain ⟨ao, cap, hv⟩ := hr.len0
  subst hv
  clear hr
  go_enter Try.func14, Try.ntmps14
  go_wp2_with fail
  refine Calls.mono H.out ?_
  rintro e w2 ⟨⟨gf, lb, c, rfl, hq⟩, hb⟩
  have HQ := hid hq
  have HB := hid hb
  clear hq hb H
  go_wp2
  go_ret
  exact ⟨⟨gf, lb, c, rfl, HQ.out⟩, HB.out⟩
end Go.Proofs.Ytaiccmbhdgecgaa

namespace Go.Proofs.Ytaiccmbhdgecgaa
open Go.RowKit
set_option maxRecDepth 100000

theorem fac_le : ∀ n, n ≤ 6 → fac n ≤ 720 := by decide
/-- of few picks there are few mixes: all of them -/
theorem small_all (K : List Nat) (hx : ∀ x ∈ K, x < 16) (h6 : K.length ≤ 6) : GL (iN (C16 K)) 24 = AL K.length (C16 K) ∧ mN (C16 K) ≤ 720 ∧ smR (iN (C16 K)) = true := by
  have hct := ctof16 K hx
  have ht := hct.t
  have hsk : stOk (iN (C16 K)) = true := stOk_mk ((okN_iff _).2 (by rw [C16_len]; decide)) (by rw [ht]; omega)
  have hm : mN (C16 K) ≤ 720 := by
    have h1 := cN_pf (C16 K) (C16 K).length (by show tN2 (C16 K) ≤ 24; rw [ht]; omega)
    have h2 : sN (C16 K) (C16 K).length = K.length := ht
    rw [h2] at h1
    have h3 := fac_le K.length h6
    have h4 := pf_pos (C16 K) (C16 K).length
    have h5 : mN (C16 K) ≤ mN (C16 K) * pf (C16 K) (C16 K).length := Nat.le_mul_of_pos_right _ h4
    have h6 : mN (C16 K) * pf (C16 K) (C16 K).length = fac K.length := h1
    omega
  have hc := cntA_is (C16 K) hsk
  rw [if_pos (by omega)] at hc
  have hs : smR (iN (C16 K)) = true := by
    unfold smR
    rw [hc, decide_eq_true rfl, decide_eq_true (show ((mN (C16 K) : Nat) : Int) ≤ 1048576 by omega)]
    rfl
  refine ⟨?_, hm, hs⟩
  unfold GL
  rw [hs, iN_nats, ht, if_pos (by decide), FL_is _ _ _ _ (by decide)]
  rw [List.filter_eq_self]
  intro x hxm
  obtain ⟨i, hi, rfl⟩ := List.getElem_of_mem hxm
  have hmx := AL_mx K.length (C16 K) ht (by omega) i _ (List.getElem?_eq_getElem hi)
  rw [swc_mx hmx (by rw [C16_len]; decide)]
  have hl := mx_len hmx (by rw [ht]; omega)
  have := cS_le (AL K.length (C16 K))[i] (AL K.length (C16 K))[i].length
  exact decide_eq_true (by omega)
theorem count_onl (K : List Nat) (i : Nat) : (onl (iN K) (i : Int) (i : Int)).length = K.count i := by
  induction K with
  | nil => rfl
  | cons x t ih =>
    show (onl ((x : Int) :: iN t) (i : Int) (i : Int)).length = _
    rw [onl_cons, List.count_cons]
    by_cases e : x = i
    · rw [if_pos (.inl (by omega)), if_pos (by simp [e]), List.length_cons, ih]
    · rw [if_neg (by omega), if_neg (by simpa using e), ih]
      rfl
theorem iN_16 {K : List Nat} (hx : ∀ x ∈ K, x < 16) : ∀ x ∈ iN K, 0 ≤ x ∧ x < 16 := by
  intro x hxm
  unfold iN at hxm
  rw [List.mem_map] at hxm
  obtain ⟨y, hy, rfl⟩ := hxm
  have := hx y hy
  omega
/-- what is known of the picks and their least -/
structure SmL (K : List Nat) (P : List Pr) (M : List Nat) (n : Nat) : Prop where
  hx : ∀ x ∈ K, x < 16
  h6 : K.length ≤ 6
  ok : leE (iN K) P = 0
  lst : leL (iN K) P = iN M
  pos : (AL K.length (C16 K))[n]? = some M
  alk : Alk P (iN M) (iN K)
theorem sml_ex (K : List Nat) (P : List Pr) (hx : ∀ x ∈ K, x < 16) (h6 : K.length ≤ 6) (ok : leE (iN K) P = 0) : ∃ M n, SmL K P M n := by
  have hsw := (leL_lst ok).reach (arP_sym P)
  have hin : inB (leL (iN K) P) 16 = true := by
    rw [inB_iff]
    intro i hi
    exact iN_16 hx _ (hsw.mem _ (List.getElem_mem hi))
  obtain ⟨M, hM, hMx⟩ := nat_list hin
  have hcnt : ∀ i, M.count i = K.count i := by
    intro i
    rw [← count_onl, ← count_onl, ← hM, leL_only ok (i : Int) (i : Int) (arP_irr _ _)]
  have hct := ctof16 K hx
  obtain ⟨n, hn, _⟩ := mx_of M (C16 K) (fun i => by rw [hcnt, hct.1]) (fun x hm => by rw [C16_len]; exact hMx x hm) (by rw [hct.t]; omega)
  exact ⟨M, n, hx, h6, ok, hM, AL_at K.length (C16 K) n M hct.t (by omega) hn, fun a b _ _ _ hab => by rw [← hM]; exact leL_only ok _ _ hab⟩
theorem SmL.first {K : List Nat} {P : List Pr} {M : List Nat} {n k : Nat} {X : List Nat} (h : SmL K P M n) (hX : (AL K.length (C16 K))[k]? = some X) (ha : Alk P (iN X) (iN K)) (hno : ∀ i Y, i < k → (AL K.length (C16 K))[i]? = some Y → ¬ Alk P (iN Y) (iN K)) : X = M := by
  have hct := ctof16 K h.hx
  have h24 : K.length ≤ 24 := by have := h.h6; omega
  have mX := AL_mx K.length (C16 K) hct.t h24 k X hX
  have mM := AL_mx K.length (C16 K) hct.t h24 n M h.pos
  have hnk : ¬ n < k := fun e => hno n M e h.pos h.alk
  have hX16 := iN_16 (K := X) (fun y hy => by have := mx_in mX y hy; rwa [C16_len] at this)
  have hK16 := iN_16 h.hx
  have hs : Swps (arP P) (iN K) (iN X) := alike_swps (arP_sym P) (arP_irr P) (iN X) (iN K) (fun a b hab => (alike_all hX16 hK16 ha a b hab).symm)
  have hl := ((leL_lst h.ok).swps hs).not_above
  rw [h.lst] at hl
  rcases Nat.lt_or_ge k n with e | e
  · have := mx_below X (C16 K) k n M mX mM e
    rw [hl] at this
    cases this
  · obtain rfl : k = n := by omega
    have := h.pos
    rw [hX] at this
    injection this
theorem SmL.lt {K : List Nat} {P : List Pr} {M : List Nat} {n : Nat} (h : SmL K P M n) : n < (AL K.length (C16 K)).length := (List.getElem?_eq_some_iff.1 h.pos).1
end Go.Proofs.Ytaiccmbhdgecgaa

namespace Go.Proofs.Ytaiccmbhdgecgaa
open Go.RowKit Go.Shelf
set_option maxRecDepth 100000
set_option linter.unusedVariables false
set_option linter.unusedSimpArgs false
attribute [local go_sem] Oper.semAt_some
attribute [local go_sem ↓] apN_op mki_op

theorem seq_not (fn : Fn) (fi ca : Array Value) (w : World) : (binOp .eql 32 (.func fn fi ca) .nilFunc).run Try.prog w = .ok (.bool false) w := eql_func_nil w Try.underlying32 fn fi ca
theorem results_cellS {fn : Func} {p : Tmp} (h : fn.results = #[.cell p 4]) (tmps : Array Value) (w : World) (g : Nat) (b : Bool) (hp : tmps.getD p undef = .pointer (some ⟨g, 0, none⟩)) (hc : w.cell? ⟨g, 0, none⟩ = some (.bool b)) : (results fn tmps).run Try.prog w = .ok (.bool b) w := by
  have hp' : tmps[p]?.getD undef = .pointer (some ⟨g, 0, none⟩) := by simpa using hp
  simp [results, h, hp', asAddr, go_sem, hc]
/-- append of one int, run -/
theorem run_appO {w : World} {base : Nat} {v : Value} {L : List Int} (ho : OI w base v L) (x : Int) (hl : L.length ≤ 1000000) (hb : base ≤ w.heap.size) :
    ∃ v' w', (apN #[v, .slice (some ⟨w.heap.size, 0, none⟩) 1 1]).run Try.prog (w.alloc (.cells #[.int .i64 x] 3)) = .ok v' w' ∧ OI w' base v' (L ++ [x]) ∧ (w.alloc (.cells #[.int .i64 x] 3)).grownBy w' v.ownBlock := by
  obtain ⟨i, hi, hz, hsz, hby⟩ := info_parts intinfo
  obtain ⟨v', w', hr, h1, h2, _⟩ := run_append_own (P := Try.prog) (w.alloc (.cells #[.int .i64 x] 3)) base 22 22 3 i (.int .i64 0) 1 8 Try.underlying22 hi hz hsz hby rfl (by decide) v L.length (ic L) (ho.alloc _) ⟨w.heap.size, 0, none⟩ 1 1 [.int .i64 x] rfl (fun j u hu => by
    match j, hu with
    | 0, hu =>
      injection hu with hu
      subst hu
      rw [Addr.add_lit]
      exact Lib.cell_of_heap (heap_alloc_new w _) 0
    | j + 1, hu => cases hu) (fun u hu => by rw [List.mem_singleton.1 hu]; rfl) (by unfold maxLen; omega) (by omega) (by simp; omega)
  refine ⟨v', w', hr, ?_, h2⟩
  unfold OI
  rw [ic_app, List.length_append]
  exact h1
/-- the law's boxes: the pairs, the result, few -/
structure SmB (B : Nat) (w : World) (vp : Value) (wx : World) (vf : Value) (F : List Int) : Prop where
  p : Boxed wx B 38 vp
  r : Boxed wx (B + 1) 4 (.bool false)
  f : Boxed wx (B + 2) 22 vf
  o : OI wx (B + 3) vf F
  be : Below B w wx
  sz : B + 3 ≤ wx.heap.size
theorem SmB.app {B : Nat} {w : World} {vp : Value} {wx w7 : World} {vf v' : Value} {F : List Int} {x : Int} (h : SmB B w vp wx vf F) (o : Obj) (ho : OI w7 (B + 3) v' (F ++ [x])) (hg : (wx.alloc o).grownBy w7 vf.ownBlock) : SmB B w vp (w7.setCell ⟨B + 2, 0, none⟩ v') v' (F ++ [x]) ∧ w7.cell? ⟨B + 2, 0, none⟩ = some vf ∧ w7.frozen? ⟨B + 2, 0, none⟩ = false := by
  have hz := h.sz
  have hzg : wx.heap.size + 1 ≤ w7.heap.size := by have := hg.size; simpa using this
  have old : ∀ g, g < B + 3 → w7.heap[g]? = wx.heap[g]? := fun g hlt => (hg.block g (by simp; omega) (fun e => by have := (h.o.own_lt g e.symm).1; omega)).trans (Lib.alloc_old wx o g (by omega))
  have hf7 : Boxed w7 (B + 2) 22 vf := (old _ (by omega)).trans h.f
  have gb := gb_set w7 (B + 2) 0 v'
  have old2 : ∀ g, g < B + 2 → (w7.setCell ⟨B + 2, 0, none⟩ v').heap[g]? = wx.heap[g]? := fun g hlt => (gb.block g (by omega) (fun e => by injection e with e; omega)).trans (old g (by omega))
  refine ⟨⟨(old2 _ (by omega)).trans h.p, (old2 _ (by omega)).trans h.r, hf7.set v', ho.stay (fun g hg' => gb.block g (ho.own_lt g hg').2 (fun e => by injection e with e; have := (ho.own_lt g hg').1; omega)), ?_, by simp; omega⟩, hf7.cell, hf7.frozen⟩
  have hal := alloc_below wx o
  exact h.be.trans ⟨by show w7.os = _; rw [hg.os, hal.os], by show w7.tape = _; rw [hg.tape, hal.tape], by show w7.output = _; rw [hg.output, hal.output], by simp; omega, fun k hk => old2 k (by omega)⟩
theorem SmB.later {B : Nat} {w : World} {vp : Value} {wx wy : World} {vf : Value} {F : List Int} (h : SmB B w vp wx vf F) (hb : Below wx.heap.size wx wy) : SmB B w vp wy vf F :=
  ⟨(hb.block _ h.p.lt).trans h.p, (hb.block _ h.r.lt).trans h.r, (hb.block _ h.f.lt).trans h.f, h.o.below hb, h.be.trans (hb.mono (by have := h.sz; omega)), Nat.le_trans h.sz hb.size⟩
theorem SmB.alloc {B : Nat} {w : World} {vp : Value} {wx : World} {vf : Value} {F : List Int} (h : SmB B w vp wx vf F) (o : Obj) : SmB B w vp (wx.alloc o) vf F := h.later (alloc_below wx o)
set_option maxHeartbeats 20000000 in
theorem small_law (v vp : Value) (R : List Int) (P : List Pr) (w : World) (hr : RI w v R) (hp : PL w vp P) (hl : R.length * 8 ≤ reachBytes) (hl2 : P.length * 16 ≤ reachBytes) :
    Calls Try.prog 5 #[v, vp] w fun e w' => e = .returned (.bool true) ∧ Below w.heap.size w w' := by
  have hrb : reachBytes = 140737488351232 := rfl
  have HR := hid hr
  have HP := hid hp
  obtain ⟨ao, cap, hv⟩ := hr.len0
  subst hv
  obtain ⟨apo, apc, hvp, _⟩ := hp
  subst hvp
  have hRl : (R.length : Int) ≤ 17592186043904 := by omega
  obtain ⟨W0, hW0⟩ : ∃ W0, ((w.alloc (.cells #[.slice apo P.length apc] 38)).alloc (.cells #[.bool false] 4)).alloc (.cells #[.slice none 0 0] 22) = W0 := ⟨_, rfl⟩
  obtain ⟨B, hB⟩ : ∃ B, w.heap.size = B := ⟨_, rfl⟩
  have HS0 := hid (show SmB B w (.slice apo P.length apc) W0 (.slice none 0 0) [] by
    rw [← hW0]
    refine ⟨((bx_a w B hB _ _).alloc _).alloc _, (bx_a _ _ (by simp; omega) _ _).alloc _, bx_a _ _ (by simp; omega) _ _, OI.nil _ _, ?_, by simp; omega⟩
    exact (((Below.refl _ _).alloc (by omega) _).alloc (by simp; omega) _).alloc (by simp; omega) _)
  clear hr
  refine (callsIn_wide (n := 5)).1 ?_
  refine callsIn_of_wp_marks Try.func5 rfl trivial ?_ rfl
  simp only [Try.ntmps5, List.size_toArray, List.length_cons, List.length_nil, Nat.reduceAdd, Nat.reduceSub, Array.replicate_succ, Array.replicate_zero, List.push_toArray, List.append_toArray, List.nil_append, List.cons_append]
  gi_wp2_with fail
  try rw [hW0]
  try rw [hB]
  try simp only [Nat.add_assoc, Nat.reduceAdd]
  gi_loopw [6] (fun vi wx => ∃ (i : Nat) (vf : Value), i ≤ R.length ∧ i ≤ 6 ∧ vi = .int .i64 (i : Int) ∧ SmB B w (.slice apo P.length apc) wx vf (R.take i)) (fun vi _ => 6 - (intOf vi).toNat)
  case atStart => exact ⟨0, _, Nat.zero_le _, by omega, rfl, HS0.out⟩
  case round =>
    obtain ⟨i, vf, hi, hi6, rfl, hs⟩ := hrel
    have HS := hid hs
    clear hs HS0
    by_cases hgo : i < R.length ∧ i < 6
    · obtain ⟨g1, g2⟩ := hgo
      have g1I : (i : Int) < (R.length : Int) := by omega
      have g2I : (i : Int) < 6 := by omega
      obtain ⟨_, _, hvs, _, _, hcell⟩ := (show RI wr (.slice ao R.length cap) R from HR.out.below (hB ▸ HS.out.be))
      obtain ⟨g, off, hao, c0⟩ := hcell i g1
      injection hvs with e1 e2 e3
      subst e1 e3 hao
      have f0 := HS.out.f.cell
      have HT := hid (show R.take (i + 1) = R.take i ++ [R[i]] by rw [List.take_add_one, List.getElem?_eq_getElem g1]; rfl)
      obtain ⟨v', w7, hap, ho7, hg7⟩ := run_appO (w := wr.drew) HS.out.o R[i] (by rw [List.length_take]; omega) (by have := HS.out.sz; show B + 3 ≤ wr.heap.size; omega)
      generalize R[i] = x at *
      obtain ⟨s1, s2, s3⟩ := HS.out.app (.cells #[.int .i64 x] 3) ho7 (show (wr.alloc (.cells #[.int .i64 x] 3)).grownBy w7 vf.ownBlock from ⟨hg7.os, hg7.tape, hg7.output, hg7.size, hg7.block⟩)
      have HS7 := hid s1
      obtain ⟨ao8, c8, hv8⟩ := ho7.reads.len0
      obtain ⟨ao9, c9, hv9⟩ := HS.out.o.reads.len0
      subst hv8 hv9
      clear hcell ho7 hg7 s1 e2
      replace hap : (apN #[.slice ao9 (R.take i).length c9, .slice (some ⟨wr.heap.size, 0, none⟩) 1 1]).run Try.prog ((wr.alloc (.cells #[.int .i64 x] 3)).drew) = .ok (.slice ao8 (R.take i ++ [x]).length c8) w7 := hap
      have f1 : ((wr.alloc (.cells #[.int .i64 x] 3)).drew).cell? ⟨B + 2, 0, none⟩ = some (.slice ao9 (R.take i).length c9) := (HS.out.f.alloc _).cell
      have hti : (R.take i).length = i := by rw [List.length_take]; omega
      have hti2 : (R.take i ++ [x]).length = i + 1 := by rw [List.length_append, hti]; rfl
      rw [hti] at hap f0 f1 s2
      rw [hti2] at hap HS7
      clear hti hti2
      have hiw : IntKind.i64.wrap (i : Int) = (i : Int) := by rw [IntKind.wrap_i64]; omega
      have hi0 : (0 : Int) ≤ (i : Int) := by omega
      gi_wp2_with fail
      gi_region
      all_goals
        gi_wp2
        go_roundw
        case rel => exact ⟨i + 1, _, by omega, by omega, by go_num, by rw [HT.out]; exact HS7.out⟩
        case measure => simp [intOf]; omega
    · obtain ⟨F, hF⟩ : ∃ F, R.take i = F := ⟨_, rfl⟩
      have hFl : F.length = i := by rw [← hF, List.length_take]; omega
      have HSF := hid (show SmB B w (.slice apo P.length apc) wr vf F by rw [← hF]; exact HS.out)
      have HLe := hid (least_any vf (.slice apo P.length apc) F P wr HSF.out.o.reads (HP.out.below (hB ▸ HSF.out.be)) (by omega) (by omega))
      have f0 := HSF.out.f.cell
      have p0 := HSF.out.p.cell
      obtain ⟨ao9, c9, hv9⟩ := HSF.out.o.reads.len0
      subst hv9
      rw [hFl] at HLe HSF f0
      have hgo2 : ¬ (i : Int) < (R.length : Int) ∨ ((i : Int) < (R.length : Int) ∧ ¬ (i : Int) < 6) := by omega
      have h6 : i ≤ 6 := hi6
      clear hgo HS hF hi6
      have HLi := hid (fun W => lives_any W)
      rcases hgo2 with h1I | ⟨h1I, h2I⟩
      all_goals
        gi_wp2_with fail
        refine ⟨trivial, (callsIn_wide.2 HLe.out).mono ?_⟩
        rintro e w1 ⟨⟨va, rfl, hoa⟩, hb1⟩
        have HS1 := hid (HSF.out.later hb1)
        have HOa := hid hoa
        obtain ⟨aoa, ca, hva⟩ := hoa.reads.len0
        subst hva
        have hB1 := HS1.out.be
        clear hoa hb1 HLe f0 p0
        by_cases hE : leE F P = 0
        · obtain ⟨q1, _, q3, _⟩ := (leE_zero F P).1 hE
          obtain ⟨K, hK, hx⟩ := nat_list q3
          subst hK
          have hKl : K.length = i := by rw [← hFl, iN_len]
          obtain ⟨M, n, hsm⟩ := sml_ex K P hx (by omega) hE
          have HM := hid hsm
          rw [hsm.lst, hE]
          rw [hsm.lst] at HOa
          have hML : (iN M).length = i := by rw [← hsm.lst, leL_len hE, iN_len, hKl]
          rw [hML] at HOa
          rw [hML]
          obtain ⟨W2, hW2⟩ : ∃ W2, w1.alloc (.cells #[.slice aoa i ca] 22) = W2 := ⟨_, rfl⟩
          have hS2 := HS1.out.alloc (.cells #[.slice aoa i ca] 22)
          rw [hW2] at hS2
          have HS2 := hid hS2
          have HA2 := hid (show Boxed W2 w1.heap.size 22 (.slice aoa i ca) ∧ OI W2 B (.slice aoa i ca) (iN M) by rw [← hW2]; exact ⟨Boxed.new w1 _ _, (HOa.out.alloc _).mono (by have := HSF.out.sz; omega)⟩)
          have hm : ∀ w : World, (mkI (.int .i64 16) (.int .i64 16)).run Try.prog w = .ok (.slice (some ⟨w.heap.size, 0, none⟩) 16 16) (w.alloc (.cells (ic (List.replicate 16 0)).toArray 3)) := run_mkI 16 (by omega)
          obtain ⟨Z, hZ⟩ : ∃ Z, (ic (List.replicate 16 0)).toArray = Z := ⟨_, rfl⟩
          rw [hZ] at hm
          have HZ := hid hZ
          have HKl := hid hKl
          have HIn := hid hx
          have hb13 : B + 3 ≤ w1.heap.size := HS1.out.sz
          clear hS2 hE hsm hML hKl hx q1 q3 hZ hB1 HS1 HOa
          have hz2 : W2.heap.size = w1.heap.size + 1 := by rw [← hW2, World.size_alloc]
          gi_wp2_with fail
          obtain ⟨W3, hW3⟩ : ∃ W3, W2.alloc (.cells Z 3) = W3 := ⟨_, rfl⟩
          try rw [hW3]
          have HRo := hid (show RowI W3 W2.heap.size (cR K 0) ∧ Below W2.heap.size W2 W3 by rw [← hW3, ← HZ.out]; exact ⟨heap_alloc_new W2 _, alloc_below _ _⟩)
          clear hm hW3 HZ
          obtain ⟨g, hg1⟩ : ∃ g, w1.heap.size + 1 = g := ⟨_, rfl⟩
          have hg : W2.heap.size = g := hz2.trans hg1
          rw [hg] at HRo
          rw [hg1]
          clear hz2
          gi_loopw [10] (fun vj wx => ∃ j : Nat, j ≤ i ∧ vj = .int .i64 (j : Int) ∧ RowI wx g (cR K j) ∧ Below g W2 wx) (fun vj _ => i - (intOf vj).toNat)
          case atStart => exact ⟨0, Nat.zero_le _, rfl, HRo.out.1, HRo.out.2⟩
          case round =>
            obtain ⟨j, hj, rfl, hro, hbe⟩ := hrel
            have HRj := hid hro
            have HBj := hid hbe
            have HSj := hid (HS2.out.later (hg ▸ hbe))
            have f0 := HSj.out.f.cell
            clear hro hbe HRo
            by_cases h : j < i
            · have hI : (j : Int) < (i : Int) := by omega
              have hjK : j < K.length := by rw [HKl.out]; exact h
              obtain ⟨_, _, hvs, _, _, hcell⟩ := HSj.out.o.reads
              obtain ⟨gf, off, hao, c0⟩ := hcell j (by rw [iN_len]; exact hjK)
              have hao2 : ao9 = some ⟨gf, off, none⟩ := by injection hvs with e1 e2 e3; rw [e1, hao]
              subst hao2
              rw [iN_at K j _ hjK] at c0
              have hx := HIn.out K[j] (List.getElem_mem _)
              have HSt := hid (show cR K (j + 1) = (cR K j).set K[j] ((cR K j).getD K[j] 0 + 1) by rw [← gN K j hjK]; rfl)
              have hy := cR_le K j K[j]
              have k0 := HRj.out.cell K[j] (by rw [cR_len]; exact hx)
              have k1 := HRj.out.frozen K[j]
              have HPu := hid (HRj.out.put K[j] ((cR K j).getD K[j] 0 + 1))
              have HB2 := hid (show Below g W2 (wr.setCell ⟨g, K[j], none⟩ (.int .i64 ((cR K j).getD K[j] 0 + 1))) from HBj.out.setCell (Nat.le_refl _) _)
              rw [← HSt.out] at HPu
              clear hcell hvs hao
              generalize (cR K j).getD K[j] 0 = y at *
              generalize K[j] = x at *
              have hxI : (x : Int) < 16 := by omega
              have hx0 : ¬ (x : Int) < 0 := by omega
              have hx1 : ¬ (16 : Int) ≤ (x : Int) := by omega
              have hyI : y ≤ 24 := by omega
              have hy0 : 0 ≤ y := hy.1
              clear hy
              gi_wp2
              go_roundw
              case rel => exact ⟨j + 1, by omega, by go_num, HPu.out, HB2.out⟩
              case measure => simp [intOf]; omega
            · have hI : ¬ (j : Int) < (i : Int) := by omega
              have hji : j = i := by omega
              have HRC := hid (show RowI wr g (iN (C16 K)) by
                have := HRj.out
                rw [cR_is K HIn.out j (by rw [HKl.out]; exact hj), hji, ← HKl.out, List.take_length] at this
                exact this)
              have HMi := hid (show Calls Try.prog 14 #[.slice (some ⟨g, 0, none⟩) 16 16] wr fun e w' => FwQ (iN (C16 K)) 24 w' e ∧ Below wr.heap.size wr w' by
                have h1 := HRC.out.reads
                rw [iN_len, C16_len] at h1
                exact mixes_any _ _ wr h1 (by rw [iN_len, C16_len]; decide))
              clear hji h
              gi_wp2_with fail
              refine ⟨trivial, (callsIn_wide.2 HMi.out).mono ?_⟩
              rintro e w4 ⟨⟨gf, lb, c, rfl, heg, hsq⟩, hb4⟩
              have hnn := seq_not (.func gf) #[] lb
              have HEg := hid heg
              have HSq := hid hsq
              have hb24 : Below g W2 w4 := HBj.out.trans (hb4.mono (by have := HBj.out.size; omega))
              have HS4 := hid (HS2.out.later (hg ▸ hb24))
              have HA4 := hid (show Boxed w4 w1.heap.size 22 (.slice aoa i ca) ∧ OI w4 B (.slice aoa i ca) (iN M) from ⟨(hb24.block _ (by omega)).trans HA2.out.1, HA2.out.2.below (hg ▸ hb24)⟩)
              clear heg hsq hb4 hb24 HMi
              obtain ⟨hGe, hm720, _⟩ := small_all K HIn.out (by rw [HKl.out]; omega)
              rw [hGe] at HSq
              obtain ⟨AG, hAG⟩ : ∃ AG, AL K.length (C16 K) = AG := ⟨_, rfl⟩
              rw [hAG] at HSq
              have HAG := hid hAG
              have HBl := hid (HS4.out.be)
              have hw4 : B + 3 ≤ w4.heap.size := HS4.out.sz
              have ha4 : w1.heap.size < w4.heap.size := HA4.out.1.lt
              clear hGe hm720 hAG
              gi_wp2_with fail
              refine range_r3 (q := 12) (w0 := w4) (gf := gf) (lb := lb) (c := c) (Bk := 0) (n := AG.length) (D := FwV AG) rfl HEg.out (HSq.out 0) (Nat.zero_le _) (Below.refl _ _) (fun k W => Below w4.heap.size w4 W ∧ ∀ i' Y, i' < k → AG[i']? = some Y → ¬ Alk P (iN Y) (iN K)) (fun _ W => Boxed W (B + 1) 4 (.bool true) ∧ Below B w W ∧ w4.heap.size ≤ W.heap.size) ?_ ?_ ?_ ?_ ?_ ?_ ?_
              · skip
                rintro k A A' ⟨h1, h2⟩ hc
                exact ⟨hc.below h1 (Nat.le_refl _) (Nat.le_refl _), h2⟩
              · skip
                rintro k A A' ⟨h1, h2, h3⟩ hc
                exact ⟨(hc.block _ h1.lt (by omega)).trans h1, hc.below h2 (by omega) (by omega), Nat.le_trans h3 hc.size⟩
              · exact ⟨Below.refl _ _, fun i' Y hi' => by omega⟩
              · skip
                intro l x W K' hK'
                have HKK := hid hK'
                clear hK'
                gi_wp2
                exact HKK.out
              · skip
                rintro l k x A W1 W ⟨hIb, hno⟩ hk hAW hD hc hz hsz
                obtain ⟨X, hX⟩ : ∃ X, AG[k]? = some X := ⟨_, List.getElem?_eq_getElem hk⟩
                have hD2 : OI W1 A.heap.size x (iN X) := by
                  have : AG.getD k [] = X := by rw [List.getD_eq_getElem?_getD, hX]; rfl
                  have hd := hD
                  unfold FwV at hd
                  rw [this] at hd
                  exact hd
                have hoX : OI W A.heap.size x (iN X) := hD2.stay (fun g hg => hc.block g (hD2.own_lt g hg).2 (by have := (hD2.own_lt g hg).1; omega))
                have hbW : Below w4.heap.size w4 W := hc.below (hIb.trans (hAW.mono hIb.size)) (Nat.le_refl _) (Nat.le_refl _)
                have HSW := hid (HS4.out.later hbW)
                have HAW := hid (show Boxed W w1.heap.size 22 (.slice aoa i ca) ∧ OI W B (.slice aoa i ca) (iN M) from ⟨(hbW.block _ ha4).trans HA4.out.1, HA4.out.2.below hbW⟩)
                have hXl : X.length = K.length := by
                  have hmx := AL_mx K.length (C16 K) (ctof16 K HIn.out).t (by rw [HKl.out]; omega) k X (by rw [HAG.out]; exact hX)
                  rw [mx_len hmx (by rw [(ctof16 K HIn.out).t, HKl.out]; omega), (ctof16 K HIn.out).t]
                obtain ⟨ax, cx, hvx⟩ := hoX.reads.len0
                rw [iN_len, hXl, HKl.out] at hvx
                subst hvx
                have hp1 : PL W (.slice apo P.length apc) P := HP.out.below ((by rw [hB]; exact HSW.out.be) : Below w.heap.size w W)
                have HAk := hid (alikeB_any _ (.slice ao9 i c9) (.slice apo P.length apc) (iN X) (iN K) P W hoX.reads HSW.out.o.reads hp1 (by omega) (by rw [iN_len, hXl, HKl.out]; omega) (by rw [iN_len, iN_len, hXl]))
                have HOX := hid hoX
                have HX := hid hX
                have HNo := hid hno
                have HBW := hid hbW
                have HXl := hid hXl
                have HZA := hid (show w4.heap.size + 2 + c ≤ W.heap.size by have := hAW.size; omega)
                have fW := HSW.out.f.cell
                have pW := HSW.out.p.cell
                clear hIb hno hk hAW hD hc hz hsz hX hD2 hoX hbW hXl hp1
                simp only [List.setIfInBounds_toArray, List.set_cons_succ, List.set_cons_zero]
                gi_wp2_with fail
                refine ⟨trivial, ((callsIn_wide.2 HAk.out).inRound l).mono ?_⟩
                rintro e w5 ⟨⟨b, rfl, hb⟩, hb5⟩
                have HBb := hid hb
                have HB5 := hid (HBW.out.trans (hb5.mono HBW.out.size))
                have HX5 := hid (HOX.out.below hb5)
                have HA5 := hid (show Boxed w5 w1.heap.size 22 (.slice aoa i ca) ∧ OI w5 B (.slice aoa i ca) (iN M) from ⟨(hb5.block _ HAW.out.1.lt).trans HAW.out.1, HAW.out.2.below hb5⟩)
                have HS5 := hid (HSW.out.later hb5)
                have HK5 := hid (show KpW 0 w4.heap.size (c + 2) W w5 from ⟨hb5.size, fun k' hk' => hb5.block k' (by have := HZA.out; omega)⟩)
                clear hb hb5 HAk HOX HAW HSW fW pW
                cases b with
                | false =>
                  have HN := hid (show ∀ i' Y, i' < k + 1 → AG[i']? = some Y → ¬ Alk P (iN Y) (iN K) from fun i' Y hi' hY' ha => by
                    by_cases e : i' = k
                    · subst e
                      rw [HX.out] at hY'
                      injection hY' with e2
                      subst e2
                      have := HBb.out.2 ha
                      cases this
                    · exact HNo.out i' Y (by omega) hY' ha)
                  gi_wp2
                  exact .inl ⟨rfl, HK5.out, HB5.out, HN.out⟩
                | true =>
                  have hXM : X = M := HM.out.first (k := k) (by rw [HAG.out]; exact HX.out) (HBb.out.1 rfl) (fun i' Y hi' hY' => HNo.out i' Y hi' (by rw [← HAG.out]; exact hY'))
                  have HSm := hid (same_any (.slice ax i cx) (.slice aoa i ca) (iN X) (iN M) w5 HX5.out.reads HA5.out.2.reads (by rw [iN_len, HXl.out, HKl.out]; omega) (by rw [← hXM, iN_len, HXl.out, HKl.out]; omega))
                  have a5 := HA5.out.1.cell
                  have HXM := hid hXM
                  clear hXM
                  gi_wp2_with fail
                  refine ⟨trivial, ((callsIn_wide.2 HSm.out).inRound l).mono ?_⟩
                  rintro e w6 ⟨⟨b2, rfl, hb2⟩, hb6⟩
                  obtain rfl : b2 = true := hb2.2 (by rw [HXM.out])
                  have HS6 := hid (HS5.out.later hb6)
                  have r1 := HS6.out.r.cell
                  have r2 := HS6.out.r.frozen
                  have HR6 := hid (HS6.out.r.set (.bool true))
                  have HB6 := hid (show Below B w (w6.setCell ⟨B + 1, 0, none⟩ (.bool true)) from HS6.out.be.setCell (p := ⟨B + 1, 0, none⟩) (by show B ≤ B + 1; omega) _)
                  have HK6 := hid (show KpW 0 w4.heap.size (c + 2) W (w6.setCell ⟨B + 1, 0, none⟩ (.bool true)) from ⟨by have := HK5.out.size; have := hb6.size; simp; omega, fun k' hk' => by
                    have h9 : k' < w5.heap.size := by have := HZA.out; have := HK5.out.size; omega
                    exact (hp_o (by have := hb6.size; omega) (by omega) _).trans ((hb6.block k' h9).trans (HK5.out.block k' hk'))⟩)
                  have HZ6 := hid (show w4.heap.size ≤ (w6.setCell ⟨B + 1, 0, none⟩ (.bool true)).heap.size by have := HB5.out.size; have := hb6.size; simp; omega)
                  clear hb2 hb6 HSm a5
                  gi_wp2
                  exact .inr ⟨rfl, HK6.out, HR6.out, HB6.out, HZ6.out⟩
              · skip
                rintro W ⟨_, hno⟩ _
                exact absurd HM.out.alk (hno n M (by have := HM.out.lt; rw [HAG.out] at this; exact this) (by rw [← HAG.out]; exact HM.out.pos))
              · skip
                rintro k W ⟨h1, h2, h3⟩ hK
                have H1 := hid h1
                have H2 := hid h2
                have HK := hid hK
                have hBw : B + 1 ≠ w4.heap.size := by omega
                clear h1 h2 hK
                gi_wp2
                refine ⟨by simp, .inl ⟨_, _, rfl, run_takeDeferred HK.out, ?_⟩⟩
                have r4 : (W.putObj w4.heap.size (.deferred none)).cell? ⟨B + 1, 0, none⟩ = some (.bool true) := by
                  refine (World.cell?_of_block (?_ : _ = _)).trans H1.out.cell
                  exact World.putObj_heap_other hBw
                exact ⟨_, results_cellS rfl _ _ (B + 1) true rfl r4, rfl, by rw [hB]; exact H2.out.trans ⟨rfl, rfl, rfl, by simp, fun k hk => World.putObj_heap_other (by omega)⟩⟩
        · have hL0 : leL F P = [] := by unfold leL; rw [if_neg hE]
          have hEb : (leE F P == 0) = false := by simpa using hE
          rw [hL0] at HOa ⊢
          generalize leE F P = E at *
          obtain ⟨W2, hW2⟩ : ∃ W2, w1.alloc (.cells #[.slice aoa ([] : List Int).length ca] 22) = W2 := ⟨_, rfl⟩
          have hS2 := HS1.out.alloc (.cells #[.slice aoa ([] : List Int).length ca] 22)
          rw [hW2] at hS2
          have HS2 := hid hS2
          have a2 : Boxed W2 w1.heap.size 22 (.slice aoa ([] : List Int).length ca) := by rw [← hW2]; exact Boxed.new w1 _ _
          have a2c := a2.cell
          have HL2 := hid (HLi.out W2)
          clear hS2 a2 hE hL0
          simp only [List.length_nil] at hW2 a2c ⊢
          gi_wp2_with fail
          refine ⟨trivial, (callsIn_wide.2 HL2.out).mono ?_⟩
          rintro e w3 ⟨rfl, hb3⟩
          have hS3 := HS2.out.later hb3
          have r1 := hS3.r.cell
          have r2 := hS3.r.frozen
          have r3 := (hS3.r.set (.bool true)).cell
          have hbe := hS3.be.setCell (p := ⟨B + 1, 0, none⟩) (by show B ≤ B + 1; omega) (.bool true)
          clear hb3 hS3
          gi_wp2
          exact ⟨_, results_cellS rfl _ _ (B + 1) true rfl r3, rfl, by rw [hB]; exact hbe⟩
end Go.Proofs.Ytaiccmbhdgecgaa
