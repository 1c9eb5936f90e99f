/-
  Gw3: Few: its search.
-/
import Derived.Test.YtaiccmbhdgecgaaSmB
import Derived.Sort.CutIn
import Derived.Stop.RegionWithIn
namespace Go.Proofs.Ytaiccmbhdgecgaa
open Go.RowKit Go.Shelf
set_option maxRecDepth 100000
set_option linter.unusedVariables false
set_option linter.unusedSimpArgs false
attribute [local go_sem] Oper.semAt_some

theorem wpListIn_fitI {F : Fence} {m : Nat} (w : World) {ops : Array Oper} {rest : List Oper} {o : Oper} {a : Act} {Q : Exit → Act → World → Prop} (hgd : o.guard = none) (s x : Operand)
    (ho : o.op = .call { callee := .builtin .append, args := #[s, x], argTypes := #[22, 22] })
    (base g k cap : Nat) (L : List Int) (hs : a.eval s = .slice (some ⟨g, 0, none⟩) k cap) (hown : OI w base (.slice (some ⟨g, 0, none⟩) k cap) L) (hk : L.length = k) (b : Nat) (hx : a.eval x = .slice (some ⟨b, 0, none⟩) 1 1) (j : Int)
    (hc : w.heap[b]? = some (.cells #[.int .i64 j] 3 (0, 0))) (b1 : k + 1 ≤ cap)
    (hK : ∀ w', OI w' base (.slice (some ⟨g, 0, none⟩) (k + 1) cap) (L ++ [j]) → w.grownBy w' (some g) → wpListIn F m Try.prog ops Q rest (a.put o.dst (.slice (some ⟨g, 0, none⟩) (k + 1) cap)) w') :
    wpListIn F m Try.prog ops Q (o :: rest) a w := by
  obtain ⟨i, hi, hz, hsz, hby⟩ := info_parts intinfo
  subst hk
  refine wpListIn_append_fits w hgd s x 22 ho base 3 i 1 Try.underlying22 hi hsz g L.length cap (ic L) hs hown ⟨b, 0, none⟩ 1 1 [.int .i64 j] hx rfl ?_ ?_ b1 ?_
  · intro t u hu
    match t, hu with
    | 0, hu =>
      injection hu with hu
      subst hu
      exact Lib.cell_of_heap hc 0 |>.trans rfl
    | t + 1, hu => cases hu
  · intro u hu
    rw [List.mem_singleton.1 hu]
    rfl
  · intro w' ho' hg
    refine hK w' ?_ hg
    unfold OI
    rw [ic_app, List.length_append]
    exact ho'
/-- how a search ends -/
def SeE (J Jx : Nat → World → Prop) (wB bY bL aL bP bX aX bS n cL pl l k : Nat) (N P : List Nat) (W' : World) (e : Ending) : Prop :=
  ∃ b, e = .returned (.bool b) ∧ FwM wB bY bL aL bP bX aX bS n cL pl l W' N P ∧ ((b = true ∧ J k W') ∨ (b = false ∧ ∃ k', Jx k' W'))
theorem few_enter : ∀ args w, (callFunc 40 args).run Try.prog w = .ok (.enter 40 args) w := enters_of Try.func40 (by kernel_rfl) rfl
/-- the two ways of a yield as one -/
theorem yb_of {J Jx : Nat → World → Prop} {k Lo B0 wB : Nat} {W1 W' : World} {e : Ending} (h : (e = .returned (.bool true) ∧ J (k + 1) W' ∧ KpM Lo B0 wB 8 W1 W') ∨ (e = .returned (.bool false) ∧ Jx (k + 1) W' ∧ KpM Lo B0 wB 8 W1 W')) : ∃ b, e = .returned (.bool b) ∧ Hid ((b = true ∧ J (k + 1) W' ∧ KpM Lo B0 wB 8 W1 W') ∨ (b = false ∧ Jx (k + 1) W' ∧ KpM Lo B0 wB 8 W1 W')) := by
  rcases h with ⟨rfl, h1, h2⟩ | ⟨rfl, h1, h2⟩
  · exact ⟨true, rfl, hid (.inl ⟨rfl, h1, h2⟩)⟩
  · exact ⟨false, rfl, hid (.inr ⟨rfl, h1, h2⟩)⟩
set_option maxHeartbeats 8000000 in
theorem search_any (Lo B0 wB bY bL aL bP bX aX bS n cL pl l : Nat) (hi : ID wB bY bL aL bP bX aX bS) (hn16 : n ≤ 16) (h24 : pl ≤ 24) (G : List (List Nat)) (J Jx : Nat → World → Prop) (hJ : ∀ k A A', J k A → Chg wB 8 A A' → J k A') (hJx : ∀ k A A', Jx k A → Chg wB 8 A A' → Jx k A')
    (hY : ∀ k v A W1, J k A → k < G.length → Below A.heap.size A W1 → OI W1 A.heap.size v (iN (G.getD k [])) → wB + 8 ≤ A.heap.size → YieldAt Fence.wide 3 Try.prog l #[v] W1 fun e W' => (e = .returned (.bool true) ∧ J (k + 1) W' ∧ KpM Lo B0 wB 8 W1 W') ∨ (e = .returned (.bool false) ∧ Jx (k + 1) W' ∧ KpM Lo B0 wB 8 W1 W')) :
    ∀ s N P last sp k W, tN2 N = s → s + P.length = pl → FwM wB bY bL aL bP bX aX bS n cL pl l W N P → (last = -1 ∨ ∃ j : Nat, j < n ∧ last = (j : Int)) → 0 ≤ sp → sp ≤ 9223372036854775807 → Stnd G k P (FL s N last sp) → J k W →
      CallsIn Fence.wide 4 Try.prog 40 #[.int .i64 last, .int .i64 sp, .pointer (some ⟨bX, 0, none⟩), .pointer (some ⟨bP, 0, none⟩), .pointer (some ⟨bY, 0, none⟩), .pointer (some ⟨bL, 0, none⟩), .pointer (some ⟨bS, 0, none⟩)] W fun e W' => SeE J Jx wB bY bL aL bP bX aX bS n cL pl l (k + (FL s N last sp).length) N P W' e
  | 0, N, P, last, sp, k, W, hN, hP, hF, hla, hs0, hs1, hSt, hJk => by
    have hg := hSt 0 [] rfl
    rw [List.append_nil] at hg
    have hkl : k < G.length := (List.getElem?_eq_some_iff.1 hg).1
    have hgd : G.getD k [] = P := by rw [List.getD_eq_getElem?_getD, show G[k]? = some P from hg]; rfl
    have HF := hid hF
    have HCl := hid (fun wx (hb : Below W.heap.size W wx) => show Calls Try.prog 33 #[.slice (some ⟨aX, 0, none⟩) P.length pl] wx fun e w' => (∃ v', e = .returned v' ∧ OI w' W.heap.size v' (iN P)) ∧ Below W.heap.size W w' from (le_clone_any _ (iN P) wx (hF.later hi hb).r.reads (by rw [iN_len]; omega)).mono (by
      rintro e w' ⟨⟨v', h1, h2⟩, h3⟩
      exact ⟨⟨v', h1, h2.mono hb.size⟩, hb.trans (h3.mono hb.size)⟩))
    have HY := hid (fun v W1 (hb : Below W.heap.size W W1) (ho : OI W1 W.heap.size v (iN P)) => hY k v W W1 hJk hkl hb (by rw [hgd]; exact ho) hF.sz)
    have hPl : P.length = pl := by omega
    have hb : ((P.length : Int) == (pl : Int)) = true := by rw [hPl]; simp
    have y1 := hF.y.cell
    have p1 := hF.p.cell
    have x1 := hF.x.cell
    have HX := hid (fun wx (hb : Below W.heap.size W wx) => And.intro (hF.later hi hb).y.cell (hF.later hi hb).x.cell)
    clear hF hSt hg hgd hkl hJk hP hPl
    refine callsIn_of_wp Try.func40 rfl trivial ?_ rfl
    simp only [Try.ntmps40, List.size_toArray, List.length_cons, List.length_nil, Nat.reduceAdd, Nat.reduceSub, Array.replicate_succ, Array.replicate_zero, List.push_toArray, List.append_toArray, List.nil_append, List.cons_append]
    gi_wp2_with fail
    have s0 : Below W.heap.size W W.drew := (Below.refl _ _).drew
    gi_region_with (first
      | (refine ⟨trivial, ?_⟩; refine (callsIn_wide.2 (HCl.out _ s0)).mono ?_; rintro e w3 ⟨⟨v, rfl, ho⟩, s3⟩; obtain ⟨fn, tmps, assign, body, hy, hR⟩ := HY.out v w3 s3 ho; have yz := (HX.out w3 s3).1; clear ho)
      | (refine hR.mono ?_; rintro e W3 hz; obtain ⟨b, rfl, hb3⟩ := yb_of hz; clear hz))
    all_goals
      gi_wp2
      go_ret
      rcases hb3.out with ⟨rfl, hj, hk⟩ | ⟨rfl, hx, hk⟩
      · exact ⟨true, rfl, (HF.out.later hi s3).kpw hi hk, .inl ⟨rfl, hj⟩⟩
      · exact ⟨false, rfl, (HF.out.later hi s3).kpw hi hk, .inr ⟨rfl, _, hx⟩⟩
  | s + 1, N, P, last, sp, k, W, hN, hP, hF, hla, hs0, hs1, hSt, hJk => by
    have HF := hid hF
    have HIH := hid (search_any Lo B0 wB bY bL aL bP bX aX bS n cL pl l hi hn16 h24 G J Jx hJ hJx hY s)
    have HSt := hid hSt
    have HJk := hid hJk
    have HLa := hid (show last = -1 ∨ ∃ j : Nat, j < N.length ∧ last = (j : Int) by rw [hF.len]; exact hla)
    have HJ := hid hJ
    have HJx := hid hJx
    have HP := hid hP
    have HN := hid hN
    have hPl : P.length < pl := by omega
    have hb : ((P.length : Int) == (pl : Int)) = false := beq_eq_false_iff_ne.2 (by omega)
    have p1 := hF.p.cell
    have x1 := hF.x.cell
    have l1 := hF.l.cell
    have hspI : sp ≤ 9223372036854775807 := hs1
    clear hF hSt hJk hP hJ hJx hY hla hN
    refine callsIn_of_wp Try.func40 rfl trivial ?_ rfl
    simp only [Try.ntmps40, List.size_toArray, List.length_cons, List.length_nil, Nat.reduceAdd, Nat.reduceSub, Array.replicate_succ, Array.replicate_zero, List.push_toArray, List.append_toArray, List.nil_append, List.cons_append]
    gi_wp2_with fail
    gi_loopw [10, 11, 12, 23] (fun _ _ _ vi wx => ∃ h : Nat, h ≤ n ∧ vi = .int .i64 (h : Int) ∧ J (k + (FP s N last sp h).length) wx ∧ FwM wB bY bL aL bP bX aX bS n cL pl l wx N P) (fun _ _ _ vi _ => n - (intOf vi).toNat)
    case atStart => exact ⟨0, Nat.zero_le _, rfl, HJk.out, HF.out⟩
    case round =>
      obtain ⟨h, hh, rfl, hj, hf⟩ := hrel
      have HFr := hid hf
      have HJr := hid hj
      clear hf hj p1 x1 l1
      by_cases hlt : h < n
      · have hI : (h : Int) < (n : Int) := by omega
        have hdI : decide (h < n) = true := decide_eq_true hlt
        have hNl := HFr.out.len
        have l1 := HFr.out.l.cell
        have HAs := hid (aside2_any (.slice (some ⟨aL, 0, none⟩) n cL) N h last wr HFr.out.a.reads HLa.out)
        obtain ⟨g0, c0, hv, hcn, _, hcl⟩ := HFr.out.a.form (by rw [iN_len]; omega)
        injection hv with e1 e2 e3
        injection e1 with e1
        injection e1 with e1
        subst e1 e3
        have k0 := hcl h (by rw [iN_len]; omega)
        rw [iN_at N h _ (by omega), ← gN N h (by omega)] at k0
        have k1 := HFr.out.a.own h
        have hx24 := hid (getD_le N h (by omega))
        have HSk := hid (FP_skip s N last sp h)
        have HGo := hid (FP_go s N last sp h)
        have hspr : spr N last sp h = if asd (iN N) last h then sp - 1 else sp := rfl
        have hmay : may N last sp h = (!decide (N.getD h 0 = 0) && !decide (spr N last sp h < 0)) := rfl
        have HSpr := hid hspr
        have HMay := hid hmay
        -- ROUND BEGINS
        clear hcl e2 hspr hmay
        cases hb0 : asd (iN N) last h with
        | true =>
          rw [hb0] at HAs
          have hq : spr N last sp h = sp - 1 := by rw [HSpr.out, if_pos hb0]
          clear HSpr
          have HSpr := hid hq
          have HMay := HMay.out
          rw [hq] at HMay
          have HMay := hid HMay
          clear hq hb0
          by_cases hz : N.getD h 0 = 0
          · have HMf := hid (show may N last sp h = false by rw [HMay.out, decide_eq_true hz]; rfl)
            rw [hz] at k0
            have k0 : wr.cell? ⟨aL, h, none⟩ = some (.int .i64 0) := k0
            have HZ := hid hz
            clear hz
            have HJ2 := hid (show J (k + (FP s N last sp (h + 1)).length) wr by rw [HSk.out HMf.out]; exact HJr.out)
            clear HGo
            gi_wp2_with fail
            refine ⟨trivial, (callsIn_wide.2 HAs.out).mono ?_⟩
            rintro e w1 ⟨rfl, hw1⟩
            have hws := hw1.symm
            clear hw1
            subst hws
            clear HAs
            gi_wp2
            go_roundw
            case rel => exact ⟨h + 1, by omega, by go_num, HJ2.out, HFr.out⟩
            case measure => simp [intOf]; omega
          · by_cases hneg : sp - 1 < 0
            · have HMf := hid (show may N last sp h = false by rw [HMay.out, decide_eq_true hneg]; simp)
              have hzb : (((N.getD h 0 : Nat) : Int) == 0) = false := beq_eq_false_iff_ne.2 (by omega)
              have hdn : decide (sp - 1 < 0) = true := decide_eq_true hneg
              have HZ := hid hz
              generalize N.getD h 0 = x at k0 hzb
              clear hz
              have HJ2 := hid (show J (k + (FP s N last sp (h + 1)).length) wr by rw [HSk.out HMf.out]; exact HJr.out)
              clear HGo
              gi_wp2_with fail
              refine ⟨trivial, (callsIn_wide.2 HAs.out).mono ?_⟩
              rintro e w1 ⟨rfl, hw1⟩
              have hws := hw1.symm
              clear hw1
              subst hws
              clear HAs
              gi_wp2
              go_roundw
              case rel => exact ⟨h + 1, by omega, by go_num, HJ2.out, HFr.out⟩
              case measure => simp [intOf]; omega
            · have HMt := hid (show may N last sp h = true by rw [HMay.out, decide_eq_false hz, decide_eq_false hneg]; rfl)
              have hdn : decide (sp - 1 < 0) = false := decide_eq_false hneg
              have HG2 := hid (HGo.out HMt.out)
              have H1 := hid (show 1 ≤ N.getD h 0 by omega)
              have hSn : (iN N).set h (((N.getD h 0 : Nat) : Int) - 1) = iN (less N h) := by
                rw [show ((N.getD h 0 : Nat) : Int) - 1 = ((N.getD h 0 - 1 : Nat) : Int) by omega, iN_set]
                rfl
              have hBk : (iN (less N h)).set h ((N.getD h 0 : Nat) : Int) = iN N := by
                rw [iN_set]
                unfold less
                rw [List.set_set]
                congr 1
                rw [gN N h (by omega)]
                exact List.set_getElem_self _
              have H2 := FwM.down hi HFr.out h (((N.getD h 0 : Nat) : Int) - 1) (less N h) hSn
              have HLs := hid (mN_less N h (by omega) H1.out (by have := HN.out; have := HP.out; omega)).2
              have hlat : (less N h).getD h 0 = N.getD h 0 - 1 := by rw [less_at N h h (by omega), if_pos rfl]
              have HBk := hid hBk
              have HLat := hid hlat
              obtain ⟨W2, hW2⟩ : ∃ W2, wr.setCell ⟨aL, h, none⟩ (.int .i64 (((N.getD h 0 : Nat) : Int) - 1)) = W2 := ⟨_, rfl⟩
              rw [hW2] at H2
              have HF2 := hid H2.1
              have HC2 := hid H2.2
              have x2 := HF2.out.x.cell
              have HJ2 := hid (HJ.out _ _ _ HJr.out HC2.out)
              have hx24 := hx24.out
              obtain ⟨x, hx⟩ : ∃ x, N.getD h 0 = x := ⟨_, rfl⟩
              rw [hx] at k0 hW2 HBk HLat hx24 H1
              have hxI : (x : Int) ≤ 24 := by have := HN.out; have := HP.out; omega
              have hxz : ((x : Int) == 0) = false := beq_eq_false_iff_ne.2 (by have := H1.out; omega)
              have HXx := hid hx
              clear H2 hSn hBk hlat hx hz HGo HSk HMay
              gi_wp2_with fail
              refine ⟨trivial, (callsIn_wide.2 HAs.out).mono ?_⟩
              rintro e w1 ⟨rfl, hw1⟩
              have hws := hw1.symm
              clear hw1
              subst hws
              clear HAs
              gi_wp2_with (gi_at_builtin; refine wpListIn_fitI _ rfl _ _ rfl wB aX P.length pl (iN P) rfl (HF2.out.r.alloc _) (iN_len P) W2.heap.size rfl (h : Int) (heap_alloc_new W2 _) (by omega) ?hnext)
              case hnext =>
                intro w4 ho4 hg4
                obtain ⟨p1, p2, p3, p4⟩ := FwM.push hi HF2.out _ h hg4 ho4
                obtain ⟨W5, hW5⟩ : ∃ W5, w4.setCell ⟨bX, 0, none⟩ (.slice (some ⟨aX, 0, none⟩) (P.length + 1) pl) = W5 := ⟨_, rfl⟩
                rw [hW5] at p1 p2
                have HF5 := hid p1
                have HJ5 := hid (HJ.out _ _ _ HJ2.out p2)
                have s5 := HF5.out.s.cell
                clear p1 p2 ho4 hg4
                have HCa := hid (HIH.out (less N h) (P ++ [h]) (h : Int) (sp - 1) (k + (FP s N last sp h).length) W5 (by have := HLs.out; have := HN.out; omega) (by rw [List.length_append, List.length_singleton]; have := HP.out; omega) HF5.out (.inr ⟨h, hlt, rfl⟩) (by omega) (by omega) (fun i y hy => by
                  have e1 : FL (s + 1) N last sp = FP s N last sp N.length := (FP_all s N last sp).symm
                  obtain ⟨T, hT⟩ := FP_pre s N last sp (show h + 1 ≤ N.length by omega)
                  have := HSt.out ((FP s N last sp h).length + i) (h :: y) (by
                    rw [e1, hT, HG2.out, List.append_assoc, List.getElem?_append_right (Nat.le_add_right _ _), Nat.add_sub_cancel_left, List.getElem?_append_left (by
                      rw [List.length_map, HSpr.out]
                      exact (List.getElem?_eq_some_iff.1 hy).1), List.getElem?_map, HSpr.out, hy]
                    rfl)
                  rw [Nat.add_assoc, this]
                  simp) HJ5.out)
                gi_wp2_with fail
                refine ⟨trivial, (callsIn_wide.2 (callsIn_wide.1 HCa.out)).mono ?_⟩
                rintro e W6 ⟨bm, rfl, hf6, hj6⟩
                have HF6 := hid hf6
                have HJ6 := hid hj6
                have x6 := HF6.out.x.cell
                rw [List.length_append, List.length_singleton] at x6
                have x6f := HF6.out.x.frozen
                obtain ⟨q1, q2⟩ := FwM.pop hi HF6.out
                obtain ⟨W7, hW7⟩ : ∃ W7, W6.setCell ⟨bX, 0, none⟩ (.slice (some ⟨aX, 0, none⟩) P.length pl) = W7 := ⟨_, rfl⟩
                rw [hW7] at q1 q2
                have HF7 := hid q1
                have l7 := HF7.out.l.cell
                obtain ⟨_, _, hv7, hcn7, _, hcl7⟩ := HF7.out.a.form (by rw [iN_len, less_len]; omega)
                injection hv7 with e1 e2 e3
                injection e1 with e1
                injection e1 with e1
                subst e1 e3
                have k7 := hcl7 h (by rw [iN_len, less_len]; omega)
                rw [iN_at (less N h) h _ (by rw [less_len]; omega), ← gN (less N h) h (by rw [less_len]; omega), HLat.out] at k7
                replace k7 : W7.cell? ⟨aL, h, none⟩ = some (.int .i64 ((x : Int) - 1)) := by rw [k7, show ((x - 1 : Nat) : Int) = (x : Int) - 1 by have := H1.out; omega]
                have k7f := HF7.out.a.own h
                have H8 := FwM.down hi HF7.out h (x : Int) N HBk.out
                obtain ⟨W8, hW8⟩ : ∃ W8, W7.setCell ⟨aL, h, none⟩ (.int .i64 (x : Int)) = W8 := ⟨_, rfl⟩
                rw [hW8] at H8
                have HF8 := hid H8.1
                have HC8 := hid (q2.trans H8.2)
                have hxx : (x : Int) - 1 + 1 = (x : Int) := by omega
                have HN1 := hid (show k + (FP s N last sp (h + 1)).length = k + (FP s N last sp h).length + (FL s (less N h) (h : Int) (sp - 1)).length by rw [HG2.out, List.length_append, List.length_map, HSpr.out, Nat.add_assoc])
                clear hf6 hj6 HCa hcl7 H8 q1 q2 e2
                rcases HJ6.out with ⟨rfl, hj⟩ | ⟨rfl, k9, hx9⟩
                · have HJ8 := hid (show J (k + (FP s N last sp (h + 1)).length) W8 by rw [HN1.out]; exact HJ.out _ _ _ hj HC8.out)
                  clear hj
                  gi_wp2
                  go_roundw
                  case rel => exact ⟨h + 1, by omega, by go_num, HJ8.out, HF8.out⟩
                  case measure => simp [intOf]; omega
                · have HX8 := hid (HJx.out _ _ _ hx9 HC8.out)
                  clear hx9
                  gi_wp2
                  go_ret
                  exact ⟨false, rfl, HF8.out, .inr ⟨rfl, _, HX8.out⟩⟩
        | false =>
          rw [hb0] at HAs
          have hq : spr N last sp h = sp := by rw [HSpr.out, if_neg (by rw [hb0]; decide)]
          clear HSpr
          have HSpr := hid hq
          have HMay := HMay.out
          rw [hq] at HMay
          have HMay := hid HMay
          clear hq hb0
          have hneg : ¬ sp < 0 := by omega
          have hdn : decide (sp < 0) = false := decide_eq_false hneg
          by_cases hz : N.getD h 0 = 0
          · have HMf := hid (show may N last sp h = false by rw [HMay.out, decide_eq_true hz]; rfl)
            rw [hz] at k0
            have k0 : wr.cell? ⟨aL, h, none⟩ = some (.int .i64 0) := k0
            have HZ := hid hz
            clear hz
            have HJ2 := hid (show J (k + (FP s N last sp (h + 1)).length) wr by rw [HSk.out HMf.out]; exact HJr.out)
            clear HGo
            gi_wp2_with fail
            refine ⟨trivial, (callsIn_wide.2 HAs.out).mono ?_⟩
            rintro e w1 ⟨rfl, hw1⟩
            have hws := hw1.symm
            clear hw1
            subst hws
            clear HAs
            gi_wp2
            go_roundw
            case rel => exact ⟨h + 1, by omega, by go_num, HJ2.out, HFr.out⟩
            case measure => simp [intOf]; omega
          · have HMt := hid (show may N last sp h = true by rw [HMay.out, decide_eq_false hz, decide_eq_false hneg]; rfl)
            have HG2 := hid (HGo.out HMt.out)
            have H1 := hid (show 1 ≤ N.getD h 0 by omega)
            have hSn : (iN N).set h (((N.getD h 0 : Nat) : Int) - 1) = iN (less N h) := by
              rw [show ((N.getD h 0 : Nat) : Int) - 1 = ((N.getD h 0 - 1 : Nat) : Int) by omega, iN_set]
              rfl
            have hBk : (iN (less N h)).set h ((N.getD h 0 : Nat) : Int) = iN N := by
              rw [iN_set]
              unfold less
              rw [List.set_set]
              congr 1
              rw [gN N h (by omega)]
              exact List.set_getElem_self _
            have H2 := FwM.down hi HFr.out h (((N.getD h 0 : Nat) : Int) - 1) (less N h) hSn
            have HLs := hid (mN_less N h (by omega) H1.out (by have := HN.out; have := HP.out; omega)).2
            have hlat : (less N h).getD h 0 = N.getD h 0 - 1 := by rw [less_at N h h (by omega), if_pos rfl]
            have HBk := hid hBk
            have HLat := hid hlat
            obtain ⟨W2, hW2⟩ : ∃ W2, wr.setCell ⟨aL, h, none⟩ (.int .i64 (((N.getD h 0 : Nat) : Int) - 1)) = W2 := ⟨_, rfl⟩
            rw [hW2] at H2
            have HF2 := hid H2.1
            have HC2 := hid H2.2
            have x2 := HF2.out.x.cell
            have HJ2 := hid (HJ.out _ _ _ HJr.out HC2.out)
            have hx24 := hx24.out
            obtain ⟨x, hx⟩ : ∃ x, N.getD h 0 = x := ⟨_, rfl⟩
            rw [hx] at k0 hW2 HBk HLat hx24 H1
            have hxI : (x : Int) ≤ 24 := by have := HN.out; have := HP.out; omega
            have hxz : ((x : Int) == 0) = false := beq_eq_false_iff_ne.2 (by have := H1.out; omega)
            have HXx := hid hx
            clear H2 hSn hBk hlat hx hz HGo HSk HMay
            gi_wp2_with fail
            refine ⟨trivial, (callsIn_wide.2 HAs.out).mono ?_⟩
            rintro e w1 ⟨rfl, hw1⟩
            have hws := hw1.symm
            clear hw1
            subst hws
            clear HAs
            gi_wp2_with (gi_at_builtin; refine wpListIn_fitI _ rfl _ _ rfl wB aX P.length pl (iN P) rfl (HF2.out.r.alloc _) (iN_len P) W2.heap.size rfl (h : Int) (heap_alloc_new W2 _) (by omega) ?hnext)
            case hnext =>
              intro w4 ho4 hg4
              obtain ⟨p1, p2, p3, p4⟩ := FwM.push hi HF2.out _ h hg4 ho4
              obtain ⟨W5, hW5⟩ : ∃ W5, w4.setCell ⟨bX, 0, none⟩ (.slice (some ⟨aX, 0, none⟩) (P.length + 1) pl) = W5 := ⟨_, rfl⟩
              rw [hW5] at p1 p2
              have HF5 := hid p1
              have HJ5 := hid (HJ.out _ _ _ HJ2.out p2)
              have s5 := HF5.out.s.cell
              clear p1 p2 ho4 hg4
              have HCa := hid (HIH.out (less N h) (P ++ [h]) (h : Int) sp (k + (FP s N last sp h).length) W5 (by have := HLs.out; have := HN.out; omega) (by rw [List.length_append, List.length_singleton]; have := HP.out; omega) HF5.out (.inr ⟨h, hlt, rfl⟩) (by omega) (by omega) (fun i y hy => by
                have e1 : FL (s + 1) N last sp = FP s N last sp N.length := (FP_all s N last sp).symm
                obtain ⟨T, hT⟩ := FP_pre s N last sp (show h + 1 ≤ N.length by omega)
                have := HSt.out ((FP s N last sp h).length + i) (h :: y) (by
                  rw [e1, hT, HG2.out, List.append_assoc, List.getElem?_append_right (Nat.le_add_right _ _), Nat.add_sub_cancel_left, List.getElem?_append_left (by
                    rw [List.length_map, HSpr.out]
                    exact (List.getElem?_eq_some_iff.1 hy).1), List.getElem?_map, HSpr.out, hy]
                  rfl)
                rw [Nat.add_assoc, this]
                simp) HJ5.out)
              gi_wp2_with fail
              refine ⟨trivial, (callsIn_wide.2 (callsIn_wide.1 HCa.out)).mono ?_⟩
              rintro e W6 ⟨bm, rfl, hf6, hj6⟩
              have HF6 := hid hf6
              have HJ6 := hid hj6
              have x6 := HF6.out.x.cell
              rw [List.length_append, List.length_singleton] at x6
              have x6f := HF6.out.x.frozen
              obtain ⟨q1, q2⟩ := FwM.pop hi HF6.out
              obtain ⟨W7, hW7⟩ : ∃ W7, W6.setCell ⟨bX, 0, none⟩ (.slice (some ⟨aX, 0, none⟩) P.length pl) = W7 := ⟨_, rfl⟩
              rw [hW7] at q1 q2
              have HF7 := hid q1
              have l7 := HF7.out.l.cell
              obtain ⟨_, _, hv7, hcn7, _, hcl7⟩ := HF7.out.a.form (by rw [iN_len, less_len]; omega)
              injection hv7 with e1 e2 e3
              injection e1 with e1
              injection e1 with e1
              subst e1 e3
              have k7 := hcl7 h (by rw [iN_len, less_len]; omega)
              rw [iN_at (less N h) h _ (by rw [less_len]; omega), ← gN (less N h) h (by rw [less_len]; omega), HLat.out] at k7
              replace k7 : W7.cell? ⟨aL, h, none⟩ = some (.int .i64 ((x : Int) - 1)) := by rw [k7, show ((x - 1 : Nat) : Int) = (x : Int) - 1 by have := H1.out; omega]
              have k7f := HF7.out.a.own h
              have H8 := FwM.down hi HF7.out h (x : Int) N HBk.out
              obtain ⟨W8, hW8⟩ : ∃ W8, W7.setCell ⟨aL, h, none⟩ (.int .i64 (x : Int)) = W8 := ⟨_, rfl⟩
              rw [hW8] at H8
              have HF8 := hid H8.1
              have HC8 := hid (q2.trans H8.2)
              have hxx : (x : Int) - 1 + 1 = (x : Int) := by omega
              have HN1 := hid (show k + (FP s N last sp (h + 1)).length = k + (FP s N last sp h).length + (FL s (less N h) (h : Int) sp).length by rw [HG2.out, List.length_append, List.length_map, HSpr.out, Nat.add_assoc])
              clear hf6 hj6 HCa hcl7 H8 q1 q2 e2
              rcases HJ6.out with ⟨rfl, hj⟩ | ⟨rfl, k9, hx9⟩
              · have HJ8 := hid (show J (k + (FP s N last sp (h + 1)).length) W8 by rw [HN1.out]; exact HJ.out _ _ _ hj HC8.out)
                clear hj
                gi_wp2
                go_roundw
                case rel => exact ⟨h + 1, by omega, by go_num, HJ8.out, HF8.out⟩
                case measure => simp [intOf]; omega
              · have HX8 := hid (HJx.out _ _ _ hx9 HC8.out)
                clear hx9
                gi_wp2
                go_ret
                exact ⟨false, rfl, HF8.out, .inr ⟨rfl, _, HX8.out⟩⟩
      · have hI : ¬ (h : Int) < (n : Int) := by omega
        have hdI : decide (h < n) = false := decide_eq_false hlt
        obtain rfl : h = n := by omega
        have HE := hid (show FP s N last sp h = FL (s + 1) N last sp by rw [← HFr.out.len]; exact FP_all s N last sp)
        gi_wp2
        go_ret
        exact ⟨true, rfl, HFr.out, .inl ⟨rfl, by rw [← HE.out]; exact HJr.out⟩⟩
end Go.Proofs.Ytaiccmbhdgecgaa
