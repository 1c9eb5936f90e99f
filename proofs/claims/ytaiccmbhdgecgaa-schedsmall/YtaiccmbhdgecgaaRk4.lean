/-
  The document's less, Nth.
-/
import Derived.Test.YtaiccmbhdgecgaaRk3
import Derived.Test.YtaiccmbhdgecgaaLq5
namespace Go.Proofs.Ytaiccmbhdgecgaa
open Go.RowKit
set_option maxRecDepth 100000

theorem iN_set (N : List Nat) (h x : Nat) : (iN N).set h (x : Int) = iN (N.set h x) := by unfold iN; rw [List.map_set]
set_option maxHeartbeats 400000 in
theorem less7_any (v : Value) (N : List Nat) (h : Nat) (w : World) (hr : RI w v (iN N)) (hl : N.length ≤ 16) (hh : h < N.length) (h1 : 1 ≤ N.getD h 0) (hs : tN2 N ≤ 24) :
    Calls Try.prog 52 #[v, .int .i64 (h : Int)] w fun e w' => (∃ v', e = .returned v' ∧ OI w' w.heap.size v' (iN (less N h))) ∧ Below w.heap.size w w' := by
  obtain ⟨ao, cap, hv⟩ := hr.len0
  rw [iN_len] at hv
  subst hv
  have HR := hid hr
  have hx24 := getD_le N h hh
  have hhI : (h : Int) < (N.length : Int) := by omega
  clear hr
  go_enter Try.func52, Try.ntmps52
  go_wp2_with (at_builtin; refine wpList_appI rfl _ _ rfl w.heap.size _ [] rfl (OI.nil _ _) _ (iN N) rfl HR.out (by simp [iN_len]; omega) (Nat.le_refl _) ?hnext)
  case hnext =>
    intro v1 w1 ho1 hg1
    have hB1 := (Below.refl w.heap.size w).grown hg1 (Nat.le_refl _) (by intro k hk; cases hk)
    have ho1 : OI w1 w.heap.size v1 (iN N) := ho1
    obtain ⟨g, c, rfl, hc, hm, hcl⟩ := ho1.form (by rw [iN_len]; omega)
    have c0 := hcl h (by rw [iN_len]; exact hh)
    rw [iN_at N h _ hh, ← gN N h hh] at c0
    have f0 := ho1.own h
    have hgb : w.heap.size ≤ g := ho1.block_ge g rfl
    have HO := hid (show OI (w1.setCell ⟨g, h, none⟩ (.int .i64 ((N.getD h 0 : Nat) - 1))) w.heap.size (.slice (some ⟨g, 0, none⟩) N.length c) (iN (less N h)) by
      have := ho1.set (i := h) (((N.getD h 0 : Nat) : Int) - 1)
      rw [show ((N.getD h 0 : Nat) : Int) - 1 = ((N.getD h 0 - 1 : Nat) : Int) by omega, iN_set, iN_len] at this
      rw [show ((N.getD h 0 : Nat) : Int) - 1 = ((N.getD h 0 - 1 : Nat) : Int) by omega]
      exact this)
    have HB := hid (hB1.setCell (p := ⟨g, h, none⟩) hgb (.int .i64 ((N.getD h 0 : Nat) - 1)))
    rw [iN_len]
    clear hcl ho1 hg1 hB1
    generalize N.getD h 0 = x at *
    go_wp2
    go_ret
    exact ⟨⟨_, rfl, HO.out⟩, HB.out⟩
theorem stOk_less (N : List Nat) (h : Nat) (hh : h < N.length) (h1 : 1 ≤ N.getD h 0) (hl : N.length ≤ 16) (hs : tN2 N ≤ 24) : stOk (iN (less N h)) = true :=
  stOk_mk ((okN_iff _).2 (by rw [less_len]; omega)) (by have := (mN_less N h hh h1 hs).2; omega)
theorem cntA_less (N : List Nat) (h : Nat) (hh : h < N.length) (h1 : 1 ≤ N.getD h 0) (hl : N.length ≤ 16) (hs : tN2 N ≤ 24) (hm : mN N ≤ 4611686018427387904) : cntA (iN (less N h)) = ((bg N h : Int), 0) := by
  have hp : 1 ≤ tN2 N := by have := getD_le N h hh; omega
  rw [cntA_is _ (stOk_less N h hh h1 hl hs), if_pos (Nat.le_trans (mN_less_le N h hh hp hs h1) hm), (bg_mul N h hh hs hp).2.2 h1]
/-- a list reads, and goes on reading where another one has grown -/
def LF (w : World) (vl v : Value) (N : List Nat) : Prop := RI w v (iN N) ∧ ∀ W, w.grownBy W vl.ownBlock → RI W v (iN N)
theorem LF.later {w w' : World} {vl v : Value} {N : List Nat} (h : LF w vl v N) (hb : Below w.heap.size w w') : LF w' vl v N :=
  ⟨h.1.below hb, fun W hg => h.2 W ⟨hg.os.trans hb.os, hg.tape.trans hb.tape, hg.output.trans hb.output, Nat.le_trans hb.size hg.size, fun k hk hn => (hg.block k (Nat.lt_of_lt_of_le hk hb.size) hn).trans (hb.block k hk)⟩⟩
theorem RI.grown {w W : World} {v : Value} {R : List Int} {row : Option Nat} (h : RI w v R) (hg : w.grownBy W row) (hn : ∀ g off, (∃ n c, v = .slice (some ⟨g, off, none⟩) n c) → row ≠ some g) (hlt : ∀ g off, (∃ n c, v = .slice (some ⟨g, off, none⟩) n c) → g < w.heap.size) : RI W v R := by
  obtain ⟨ao, c, e, hc, hn0, hcell⟩ := h
  subst e
  refine ⟨ao, c, rfl, hc, hn0, fun i hi => ?_⟩
  obtain ⟨g, off, rfl, hx⟩ := hcell i hi
  refine ⟨g, off, rfl, ?_⟩
  have hb := hg.block g (hlt g off ⟨_, _, rfl⟩) (fun e => hn g off ⟨_, _, rfl⟩ e.symm)
  rw [← hx]
  simp only [World.cell?, hb]
theorem LF.fresh {w : World} {B : Nat} {vl v : Value} {N : List Nat} (h : OI w B v (iN N)) (hlt : ∀ g, vl.ownBlock = some g → g < B) : LF w vl v N := by
  refine ⟨h.reads, fun W hg => ?_⟩
  have h1 : ∀ g off, (∃ n c, v = .slice (some ⟨g, off, none⟩) n c) → off = 0 ∧ B ≤ g ∧ g < w.heap.size := by
    rintro g off ⟨n, c, rfl⟩
    have hx := h.2
    rcases hx with ⟨h2, _⟩ | ⟨g', cap', cur, hv, hg, hh, _⟩
    · cases h2
    · injection hv with e1 e2 e3
      injection e1 with e1
      injection e1 with e1 e4
      subst e1 e4
      exact ⟨rfl, hg, (Array.getElem?_eq_some_iff.1 hh).1⟩
  exact h.reads.grown hg (fun g off e e2 => by have := hlt g e2; have := (h1 g off e).2.1; omega) (fun g off e => (h1 g off e).2.2)
theorem LF.nil {w : World} {v : Value} {N : List Nat} (h : RI w v (iN N)) : LF w (.slice none 0 0) v N :=
  ⟨h, fun W hg => RI.below (w := w) h ⟨hg.os, hg.tape, hg.output, hg.size, fun k hk => hg.block k hk (by intro e; cases e)⟩⟩
/-- between two picks of the document's Nth -/
structure DP (N : List Nat) (n s : Nat) (w1 wx : World) (vl vm : Value) (N' : List Nat) (n' : Nat) (P : List Nat) : Prop where
  lf : LF wx vl vm N'
  len : N'.length = N.length
  sum : tN2 N' + P.length = s
  lt : n' < mN N'
  mm : mN N' ≤ 4611686018427387904
  own : OI wx w1.heap.size vl (iN P)
  be : Below w1.heap.size w1 wx
  mx : ∀ L, Mx N' n' L → Mx N n (P ++ L)
def bOf : Value → Nat
  | .bool true => 0
  | _ => 1
def N7A (N : List Nat) (n : Nat) (w w' : World) (e : Ending) : Prop := ∃ v' L, e = .returned (.tuple #[v', .int .i64 0]) ∧ OI w' w.heap.size v' (iN L) ∧ Mx N n L
set_option maxHeartbeats 4000000 in
theorem nth7X (v : Value) (N : List Nat) (n : Nat) (w : World) (hr : RI w v (iN N)) (h0 : 1 ≤ N.length) (hl : N.length ≤ 16) (hs : tN2 N ≤ 24) (hm : mN N ≤ 4611686018427387904) (hc : cntA (iN N) = ((mN N : Int), 0)) (hn : n < mN N) :
    Calls Try.prog 23 #[v, .int .i64 (n : Int)] w fun e w' => N7A N n w w' e ∧ Below w.heap.size w w' := by
  have HCo := hid (show Calls Try.prog 29 #[v] w fun e w' => e = .returned (.tuple #[.int .i64 (mN N : Int), .int .i64 0]) ∧ w' = w by have := count7_any v (iN N) w hr (by rw [iN_len]; omega); rw [hc] at this; exact this)
  have hsk : stOk (iN N) = true := stOk_mk ((okN_iff _).2 (by omega)) hs
  have HSt := hid (show Calls Try.prog 51 #[v] w fun e w' => e = .returned (.tuple #[.int .i64 (tN2 N : Int), .bool true]) ∧ w' = w from (steps7_any v (iN N) w hr (by rw [iN_len]; omega)).mono (by
    rintro e w' ⟨⟨s, he, h2⟩, h3⟩
    have h4 := h2 hsk
    rw [iN_nats] at h4
    subst h4
    rw [hsk] at he
    exact ⟨he, h3⟩))
  have HR := hid hr
  have hnI : (n : Int) < (mN N : Int) := Int.ofNat_lt.2 hn
  have hmI : (mN N : Int) ≤ 4611686018427387904 := Int.ofNat_le.2 hm
  have HN0 := hid (And.intro hn hm)
  have hg1 : ¬ (mN N : Int) ≤ (n : Int) := by omega
  have hg2 : ¬ (n : Int) < 0 := by omega
  have HP0 := hid (show DP N n (tN2 N) w w (.slice none 0 0) v N n [] from ⟨LF.nil hr, rfl, rfl, hn, hm, OI.nil _ _, Below.refl _ _, fun L h => h⟩)
  have hs24 : (tN2 N : Int) ≤ 24 := by omega
  obtain ⟨MM, hMM⟩ : ∃ MM, mN N = MM := ⟨_, rfl⟩
  rw [hMM] at HCo hnI hmI hg1
  have hd1 : decide ((n : Int) < 0) = false := decide_eq_false hg2
  have hd2 : decide ((MM : Int) ≤ (n : Int)) = false := decide_eq_false hg1
  obtain ⟨tt, htt⟩ : ∃ tt, tN2 N = tt := ⟨_, rfl⟩
  rw [htt] at HSt hs24 HP0
  clear hMM hsk hc hn hm hr hs htt
  go_enter Try.func23, Try.ntmps23
  go_wp2_with fail
  refine Calls.mono HCo.out ?_
  rintro e w1 ⟨rfl, rfl⟩
  clear HCo
  go_wp2_with fail
  refine Calls.mono HSt.out ?_
  rintro e w2 ⟨rfl, rfl⟩
  clear HSt
  go_wp2_with fail
  go_loopw [1, 10, 11, 12, 13, 14] (fun vn vl vm _ _ _ wx => ∃ (N' P : List Nat) (n' : Nat), vn = .int .i64 (n' : Int) ∧ DP N n tt w2 wx vl vm N' n' P) (fun _ vl _ _ _ _ _ => tt - slen vl)
  case atStart => exact ⟨N, [], n, rfl, HP0.out⟩
  case round =>
    obtain ⟨N', P, n', rfl, hp⟩ := hrel
    clear HP0
    have HP := hid hp
    have hsum := hp.sum
    have hlen := hp.len
    obtain ⟨a9, c9, hv9⟩ := hp.own.reads.len0
    rw [iN_len] at hv9
    subst hv9
    have hPl : P.length ≤ 24 := by omega
    clear hp
    by_cases h0s : tt ≤ P.length
    · have hsI : ¬ (P.length : Int) < (tt : Int) := by omega
      have hd0 : decide (P.length < tt) = false := decide_eq_false (by omega)
      have HE := hid (show Mx N n P by
        have h := HP.out.mx []
        rw [List.append_nil] at h
        have hlt := HP.out.lt
        have hz : sN N' N'.length = 0 := by have h9 : tN2 N' = 0 := by omega
                                            exact h9
        have h2 := cN_pf N' N'.length (by omega)
        rw [hz] at h2
        have h3 : mN N' = 1 := Nat.eq_one_of_mul_eq_one_right h2
        have h4 : n' = 0 := by omega
        subst h4
        exact h (Mx.nil N' hz))
      go_wp2
      go_ret2
      exact ⟨⟨_, P, rfl, HP.out.own, HE.out⟩, HP.out.be⟩
    · have hsI : (P.length : Int) < (tt : Int) := by omega
      have hd0 : decide (P.length < tt) = true := decide_eq_true (by omega)
      have HS1 := hid (show 1 ≤ tN2 N' ∧ tN2 N' ≤ 24 by omega)
      obtain ⟨wo, hwo⟩ : ∃ wo, wo = wr := ⟨_, rfl⟩
      subst hwo
      have HFd := hid (find_hd N' n' (by rw [bS_all N' HS1.out.2 HS1.out.1]; exact HP.out.lt))
      obtain ⟨am, cm, hvm⟩ := HP.out.lf.1.len0
      rw [iN_len, hlen] at hvm
      subst hvm
      go_wp2_with fail
      go_loopw [1, 12, 13, 14] (fun vn vh vf _ wx => ∃ (h x : Nat) (fb : Bool), h < N.length ∧ bS N' h ≤ n' ∧ x = n' - bS N' h ∧ vn = .int .i64 (x : Int) ∧ vh = .int .i64 (h : Int) ∧ vf = .bool fb ∧ (fb = true → n' < bS N' (h + 1)) ∧ Below wo.heap.size wo wx) (fun _ vh vf _ _ => 2 * (N.length - (intOf vh).toNat) + bOf vf)
      case atStart => exact ⟨0, n', false, by omega, Nat.zero_le _, (Nat.sub_zero _).symm, rfl, rfl, rfl, (by intro h; cases h), Below.refl _ _⟩
      case round =>
        obtain ⟨h, x, fb, hh, hb, hx, rfl, rfl, rfl, hfb, hB⟩ := hrel
        have HB := hid hB
        have HFb := hid hfb
        have HHb := hid hb
        have HX := hid hx
        have hxM : (x : Int) ≤ 4611686018427387904 := by have := HP.out.lt; have := HP.out.mm; omega
        have HLf := hid (HP.out.lf.later HB.out)
        clear hB hfb hb hx
        have hh' : h < N'.length := by omega
        cases fb with
        | false =>
          clear HFb
          obtain ⟨_, _, hvs, _, _, hKc⟩ := HLf.out.1
          obtain ⟨gk, offk, hgk, ck⟩ := hKc h (by rw [iN_len]; exact hh')
          rw [iN_at N' h _ hh', ← gN N' h hh'] at ck
          have HCk := hid ck
          have hao : am = some ⟨gk, offk, none⟩ := by injection hvs with e1 e2 e3; rw [e1, hgk]
          subst hao
          clear hKc hvs hgk ck
          have hhI : (h : Int) < (N.length : Int) := by omega
          rcases Nat.eq_zero_or_pos (N'.getD h 0) with hz | hp1
          · -- nothing of it is left
            have ck := HCk.out
            rw [hz] at ck
            have ck : wr.cell? ⟨gk, offk + h, none⟩ = some (.int .i64 0) := ck
            have hb0 := (bg_mul N' h hh' HS1.out.2 HS1.out.1).2.1 hz
            have e1 : bS N' (h + 1) = bS N' h := by
              show bS N' h + bg N' h = _
              rw [hb0, Nat.add_zero]
            have HE1 := hid e1
            have hnx : h + 1 < N.length := by
              rcases Nat.lt_or_ge (h + 1) N.length with h9 | h9
              · exact h9
              · exfalso
                have e2 : N'.length = h + 1 := by omega
                have e3 := bS_all N' HS1.out.2 HS1.out.1
                rw [e2, e1] at e3
                have := HP.out.lt
                have := HHb.out
                omega
            have hx0 : ¬ (x : Int) < 0 := by omega
            clear hb0 e1 hz HCk
            go_wp2
            go_roundw
            case rel => exact ⟨h + 1, x, false, hnx, by rw [HE1.out]; exact HHb.out, by rw [HE1.out]; exact HX.out, by first | rfl | go_num, by go_num, rfl, (by intro h; cases h), HB.out⟩
            case measure => simp [intOf, bOf]; omega
          · have ck := HCk.out
            have hgt : (0 : Int) < ((N'.getD h 0 : Nat) : Int) := by omega
            have HLe := hid (less7_any _ N' h wr HLf.out.1 (by omega) hh' hp1 HS1.out.2)
            have HCA := hid (cntA_less N' h hh' hp1 (by omega) HS1.out.2 HP.out.mm)
            generalize N'.getD h 0 = y at *
            have hbm : bg N' h ≤ mN N' := by
              have := bS_mono N' (show h + 1 ≤ N'.length from hh')
              rw [bS_all N' HS1.out.2 HS1.out.1] at this
              have e1 : bS N' (h + 1) = bS N' h + bg N' h := rfl
              omega
            obtain ⟨b, hbb⟩ : ∃ b, bg N' h = b := ⟨_, rfl⟩
            have HBb := hid hbb
            rw [hbb] at HCA hbm
            have hbI : (b : Int) ≤ 4611686018427387904 := by have := HP.out.mm; omega
            clear hbb HCk hbm
            go_wp2_with fail
            refine Calls.mono HLe.out ?_
            rintro e w5 ⟨⟨v5, rfl, ho5⟩, hb5⟩
            have HC5 := hid (count7_any v5 _ w5 ho5.reads (by rw [iN_len, less_len]; omega))
            rw [HCA.out] at HC5
            have HB5 := hid (HB.out.trans (hb5.mono HB.out.size))
            clear HLe ho5 hb5 HCA
            go_wp2_with fail
            refine Calls.mono HC5.out ?_
            rintro e w6 ⟨rfl, rfl⟩
            clear HC5
            have e1 : bS N' (h + 1) = bS N' h + bg N' h := rfl
            have HE1 := hid e1
            clear e1
            by_cases hlt : x < b
            · have hlI : (x : Int) < (b : Int) := by omega
              go_wp2
              go_roundw
              case rel => exact ⟨h, x, true, hh, HHb.out, HX.out, rfl, rfl, rfl, (fun _ => by have := HE1.out; have := HBb.out; have := HX.out; have := HHb.out; omega), HB5.out⟩
              case measure => simp [bOf]
            · have hlI : ¬ (x : Int) < (b : Int) := by omega
              have hnx : h + 1 < N.length := by
                rcases Nat.lt_or_ge (h + 1) N.length with h9 | h9
                · exact h9
                · exfalso
                  have e2 : N'.length = h + 1 := by omega
                  have e3 := bS_all N' HS1.out.2 HS1.out.1
                  rw [e2] at e3
                  have := HP.out.lt
                  have := HHb.out
                  have := HE1.out
                  have := HBb.out
                  have := HX.out
                  omega
              go_wp2
              go_roundw
              case rel =>
                have := HE1.out
                have := HBb.out
                have := HX.out
                have := HHb.out
                exact ⟨h + 1, x - b, false, hnx, by omega, by omega, by rw [show ((x - b : Nat) : Int) = (x : Int) - (b : Int) by omega], by go_num, rfl, (by intro h; cases h), HB5.out⟩
              case measure => simp [intOf, bOf]; omega
        | true =>
          have hlt2 := HFb.out rfl
          have H1 := hid (show 1 ≤ N'.getD h 0 from by
            rcases Nat.eq_zero_or_pos (N'.getD h 0) with h9 | h9
            · have := (bg_mul N' h hh' HS1.out.2 HS1.out.1).2.1 h9
              have e1 : bS N' (h + 1) = bS N' h + bg N' h := rfl
              have := HHb.out
              omega
            · exact h9)
          have HL2 := hid hlt2
          have HO := hid (HP.out.own.below (HB.out))
          have HBW := hid (HP.out.be.trans (HB.out.mono HP.out.be.size))
          clear HFb hlt2
          have hws := HBW.out.size
          go_wp2_with (at_builtin; refine wpList_appI rfl _ _ rfl w2.heap.size _ (iN P) rfl (HO.out.alloc _) _ [(h : Int)] rfl (ri_one _ _) (by simp [iN_len]; omega) (by simp; omega) ?hnext)
          case hnext =>
            intro v7 w7 ho7 hg7
            have HO7 := hid (show OI w7 w2.heap.size v7 (iN (P ++ [h])) by rw [show iN (P ++ [h]) = iN P ++ [(h : Int)] by simp [iN]]; exact ho7)
            have hsl : slen v7 = P.length + 1 := by
              obtain ⟨ao8, c8, e8⟩ := HO7.out.reads.len0
              rw [e8, iN_len, List.length_append]
              rfl
            have hlf7 := (HLf.out.later ((Below.refl wr.heap.size wr).alloc (by omega) (.cells #[.int .i64 (h : Int)] 3))).2 _ hg7
            have HLe := hid (less7_any _ N' h w7 hlf7 (by omega) hh' H1.out HS1.out.2)
            have hB7 := (HBW.out.alloc (by omega) (.cells #[.int .i64 (h : Int)] 3)).grown hg7 (by simp; omega) (fun k' hk' => HO.out.block_ge k' hk')
            have HB7 := hid hB7
            clear ho7 hg7 hlf7 hB7
            go_wp2_with fail
            refine Calls.mono HLe.out ?_
            rintro e w8 ⟨⟨v8, rfl, ho8⟩, hb8⟩
            have HO8 := hid ho8
            have HO78 := hid (HO7.out.below hb8)
            have HB8 := hid (HB7.out.trans (hb8.mono HB7.out.size))
            clear ho8 hb8 HLe
            go_wp2
            go_roundw
            case rel =>
              have hbm := (bg_mul N' h hh' HS1.out.2 HS1.out.1).2.2 H1.out
              have ht := (mN_less N' h hh' H1.out HS1.out.2).2
              have e1 : bS N' (h + 1) = bS N' h + bg N' h := rfl
              refine ⟨less N' h, P ++ [h], x, rfl, ⟨LF.fresh HO8.out (fun g hg => (HO7.out.own_lt g hg).2), by rw [less_len]; exact hlen, ?_, ?_, ?_, HO78.out, HB8.out, fun L hL => ?_⟩⟩
              · rw [List.length_append, List.length_singleton]
                omega
              · have := HL2.out
                have := HX.out
                have := HHb.out
                omega
              · exact Nat.le_trans (mN_less_le N' h hh' HS1.out.1 HS1.out.2 H1.out) HP.out.mm
              · rw [List.append_assoc]
                refine HP.out.mx (h :: L) (Mx.cons N' n' h L hh' H1.out HHb.out (by rw [← HX.out]; exact hL) HL2.out)
            case measure => rw [hsl]; show _ < tt - P.length; omega
set_option maxHeartbeats 1000000 in
theorem nth7R_any (v : Value) (R : List Int) (n : Int) (w : World) (hr : RI w v R) (hl : R.length ≤ 9223372036854775807) (hn : -9223372036854775808 ≤ n ∧ n ≤ 9223372036854775807) :
    Calls Try.prog 23 #[v, .int .i64 n] w fun e w' => NthA R n w w' e ∧ Below w.heap.size w w' := by
  have HCo := hid (count7_any v R w hr hl)
  rcases cnt_err R with h0 | h26 | h2
  · obtain ⟨N, rfl, a1, a2, a3, a4, a5⟩ := cnt_ok h0
    by_cases hneg : n < 0
    · have HA := hid (show ∀ w', NthA (iN N) n w w' (.returned (.tuple #[.slice none 0 0, .int .i64 2])) from fun w' => .inr (.inl ⟨h0, .inl hneg, rfl⟩))
      rw [a5] at HCo
      obtain ⟨ao, cap, hv⟩ := hr.len0
      subst hv
      clear hr
      have hm1 : ((mN N : Nat) : Int) ≤ 4611686018427387904 := Int.ofNat_le.2 a4
      generalize mN N = M at *
      clear h0 a5 a4
      have hd : decide (n < 0) = true := decide_eq_true hneg
      go_enter Try.func23, Try.ntmps23
      go_wp2_with fail
      refine Calls.mono HCo.out ?_
      rintro e w1 ⟨rfl, rfl⟩
      clear HCo
      go_wp2
      go_ret2
      exact ⟨HA.out _, Below.refl _ _⟩
    · by_cases hbig : (mN N : Int) ≤ n
      · have HA := hid (show ∀ w', NthA (iN N) n w w' (.returned (.tuple #[.slice none 0 0, .int .i64 2])) from fun w' => .inr (.inl ⟨h0, .inr (by rw [a5]; exact hbig), rfl⟩))
        rw [a5] at HCo
        obtain ⟨ao, cap, hv⟩ := hr.len0
        subst hv
        clear hr
        generalize mN N = M at *
        clear h0 a5 a4
        have hd : decide (n < 0) = false := decide_eq_false hneg
        have hd2 : decide ((M : Int) ≤ n) = true := decide_eq_true hbig
        go_enter Try.func23, Try.ntmps23
        go_wp2_with fail
        refine Calls.mono HCo.out ?_
        rintro e w1 ⟨rfl, rfl⟩
        clear HCo
        go_wp2
        go_ret2
        exact ⟨HA.out _, Below.refl _ _⟩
      · obtain ⟨m, rfl⟩ : ∃ m : Nat, n = (m : Int) := ⟨n.toNat, by omega⟩
        have hm : m < mN N := by omega
        refine (nth7X v N m w hr a1 a2 a3 a4 a5 hm).mono ?_
        rintro e w' ⟨⟨v', L, rfl, ho, hx⟩, hb⟩
        exact ⟨.inr (.inr ⟨h0, N, m, v', L, rfl, rfl, hm, a5, a1, a2, a3, a4, rfl, ho, hx⟩), hb⟩
  all_goals
    have hne : (cntA R).2 ≠ 0 := by rw [‹(cntA R).2 = _›]; decide
    have HA := hid (show ∀ w', NthA R n w w' (.returned (.tuple #[.slice none 0 0, .int .i64 (cntA R).2])) from fun w' => .inl ⟨hne, rfl⟩)
    have hhh := ‹(cntA R).2 = _›
    rw [hhh] at HCo HA
    obtain ⟨ao, cap, hv⟩ := hr.len0
    subst hv
    clear hr hne hhh
    go_enter Try.func23, Try.ntmps23
    go_wp2_with fail
    refine Calls.mono HCo.out ?_
    rintro e w1 ⟨rfl, rfl⟩
    clear HCo
    go_wp2
    go_ret2
    exact ⟨HA.out _, Below.refl _ _⟩
end Go.Proofs.Ytaiccmbhdgecgaa
