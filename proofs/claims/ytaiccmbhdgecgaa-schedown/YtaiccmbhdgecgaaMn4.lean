/-
  Nth of any steps.
-/
import Derived.Test.YtaiccmbhdgecgaaMn3
import Derived.Test.YtaiccmbhdgecgaaLe4
namespace Go.Proofs.Ytaiccmbhdgecgaa
open Go.RowKit
set_option maxRecDepth 100000

/-- what is left, in memory -/
def NX (w : World) (rb g len c : Nat) (N : List Nat) : Prop := N.length = len ∧ ∃ row, RB w rb g len c (tN2 N) (mN N) row ∧ ∀ i, i < len → row[i]? = some (.int .i64 ((N.getD i 0 : Nat) : Int))
theorem NX.drewN {w : World} {rb g len c : Nat} {N : List Nat} (h : NX w rb g len c N) (q : Nat) : NX (w.drewN q) rb g len c N := h
theorem NX.below {w w' : World} {rb g len c B : Nat} {N : List Nat} (h : NX w rb g len c N) (k : Below B w w') (h1 : rb < B) (h2 : g < B) : NX w' rb g len c N := by
  obtain ⟨e, row, ⟨r1, r2⟩, a⟩ := h
  exact ⟨e, row, ⟨(k.block rb h1).trans r1, (k.block g h2).trans r2⟩, a⟩
theorem NX.facts {w : World} {rb g len c : Nat} {N : List Nat} (h : NX w rb g len c N) : w.cell? ⟨rb, 1, none⟩ = some (.int .i64 ((tN2 N : Nat) : Int)) := by
  obtain ⟨_, row, ⟨r1, r2⟩, a⟩ := h
  rw [Lib.cell_of_heap r1]
  rfl
theorem getD_le (N : List Nat) (h : Nat) (hh : h < N.length) : N.getD h 0 ≤ tN2 N := by
  have h1 : sN N (h + 1) = sN N h + N.getD h 0 := rfl
  have h2 := sN_mono N (show h + 1 ≤ N.length from hh)
  have h3 : tN2 N = sN N N.length := rfl
  omega
theorem NX.beg {w : World} {rb g len c : Nat} {N : List Nat} (h : NX w rb g len c N) (i : Nat) (hi : i < len) (hp : 1 ≤ tN2 N) (hp2 : tN2 N ≤ 24) (hm : mN N ≤ 4611686018427387904) :
    Calls Try.prog 35 #[.pointer (some ⟨rb, 0, none⟩), .int .i64 (i : Int)] w fun e w' => e = .returned (.int .i64 ((bg N i : Nat) : Int)) ∧ ∃ nn, w' = w.drewN nn := by
  obtain ⟨e, row, r, a⟩ := h
  exact beg24 rb g len c (tN2 N) (mN N) i (N.getD i 0) row w r (a i hi) hi hp hp2 hm (getD_le N i (by omega))
theorem NX.take {w : World} {rb g len c : Nat} {N : List Nat} (h : NX w rb g len c N) (hg : g ≠ rb) (i : Nat) (hi : i < len) (hp : 1 ≤ tN2 N) (hp2 : tN2 N ≤ 24) (hm : mN N ≤ 4611686018427387904) (h1 : 1 ≤ N.getD i 0) :
    Calls Try.prog 36 #[.pointer (some ⟨rb, 0, none⟩), .int .i64 (i : Int)] w fun e w' => e = .returned (.tuple #[]) ∧ NX w' rb g len c (less N i) ∧ Of2 rb g w w' := by
  obtain ⟨e, row, r, a⟩ := h
  refine (take24 rb g len c (tN2 N) (mN N) i (N.getD i 0) row w r hg (a i hi) hi hp hp2 hm (getD_le N i (by omega)) h1).mono ?_
  rintro e' w' ⟨rfl, r', o⟩
  have ht := (mN_less N i (by omega) h1 hp2).2
  have hb := (bg_mul N i (by omega) hp2 hp).2.2 h1
  refine ⟨rfl, ⟨by rw [less_len]; exact e, row.setIfInBounds i (.int .i64 ((N.getD i 0 - 1 : Nat) : Int)), ?_, fun j hj => ?_⟩, o⟩
  · rw [show tN2 (less N i) = tN2 N - 1 by omega, ← hb]
    exact r'
  · rw [less_at N i j (by omega), Array.getElem?_setIfInBounds]
    have hsz := (Array.getElem?_eq_some_iff.1 (a i hi)).1
    by_cases hij : i = j
    · subst hij
      rw [if_pos rfl, if_pos hsz, if_pos rfl]
    · rw [if_neg hij, if_neg (fun e2 => hij e2.symm)]
      exact a j hj
theorem mN_less_le (N : List Nat) (i : Nat) (hi : i < N.length) (hp : 1 ≤ tN2 N) (hp2 : tN2 N ≤ 24) (h1 : 1 ≤ N.getD i 0) : mN (less N i) ≤ mN N := by
  rw [← (bg_mul N i hi hp2 hp).2.2 h1]
  unfold bg
  apply Nat.div_le_of_le_mul
  rw [Nat.mul_comm (tN2 N)]
  exact Nat.mul_le_mul_left _ (getD_le N i hi)
/-- between two picks -/
structure NP (N : List Nat) (n s : Nat) (w1 wx : World) (rb g len c : Nat) (v9 : Value) (N' : List Nat) (n' : Nat) (P : List Nat) : Prop where
  nx : NX wx rb g len c N'
  sum : tN2 N' + P.length = s
  lt : n' < mN N'
  mm : mN N' ≤ 4611686018427387904
  own : OI wx (rb + 1) v9 (iN P)
  be : Below w1.heap.size w1 wx
  rb : rb < wx.heap.size
  mx : ∀ L, Mx N' n' L → Mx N n (P ++ L)
set_option maxHeartbeats 4000000 in
theorem nthX (v : Value) (N : List Nat) (n : Nat) (w : World) (hr : RI w v (iN N)) (h0 : 1 ≤ N.length) (hl : N.length ≤ 16) (hs : tN2 N ≤ 24) (hm : mN N ≤ 4611686018427387904) (hc : cntA (iN N) = ((mN N : Int), 0)) (hn : n < mN N) :
    Calls Try.prog 10 #[v, .int .i64 (n : Int)] w fun e w' => (∃ v' L, e = .returned (.tuple #[v', .int .i64 0]) ∧ OI w' w.heap.size v' (iN L) ∧ Mx N n L) ∧ Below w.heap.size w w' := by
  have HCo := hid (show Calls Try.prog 9 #[v] w fun e w' => e = .returned (.tuple #[.int .i64 (mN N : Int), .int .i64 0]) ∧ w' = w by have := countR_any v (iN N) w hr (by rw [iN_len]; omega); rw [hc] at this; exact this)
  have HCl := hid (le_clone_any v (iN N) w hr (by rw [iN_len]; omega))
  have HSu := hid (fun wx hb => show Calls Try.prog 34 #[v] wx fun e w' => e = .returned (.int .i64 (tN2 N : Int)) ∧ w' = wx from sumOf_any v N wx (RI.below hr (w' := wx) hb) hs hl)
  obtain ⟨ao, cap, hv⟩ := hr.len0
  rw [iN_len] at hv
  subst hv
  have hnI : (n : Int) < (mN N : Int) := Int.ofNat_lt.2 hn
  have hmI : (mN N : Int) ≤ 4611686018427387904 := Int.ofNat_le.2 hm
  have HN0 := hid (And.intro hn hm)
  have hg1 : ¬ (mN N : Int) ≤ (n : Int) := by omega
  have hg2 : ¬ (n : Int) < 0 := by omega
  clear hr hc hn hm
  obtain ⟨MM, hMM⟩ : ∃ MM, mN N = MM := ⟨_, rfl⟩
  have HMM := hid hMM
  rw [hMM] at HCo hnI hmI hg1
  have hd1 : decide ((n : Int) < 0) = false := decide_eq_false hg2
  have hd2 : decide ((MM : Int) ≤ (n : Int)) = false := decide_eq_false hg1
  clear hMM
  go_enter Try.func10, Try.ntmps10
  go_wp2_with fail
  refine Calls.mono HCo.out ?_
  rintro e w1 ⟨rfl, rfl⟩
  clear HCo
  go_wp2_with fail
  refine Calls.mono HCl.out ?_
  rintro e w2 ⟨⟨v2, rfl, ho2⟩, hb2⟩
  have HS2 := hid (HSu.out w2 hb2)
  have HB2 := hid hb2
  have hz2 := hb2.size
  obtain ⟨g, c, cur, hv2, hg, hgg, hcc, _, _, htk⟩ : ∃ g cap cur, v2 = .slice (some ⟨g, 0, none⟩) N.length cap ∧ w1.heap.size ≤ g ∧ w2.heap[g]? = some (.cells cur 3 (0, 0)) ∧ N.length ≤ cap ∧ cap ≤ maxLen ∧ cur.size = cap * 1 ∧ cur.toList.take (N.length * 1) = ic (iN N) := by
    have hh := ho2.2
    rw [iN_len] at hh
    rcases hh with h2 | h2
    · omega
    · exact h2
  have hgs : g < w2.heap.size := (Array.getElem?_eq_some_iff.1 hgg).1
  have HG := hid hgg
  have HR2 := hid (show ∀ i, i < N.length → cur[i]? = some (.int .i64 ((N.getD i 0 : Nat) : Int)) from fun i hi => by
    have h0 : (cur.toList.take (N.length * 1))[i]? = some (.int .i64 ((N.getD i 0 : Nat) : Int)) := by
      rw [htk, gN N i hi]
      unfold ic iN
      simp [hi]
    rw [List.getElem?_take, if_pos (by omega)] at h0
    rw [← Array.getElem?_toList]
    exact h0)
  subst hv2
  clear ho2 hb2 hgg htk HCl HSu
  go_wp2_with fail
  refine Calls.mono HS2.out ?_
  rintro e w3 ⟨rfl, rfl⟩
  clear HS2
  go_wp2_with fail
  obtain ⟨W, hW⟩ : ∃ W, w3.alloc (.cells #[.slice (some ⟨g, 0, none⟩) N.length c, .int .i64 ((tN2 N : Nat) : Int), .int .i64 ((MM : Nat) : Int)] 63) = W := ⟨_, rfl⟩
  rw [hW]
  have hWs : W.heap.size = w3.heap.size + 1 := by rw [← hW, World.size_alloc]
  have HNX := hid (show NX W w3.heap.size g N.length c N from ⟨rfl, cur, ⟨by rw [← hW, HMM.out]; exact heap_alloc_new w3 _, by rw [← hW]; exact (((Below.refl w3.heap.size w3).alloc (Nat.le_refl _) _).block g hgs).trans HG.out⟩, HR2.out⟩)
  have HBW := hid (show Below w1.heap.size w1 W by rw [← hW]; exact HB2.out.alloc hz2 _)
  clear hW HG HR2 HB2
  generalize w3.heap.size = rb at *
  have hgr : g ≠ rb := by omega
  have HP0 := hid (show NP N n (tN2 N) w1 W rb g N.length c (.slice none 0 0) N n [] from ⟨HNX.out, rfl, HN0.out.1, HN0.out.2, OI.nil _ _, HBW.out, by omega, fun L h => h⟩)
  clear HNX HBW
  have hlen : N.length ≤ 16 := hl
  go_loopw [1, 9, 10] (fun vn v9 _ wx => ∃ (N' P : List Nat) (n' : Nat), vn = .int .i64 (n' : Int) ∧ NP N n (tN2 N) w1 wx rb g N.length c v9 N' n' P) (fun _ v9 _ _ => tN2 N - slen v9)
  case atStart => exact ⟨N, [], n, rfl, HP0.out⟩
  case round =>
    obtain ⟨N', P, n', rfl, hp⟩ := hrel
    clear HP0
    have HP := hid hp
    have c1 := hp.nx.facts
    have hsum := hp.sum
    obtain ⟨a9, c9, hv9⟩ := hp.own.reads.len0
    rw [iN_len] at hv9
    subst hv9
    obtain ⟨s', hs'⟩ : ∃ s', tN2 N' = s' := ⟨_, rfl⟩
    rw [hs'] at c1 hsum
    have HS' := hid hs'
    clear hp hs'
    by_cases h0s : s' = 0
    · subst h0s
      have HE := hid (show Mx N n P by
        have h := HP.out.mx []
        rw [List.append_nil] at h
        have hlt := HP.out.lt
        have h2 := cN_pf N' N'.length (by have : sN N' N'.length = 0 := HS'.out; omega)
        rw [show sN N' N'.length = 0 from HS'.out] at h2
        have h3 : mN N' = 1 := Nat.eq_one_of_mul_eq_one_right h2
        have h4 : n' = 0 := by omega
        subst h4
        exact h (.nil N' HS'.out))
      go_wp2
      go_ret2
      exact ⟨⟨_, P, rfl, HP.out.own.mono (by have := HP.out.be.size; omega), HE.out⟩, HP.out.be⟩
    · have hsI : (0 : Int) < (s' : Int) := by omega
      have hd0 : decide (0 < s') = true := decide_eq_true (by omega)
      obtain ⟨wo, hwo⟩ : ∃ wo, wo = wr := ⟨_, rfl⟩
      subst hwo
      have HFd := hid (find_hd N' n' (by rw [bS_all N' (by have := HS'.out; omega) (by have := HS'.out; omega)]; exact HP.out.lt))
      have HBg := hid (fun i (hi : i < N.length) q => (HP.out.nx.drewN q).beg i hi (by have := HS'.out; omega) (by have := HS'.out; omega) HP.out.mm)
      go_wp2_with fail
      go_loopw [1, 10] (fun vn vh wx => ∃ h q : Nat, h < N.length ∧ bS N' h ≤ n' ∧ vn = .int .i64 ((n' - bS N' h : Nat) : Int) ∧ vh = .int .i64 (h : Int) ∧ wx = wo.drewN q) (fun _ vh _ => N.length - (intOf vh).toNat)
      case atStart => exact ⟨0, 0, by omega, Nat.zero_le _, rfl, rfl, rfl⟩
      case round =>
        obtain ⟨h, q, hh, hb, rfl, rfl, rfl⟩ := hrel
        have HB1 := hid (HBg.out h hh q)
        obtain ⟨x, hx⟩ : ∃ x, n' - bS N' h = x := ⟨_, rfl⟩
        obtain ⟨b, hbb⟩ : ∃ b, bg N' h = b := ⟨_, rfl⟩
        have HBb := hid hbb
        have HX := hid hx
        have HH := hid hb
        rw [hx]
        rw [hbb] at HB1
        have hxM : (x : Int) ≤ 4611686018427387904 := by have := HP.out.lt; have := HP.out.mm; omega
        clear hbb hx hb
        by_cases hge : b ≤ x
        · have hgI : (b : Int) ≤ (x : Int) := Int.ofNat_le.2 hge
          have hnx := hid (show h + 1 < N.length from by
            rcases Nat.lt_or_ge (h + 1) N.length with h9 | h9
            · exact h9
            · exfalso
              have e1 : bS N' (h + 1) = bS N' h + bg N' h := rfl
              have e2 : N'.length = h + 1 := by have := HP.out.nx.1; omega
              have e3 := bS_all N' (by have := HS'.out; omega) (by have := HS'.out; omega)
              rw [e2] at e3
              have := HP.out.lt
              have := HX.out
              have := HBb.out
              have := HH.out
              omega)
          clear hge
          go_wp2_with fail
          refine Calls.mono HB1.out ?_
          rintro e w5 ⟨rfl, n5, rfl⟩
          clear HB1
          have HB2 := hid (HBg.out h hh (q + n5))
          rw [HBb.out] at HB2
          go_wp2_with fail
          refine Calls.mono HB2.out ?_
          rintro e w6 ⟨rfl, n6, rfl⟩
          clear HB2
          go_wp2
          go_roundw
          case rel =>
            refine ⟨h + 1, q + n5 + n6, hnx.out, ?_, ?_, by go_num, by first | rfl | (simp only [World.drewN_drewN, Nat.add_assoc])⟩
            · have e1 : bS N' (h + 1) = bS N' h + bg N' h := rfl
              have := HX.out
              have := HBb.out
              have := HH.out
              omega
            · have e1 : bS N' (h + 1) = bS N' h + bg N' h := rfl
              have e2 := HX.out
              have e3 := HBb.out
              have e4 := HH.out
              rw [show ((n' - bS N' (h + 1) : Nat) : Int) = (x : Int) - (b : Int) by omega]
          case measure => have := hnx.out; simp [intOf]; omega
        · have hgI : ¬ (b : Int) ≤ (x : Int) := fun e => hge (Int.ofNat_le.1 e)
          have HGe := hid hge
          clear hge
          go_wp2_with fail
          refine Calls.mono HB1.out ?_
          rintro e w5 ⟨rfl, n5, rfl⟩
          clear HB1
          have H1 := hid (show 1 ≤ N'.getD h 0 from by
            rcases Nat.eq_zero_or_pos (N'.getD h 0) with h9 | h9
            · have := (bg_mul N' h (by have := HP.out.nx.1; omega) (by have := HS'.out; omega) (by have := HS'.out; omega)).2.1 h9
              have := HBb.out
              have := HGe.out
              omega
            · exact h9)
          have HTk := hid (((HP.out.nx.drewN q).drewN n5).take hgr h hh (by have := HS'.out; omega) (by have := HS'.out; omega) HP.out.mm H1.out)
          obtain ⟨wp, hwp⟩ : ∃ wp, (wo.drewN q).drewN n5 = wp := ⟨_, rfl⟩
          have HBp := hid (show Below wo.heap.size wo wp by rw [← hwp]; exact below_drewN (below_drewN (Below.refl _ _) q) n5)
          rw [hwp] at HTk ⊢
          clear hwp
          go_wp2_with fail
          refine Calls.mono HTk.out ?_
          rintro e w6 ⟨rfl, hn6, ho6⟩
          have HN6 := hid hn6
          have hrbo := HP.out.rb
          have HO6 := hid ((HP.out.own.below HBp.out).of2 ho6 (by omega) (by omega))
          have HB6 := hid ((HP.out.be.trans (HBp.out.mono HP.out.be.size)).trans (ho6.below (by omega) (by omega)))
          have hs6 : rb < w6.heap.size := by rw [ho6.2.2.2.1]; have := HBp.out.size; omega
          have hPl : P.length ≤ 24 := by omega
          clear hn6 ho6 HTk HBp
          go_wp2_with (at_builtin; refine wpList_appI rfl _ _ rfl (rb + 1) _ (iN P) rfl (HO6.out.alloc _) _ [(h : Int)] rfl (ri_one _ _) (by simp [iN_len]; omega) (by simp; omega) ?hnext)
          case hnext =>
            intro v7 w7 ho7 hg7
            have HO7 := hid (show OI w7 (rb + 1) v7 (iN (P ++ [h])) by rw [show iN (P ++ [h]) = iN P ++ [(h : Int)] by simp [iN]]; exact ho7)
            have hsl : slen v7 = P.length + 1 := by
              obtain ⟨ao8, c8, e8⟩ := HO7.out.reads.len0
              rw [e8, iN_len, List.length_append]
              rfl
            have hB67 := (((Below.refl (rb + 1) w6).alloc (by omega) (.cells #[.int .i64 (h : Int)] 3)).grown hg7 (by simp; omega) (fun k' hk' => HO6.out.block_ge k' hk'))
            have HN7 := hid (HN6.out.below hB67 (by omega) (by omega))
            have HB7 := hid (HB6.out.trans (hB67.mono (by omega)))
            have hs7 := hB67.size
            clear ho7 hg7 hB67
            go_wp2
            go_roundw
            case rel =>
              have hh' : h < N'.length := by have := HP.out.nx.1; omega
              have hp1 : 1 ≤ tN2 N' := by have := HS'.out; omega
              have hp2 : tN2 N' ≤ 24 := by have := HS'.out; omega
              have hbm := (bg_mul N' h hh' hp2 hp1).2.2 H1.out
              have ht := (mN_less N' h hh' H1.out hp2).2
              have e1 : bS N' (h + 1) = bS N' h + bg N' h := rfl
              refine ⟨less N' h, P ++ [h], x, rfl, ⟨HN7.out, ?_, ?_, ?_, HO7.out, HB7.out, by omega, fun L hL => ?_⟩⟩
              · have := HS'.out
                rw [List.length_append, List.length_singleton]
                omega
              · have := HBb.out
                have := HGe.out
                omega
              · exact Nat.le_trans (mN_less_le N' h hh' hp1 hp2 H1.out) HP.out.mm
              · rw [List.append_assoc]
                refine HP.out.mx (h :: L) (.cons N' n' h L hh' H1.out HH.out (by rw [HX.out]; exact hL) ?_)
                have := HX.out
                have := HBb.out
                have := HGe.out
                omega
            case measure => rw [hsl]; show _ < tN2 N - P.length; omega
end Go.Proofs.Ytaiccmbhdgecgaa
