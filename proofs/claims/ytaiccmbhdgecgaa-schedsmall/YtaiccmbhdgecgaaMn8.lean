/-
  Rank of a mix: the walk.
-/
import Derived.Test.YtaiccmbhdgecgaaMn7
namespace Go.Proofs.Ytaiccmbhdgecgaa
open Go.RowKit
set_option maxRecDepth 100000
attribute [local go_sem ↓] mki_op

/-- between two picks of Rank -/
structure RP (n : Nat) (B : Nat) (w1 wx : World) (rb g : Nat) (T N' : List Nat) (n' r : Nat) : Prop where
  nx : NX wx rb g 16 16 N'
  mx : Mx N' n' T
  sum : r + n' = n
  tt : tN2 N' ≤ 24
  mm : mN N' ≤ 4611686018427387904
  be : Below B w1 wx
set_option maxHeartbeats 4000000 in
theorem rankX (v : Value) (L N : List Nat) (n : Nat) (w : World) (hr : RI w v (iN L)) (hx : Mx N n L) (h0 : 1 ≤ N.length) (hl : N.length ≤ 16) (hs : tN2 N ≤ 24) (hm : mN N ≤ 4611686018427387904) (hc : cntA (iN N) = ((mN N : Int), 0)) (hn : n < mN N) :
    Calls Try.prog 12 #[v] w fun e w' => e = .returned (.tuple #[.int .i64 (n : Int), .int .i64 0]) ∧ Below w.heap.size w w' := by
  have hin : ∀ x ∈ L, x < 16 := fun x h => Nat.lt_of_lt_of_le (mx_in hx x h) hl
  have hLl := mx_len hx hs
  have HAb := hid (areBelow_any v (iN L) 16 w hr (by rw [iN_len]; omega))
  rw [show inB (iN L) 16 = true from (inB_iff _ _).2 (fun i h => by rw [iN_len] at h; rw [iN_at L i _ h]; have := hin L[i] (List.getElem_mem _); omega)] at HAb
  have hp := pad16 hx hl
  have HCnt := hid (hp.cnt (by rw [C16_len]; omega) h0 hs (cOk_of hc) hm)
  have HMx := hid (mx_pad hx _ hp)
  have HT := hid (show tN2 (C16 L) = L.length by rw [hp.t, hLl])
  have HMm := hid hp.m
  have HcR := hid (cR_is L hin)
  have HIn := hid hin
  have HN := hid (And.intro hm hn)
  obtain ⟨ao, cap, rfl, hcc, hn0, hcell⟩ := hr
  rw [iN_len] at hcc
  have HC := hid (show ∀ j (hj : j < L.length), ∃ g off, ao = some ⟨g, off, none⟩ ∧ w.cell? ⟨g, off + j, none⟩ = some (.int .i64 ((L[j] : Nat) : Int)) from fun j hj => by
    obtain ⟨g, off, e, c⟩ := hcell j (by rw [iN_len]; exact hj)
    rw [iN_at L j _ hj] at c
    exact ⟨g, off, e, c⟩)
  have hm16 : ∀ w : World, (mkI (.int .i64 16) (.int .i64 16)).run Try.prog w = .ok (.slice (some ⟨w.heap.size, 0, none⟩) 16 16) (w.alloc (.cells (ic (List.replicate 16 0)).toArray 3)) := run_mkI 16 (by omega)
  obtain ⟨Z, hZ⟩ : ∃ Z, (ic (List.replicate 16 0)).toArray = Z := ⟨_, rfl⟩
  rw [hZ] at hm16
  have HZ := hid hZ
  rw [iN_len] at HAb ⊢
  have hL24 : L.length ≤ 24 := by omega
  have hL24I : ¬ (24 : Int) < (L.length : Int) := by omega
  have hmI : (mN N : Int) ≤ 4611686018427387904 := Int.ofNat_le.2 hm
  clear hcell hn0 hZ hx hin hp hc hn hm h0 hl hLl
  obtain ⟨MM, hMM⟩ : ∃ MM, mN N = MM := ⟨_, rfl⟩
  rw [hMM] at HCnt hmI HMm
  have HMM := hid hMM
  clear hMM
  go_enter Try.func12, Try.ntmps12
  go_wp2_with fail
  refine Calls.mono HAb.out ?_
  rintro e w1 ⟨rfl, rfl⟩
  clear HAb
  go_wp2_with fail
  obtain ⟨W, hW⟩ : ∃ W, w1.alloc (.cells Z 3) = W := ⟨_, rfl⟩
  rw [hW]
  have HB := hid (show Below w1.heap.size w1 W by rw [← hW]; exact (Below.refl _ _).alloc (Nat.le_refl _) _)
  have HRo := hid (show RowI W w1.heap.size (cR L 0) by rw [← hW, ← HZ.out]; exact heap_alloc_new w1 _)
  clear hW hm16 HZ
  generalize hgg : w1.heap.size = g at *
  go_loopw [6, 25] (fun _ vi wx => ∃ j : Nat, j ≤ L.length ∧ vi = .int .i64 (j : Int) ∧ RowI wx g (cR L j) ∧ Below g w1 wx) (fun _ vi _ => L.length - (intOf vi).toNat)
  case atStart => exact ⟨0, Nat.zero_le _, rfl, HRo.out, HB.out⟩
  case round =>
    obtain ⟨j, hj, rfl, hro, hB⟩ := hrel
    have HRo := hid hro
    have HB := hid hB
    clear hro hB
    by_cases h : j < L.length
    · have hI : (j : Int) < (L.length : Int) := by omega
      obtain ⟨g', off, e, c⟩ := HC.out j h
      subst e
      have c0 := below_cells (hgg ▸ HB.out) _ _ c
      have hx := HIn.out L[j] (List.getElem_mem _)
      have HS := hid (show cR L (j + 1) = (cR L j).set L[j] ((cR L j).getD L[j] 0 + 1) by rw [← gN L j h]; rfl)
      have hy := cR_le L j L[j]
      have k0 := HRo.out.cell L[j] (by rw [cR_len]; exact hx)
      have k1 := HRo.out.frozen L[j]
      have HPu := hid (HRo.out.put L[j] ((cR L j).getD L[j] 0 + 1))
      have HB2 := hid (show Below g w1 (wr.setCell ⟨g, L[j], none⟩ (.int .i64 ((cR L j).getD L[j] 0 + 1))) from HB.out.setCell (Nat.le_refl _) _)
      rw [← HS.out] at HPu
      clear c
      generalize (cR L j).getD L[j] 0 = y at *
      generalize L[j] = x at *
      have hxI : (x : Int) < 16 := by omega
      have hyI : y ≤ 24 := by omega
      go_wp2
      go_roundw
      case rel => exact ⟨j + 1, by omega, by go_num, HPu.out, HB2.out⟩
      case measure => simp [intOf]; omega
    · have hI : ¬ (j : Int) < (L.length : Int) := by omega
      obtain rfl : j = L.length := by omega
      have HRo2 := hid (show RowI wr g (iN (C16 L)) by have := HRo.out; rw [HcR.out _ (Nat.le_refl _), List.take_length] at this; exact this)
      have HCo := hid (show Calls Try.prog 9 #[.slice (some ⟨g, 0, none⟩) 16 16] wr fun e w' => e = .returned (.tuple #[.int .i64 (MM : Int), .int .i64 0]) ∧ w' = wr by
        have h1 := HRo2.out.reads
        rw [iN_len, C16_len] at h1
        have := countR_any _ (iN (C16 L)) wr h1 (by rw [iN_len, C16_len]; decide)
        rw [HCnt.out] at this
        exact this)
      have hgs := HRo.out.lt
      go_wp2_with fail
      refine Calls.mono HCo.out ?_
      rintro e w3 ⟨rfl, rfl⟩
      clear HCo
      go_wp2_with fail
      obtain ⟨W2, hW2⟩ : ∃ W2, w3.alloc (.cells #[.slice (some ⟨g, 0, none⟩) 16 16, .int .i64 (L.length : Int), .int .i64 (MM : Int)] 63) = W2 := ⟨_, rfl⟩
      rw [hW2]
      have HNX := hid (show NX W2 w3.heap.size g 16 16 (C16 L) from ⟨C16_len L, _, ⟨by rw [← hW2, HT.out, HMm.out]; exact heap_alloc_new w3 _, by rw [← hW2]; exact (((Below.refl w3.heap.size w3).alloc (Nat.le_refl _) _).block g hgs).trans HRo2.out⟩, fun i hi => by
        have e1 := HRo2.out.cell i (by rw [iN_len, C16_len]; exact hi)
        rw [iN_getD] at e1
        rw [cell_of_row w3 g i _ _ _ HRo2.out] at e1
        simpa using e1⟩)
      have HB3 := hid (show Below g w1 W2 by rw [← hW2]; exact HB.out.alloc (by omega) _)
      clear hW2 HB HRo
      generalize w3.heap.size = rb at *
      have hgr : g ≠ rb := by omega
      have HP0 := hid (show RP n g w1 W2 rb g L (C16 L) n 0 from ⟨HNX.out, HMx.out, by omega, by rw [HT.out]; exact hL24, by rw [HMm.out]; omega, HB3.out⟩)
      have hnI : (n : Int) ≤ 4611686018427387904 := by have := HN.out; omega
      clear HNX HB3 HMx HT HMm HMM HN HCnt HRo2
      go_loopw [10, 12, 13, 51, 55, 56] (fun vr _ _ vi _ _ wx => ∃ (k r n' : Nat) (N' : List Nat), k ≤ L.length ∧ vi = .int .i64 (k : Int) ∧ vr = .int .i64 (r : Int) ∧ RP n g w1 wx rb g (L.drop k) N' n' r) (fun _ _ _ vi _ _ _ => L.length - (intOf vi).toNat)
      case atStart => exact ⟨0, 0, n, _, Nat.zero_le _, rfl, rfl, HP0.out⟩
      case round =>
        obtain ⟨k, r, n', N', hk, rfl, rfl, hp⟩ := hrel
        have HP := hid hp
        clear hp HP0
        by_cases hkl : k < L.length
        · have hkI : (k : Int) < (L.length : Int) := by omega
          obtain ⟨g', off, e, c⟩ := HC.out k hkl
          subst e
          have c0 := below_cells (hgg ▸ HP.out.be) _ _ c
          have HX := hid (show RP n g w1 wr rb g (L[k] :: L.drop (k + 1)) N' n' r by rw [← List.drop_eq_getElem_cons hkl]; exact HP.out)
          have hx := HIn.out L[k] (List.getElem_mem _)
          clear c HP
          generalize L[k] = p at *
          obtain ⟨t1, t2, t3, t4⟩ := mx_tail HX.out.mx
          have H1 := hid t1
          have H2 := hid t2
          have H3 := hid t3
          have H4 := hid t4
          have HS1 := hid (show 1 ≤ tN2 N' by have := getD_le N' p H1.out; have := H2.out; omega)
          have hpI : (p : Int) < 16 := by omega
          have hSn := HX.out.sum
          clear t1 t2 t3 t4
          obtain ⟨wo, hwo⟩ : ∃ wo, wo = wr := ⟨_, rfl⟩
          subst hwo
          go_wp2_with fail
          go_loopw [10, 13, 56] (fun vr _ vh wx => ∃ h q : Nat, h ≤ p ∧ vr = .int .i64 ((r + bS N' h : Nat) : Int) ∧ vh = .int .i64 (h : Int) ∧ wx = wo.drewN q) (fun _ _ vh _ => p - (intOf vh).toNat)
          case atStart => exact ⟨0, 0, by omega, rfl, rfl, rfl⟩
          case round =>
            obtain ⟨h, q, hh, rfl, rfl, rfl⟩ := hrel
            by_cases hlt : h < p
            · have hlI : (h : Int) < (p : Int) := by omega
              have HB1 := hid ((HX.out.nx.drewN q).beg h (by omega) HS1.out HX.out.tt HX.out.mm)
              have hle := bS_mono N' (show h + 1 ≤ p from hlt)
              have he : bS N' (h + 1) = bS N' h + bg N' h := rfl
              have h3 := H3.out
              have HE := hid he
              obtain ⟨x, hx2⟩ : ∃ x, r + bS N' h = x := ⟨_, rfl⟩
              obtain ⟨b, hb2⟩ : ∃ b, bg N' h = b := ⟨_, rfl⟩
              have HX2 := hid hx2
              have HB2 := hid hb2
              rw [hb2] at HB1
              rw [hx2]
              have hxb : (x : Int) + (b : Int) ≤ 4611686018427387904 := by omega
              clear hle he h3 hx2 hb2 hlt
              go_wp2_with fail
              refine Calls.mono HB1.out ?_
              rintro e w5 ⟨rfl, n5, rfl⟩
              clear HB1
              go_wp2
              go_roundw
              case rel =>
                refine ⟨h + 1, q + n5, by omega, ?_, by go_num, by first | rfl | (simp only [World.drewN_drewN])⟩
                have := HE.out
                have := HX2.out
                have := HB2.out
                rw [show ((r + bS N' (h + 1) : Nat) : Int) = (x : Int) + (b : Int) by omega]
              case measure => simp [intOf]; omega
            · have hlI : ¬ (h : Int) < (p : Int) := by omega
              obtain rfl : h = p := by omega
              have HTk := hid ((HX.out.nx.drewN q).take hgr h (by omega) HS1.out HX.out.tt HX.out.mm H2.out)
              obtain ⟨wp, hwp⟩ : ∃ wp, wo.drewN q = wp := ⟨_, rfl⟩
              have HBp := hid (show Below g w1 wp by rw [← hwp]; exact below_drewN HX.out.be q)
              rw [hwp] at HTk ⊢
              clear hwp hlt
              go_wp2_with fail
              refine Calls.mono HTk.out ?_
              rintro e w6 ⟨rfl, hn6, ho6⟩
              have HN6 := hid hn6
              have HB6 := hid (HBp.out.trans (ho6.below (by omega) (Nat.le_refl _)))
              clear hn6 ho6 HTk HBp
              go_wp2
              go_roundw
              case rel =>
                have hp2 := HX.out.tt
                have ht := (mN_less N' h H1.out H2.out hp2).2
                have h3 := H3.out
                exact ⟨k + 1, r + bS N' h, n' - bS N' h, less N' h, by omega, by go_num, rfl, ⟨HN6.out, H4.out, by omega, by omega, Nat.le_trans (mN_less_le N' h H1.out HS1.out hp2 H2.out) HX.out.mm, HB6.out⟩⟩
              case measure => simp [intOf]; omega
        · have hkI : ¬ (k : Int) < (L.length : Int) := by omega
          obtain rfl : k = L.length := by omega
          have h0 : n' = 0 := by
            have := HP.out.mx
            rw [List.drop_length] at this
            exact mx_nil this
          have hrn : r = n := by have := HP.out.sum; omega
          subst hrn
          go_wp2
          go_ret2
          exact ⟨rfl, hgg ▸ HP.out.be⟩
end Go.Proofs.Ytaiccmbhdgecgaa
