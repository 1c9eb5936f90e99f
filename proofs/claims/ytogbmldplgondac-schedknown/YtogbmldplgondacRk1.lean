/-
  Rank of 0, 1, 0: laid by mkrk.py.
-/
import Derived.Test.YtogbmldplgondacSw1
import Derived.Test.YtogbmldplgondacNt4
namespace Go.Proofs.Ytogbmldplgondac
open Go.RowKit
set_option maxRecDepth 100000

def P010 : List Nat := [0, 1, 0]
def N16 : List Nat := [2, 1, 0, 0, 0, 0, 0, 0, 0, 0, 0, 0, 0, 0, 0, 0]
theorem p010_in : ∀ i, P010.getD i 0 < 16
  | 0 => by decide
  | 1 => by decide
  | 2 => by decide
  | i + 3 => by
    rw [List.getD_eq_getElem?_getD, List.getElem?_eq_none (by simp [P010])]
    decide
attribute [local go_sem ↓] mki_op
set_option maxHeartbeats 4000000 in
theorem rank_known (v : Value) (w : World) (hr : RI w v (iN P010)) :
    Calls Try.prog 12 #[v] w fun e w' => e = .returned (.tuple #[.int .i64 1, .int .i64 0]) ∧ Below w.heap.size w w' := by
  have HAb := hid (show Calls Try.prog 48 #[v, .int .i64 16] w fun e w' => e = .returned (.bool true) ∧ w' = w from areBelow_any v (iN P010) 16 w hr (by decide))
  obtain ⟨ao, cap, hv, hc, hn0, hcell⟩ := hr
  rw [show (iN P010).length = 3 from rfl] at hv
  subst hv
  obtain ⟨g', off, hao, q0⟩ := hcell 0 (by decide)
  have q1 : w.cell? ⟨g', off + 1, none⟩ = some (.int .i64 1) := by
    obtain ⟨g2, off2, hao2, c⟩ := hcell 1 (by decide)
    rw [hao] at hao2
    injection hao2 with e
    injection e with e1 e2
    subst e1 e2
    exact c
  have q2 : w.cell? ⟨g', off + 2, none⟩ = some (.int .i64 0) := by
    obtain ⟨g2, off2, hao2, c⟩ := hcell 2 (by decide)
    rw [hao] at hao2
    injection hao2 with e
    injection e with e1 e2
    subst e1 e2
    exact c
  have q0 : w.cell? ⟨g', off, none⟩ = some (.int .i64 0) := q0
  subst hao
  have HQ := hid (show ∀ j : Nat, j < 3 → w.cell? ⟨g', off + j, none⟩ = some (.int .i64 ((P010.getD j 0 : Nat) : Int)) from fun j hj => by
    match j, hj with
    | 0, _ => exact q0
    | 1, _ => exact q1
    | 2, _ => exact q2)
  have hm : ∀ w : World, (mkI (.int .i64 16) (.int .i64 16)).run Try.prog w = .ok (.slice (some ⟨w.heap.size, 0, none⟩) 16 16) (w.alloc (.cells (ic (List.replicate 16 0)).toArray 3)) := run_mkI 16 (by omega)
  obtain ⟨Z, hZ⟩ : ∃ Z, (ic (List.replicate 16 0)).toArray = Z := ⟨_, rfl⟩
  rw [hZ] at hm
  have HZ := hid hZ
  clear hcell hn0 hZ q0 q1 q2
  go_enter Try.func12, Try.ntmps12
  go_wp2_with fail
  refine Calls.mono HAb.out ?_
  rintro e w1 ⟨rfl, rfl⟩
  clear HAb
  go_wp2_with fail
  obtain ⟨W, hW⟩ : ∃ W, w1.alloc (.cells Z 3) = W := ⟨_, rfl⟩
  rw [hW]
  have HB := hid (show Below w1.heap.size w1 W by rw [← hW]; exact (Below.refl _ _).alloc (Nat.le_refl _) _)
  have HRo := hid (show RowI W w1.heap.size (cR P010 0) by rw [← hW, ← HZ.out]; exact heap_alloc_new w1 _)
  clear hW hm HZ
  generalize hgg : w1.heap.size = g at *
  go_loopw [6, 25] (fun _ vi wx => ∃ j : Nat, j ≤ 3 ∧ vi = .int .i64 (j : Int) ∧ RowI wx g (cR P010 j) ∧ Below g w1 wx) (fun _ vi _ => 3 - (intOf vi).toNat)
  case atStart => exact ⟨0, Nat.zero_le _, rfl, HRo.out, HB.out⟩
  case round =>
    obtain ⟨j, hj, rfl, hro, hB⟩ := hrel
    have HRo := hid hro
    have HB := hid hB
    clear hro hB
    by_cases h : j < 3
    · have hI : (j : Int) < 3 := by omega
      have c0 := below_cells (hgg ▸ HB.out) _ _ (HQ.out j h)
      have hx := p010_in j
      have HS := hid (show cR P010 (j + 1) = (cR P010 j).set (P010.getD j 0) ((cR P010 j).getD (P010.getD j 0) 0 + 1) from rfl)
      have hy := cR_le P010 j (P010.getD j 0)
      have k0 := HRo.out.cell (P010.getD j 0) (by rw [cR_len]; exact hx)
      have k1 := HRo.out.frozen (P010.getD j 0)
      have HPu := hid (HRo.out.put (P010.getD j 0) ((cR P010 j).getD (P010.getD j 0) 0 + 1))
      have HB2 := hid (show Below g w1 (wr.setCell ⟨g, P010.getD j 0, none⟩ (.int .i64 ((cR P010 j).getD (P010.getD j 0) 0 + 1))) from HB.out.setCell (Nat.le_refl _) _)
      rw [← HS.out] at HPu
      generalize (cR P010 j).getD (P010.getD j 0) 0 = y at *
      generalize P010.getD j 0 = x at *
      have hxI : (x : Int) < 16 := by omega
      go_wp2
      go_roundw
      case rel => exact ⟨j + 1, by omega, by go_num, HPu.out, HB2.out⟩
      case measure => simp [intOf]; omega
    · have hI : ¬ (j : Int) < 3 := by omega
      obtain rfl : j = 3 := by omega
      have HCo := hid (show Calls Try.prog 23 #[.slice (some ⟨g, 0, none⟩) 16 16] wr fun e w' => e = .returned (.tuple #[.int .i64 3, .int .i64 0]) ∧ w' = wr from countOf_any _ N16 wr HRo.out.reads (by decide) (by decide) (by decide))
      have hgs := HRo.out.lt
      go_wp2_with fail
      refine Calls.mono HCo.out ?_
      rintro e w3 ⟨rfl, rfl⟩
      clear HCo
      go_wp2_with fail
      obtain ⟨W2, hW2⟩ : ∃ W2, w3.alloc (.cells #[.slice (some ⟨g, 0, none⟩) 16 16, .int .i64 3, .int .i64 3] 80) = W2 := ⟨_, rfl⟩
      rw [hW2]
      have HNS := hid (show NS W2 w3.heap.size g 16 16 3 3 2 1 from ⟨by omega, _, ⟨by rw [← hW2]; exact heap_alloc_new w3 _, by rw [← hW2]; exact (((Below.refl w3.heap.size w3).alloc (Nat.le_refl _) _).block g hgs).trans HRo.out⟩, rfl, rfl⟩)
      have HB3 := hid (show Below g w1 W2 by rw [← hW2]; exact HB.out.alloc (by omega) _)
      clear hW2 HB HRo
      generalize w3.heap.size = rb at *
      have hgr : g ≠ rb := by omega
      go_loopw [10, 12, 13, 51, 55, 56] (fun vr _ _ vi _ _ wx => ∃ k : Nat, k ≤ 3 ∧ vi = .int .i64 (k : Int) ∧ vr = .int .i64 (if k < 2 then 0 else 1) ∧ NS wx rb g 16 16 (3 - k) (if k = 0 then 3 else if k = 1 then 2 else 1) (if k = 0 then 2 else if k = 3 then 0 else 1) (if k < 2 then 1 else 0) ∧ Below g w1 wx) (fun _ _ _ vi _ _ _ => 3 - (intOf vi).toNat)
      case atStart => exact ⟨0, by omega, rfl, rfl, HNS.out, HB3.out⟩
      case round =>
        obtain ⟨k, hk, rfl, rfl, hns, hB⟩ := hrel
        have HB := hid hB
        clear hB HNS HB3
        obtain rfl | rfl | rfl | rfl : k = 0 ∨ k = 1 ∨ k = 2 ∨ k = 3 := by omega
        · as_aux_lemma =>
          have HN := hid (show NS wr rb g 16 16 3 3 2 1 from hns)
          have c0 : wr.cell? ⟨g', off, none⟩ = some (.int .i64 0) := below_cells (hgg ▸ HB.out) _ _ (HQ.out 0 (by omega))
          clear hns
          obtain ⟨wo, hwo⟩ : ∃ wo, wo = wr := ⟨_, rfl⟩
          subst hwo
          simp only [Nat.reduceLT, if_true]
          rw [show ((0 : Nat) : Int) = 0 from rfl]
          go_wp2_with fail
          go_loopw [10, 13, 56] (fun vr _ vh wx => ∃ j : Nat, j ≤ 0 ∧ vr = .int .i64 (0 + (j : Int)) ∧ vh = .int .i64 (j : Int) ∧ ∃ q, wx = wo.drewN q) (fun _ _ vh _ => 0 - (intOf vh).toNat)
          case atStart => exact ⟨0, by omega, rfl, rfl, 0, rfl⟩
          case round =>
            obtain ⟨j, hj, rfl, rfl, q, rfl⟩ := hrel
            have HN := hid (HN.out.drewN q)
            have HB := hid (below_drewN HB.out q)
            generalize hwq : wo.drewN q = wq at *
            obtain rfl : j = 0 := by omega
            have HTk := hid (show Calls Try.prog 45 #[.pointer (some ⟨rb, 0, none⟩), .int .i64 0] wq fun e w' => e = .returned (.tuple #[]) ∧ NS w' rb g 16 16 2 2 1 1 ∧ Of2 rb g wq w' from HN.out.take0 hgr (by omega) (by omega) (by omega) (by omega) (by omega))
            go_wp2_with fail
            refine Calls.mono HTk.out ?_
            rintro e w6 ⟨rfl, hn6, ho6⟩
            have HN6 := hid hn6
            have HB6 := hid (HB.out.trans (ho6.below (by omega) (Nat.le_refl _)))
            clear hn6 ho6 HTk HN HB
            go_wp2
            go_roundw
            case rel => exact ⟨1, by omega, rfl, rfl, HN6.out, HB6.out⟩
            case measure => simp [intOf]
        · as_aux_lemma =>
          have HN := hid (show NS wr rb g 16 16 2 2 1 1 from hns)
          have c0 : wr.cell? ⟨g', off + 1, none⟩ = some (.int .i64 1) := below_cells (hgg ▸ HB.out) _ _ (HQ.out 1 (by omega))
          clear hns
          obtain ⟨wo, hwo⟩ : ∃ wo, wo = wr := ⟨_, rfl⟩
          subst hwo
          simp only [Nat.reduceLT, if_true]
          rw [show ((1 : Nat) : Int) = 1 from rfl]
          go_wp2_with fail
          go_loopw [10, 13, 56] (fun vr _ vh wx => ∃ j : Nat, j ≤ 1 ∧ vr = .int .i64 (0 + (j : Int)) ∧ vh = .int .i64 (j : Int) ∧ ∃ q, wx = wo.drewN q) (fun _ _ vh _ => 1 - (intOf vh).toNat)
          case atStart => exact ⟨0, by omega, rfl, rfl, 0, rfl⟩
          case round =>
            obtain ⟨j, hj, rfl, rfl, q, rfl⟩ := hrel
            have HN := hid (HN.out.drewN q)
            have HB := hid (below_drewN HB.out q)
            generalize hwq : wo.drewN q = wq at *
            by_cases hj0 : j = 0
            · subst hj0
              have HBe := hid (show Calls Try.prog 44 #[.pointer (some ⟨rb, 0, none⟩), .int .i64 0] wq fun e w' => e = .returned (.int .i64 1) ∧ ∃ n, w' = wq.drewN n from HN.out.beg0 (by omega) (by omega) (by omega) (by omega))
              go_wp2_with fail
              refine Calls.mono HBe.out ?_
              rintro e w5 ⟨rfl, n5, rfl⟩
              clear HBe
              go_wp2
              go_roundw
              case rel => exact ⟨1, by omega, rfl, rfl, q + n5, by rw [← hwq, World.drewN_drewN]⟩
              case measure => simp [intOf]
            obtain rfl : j = 1 := by omega
            have HTk := hid (show Calls Try.prog 45 #[.pointer (some ⟨rb, 0, none⟩), .int .i64 1] wq fun e w' => e = .returned (.tuple #[]) ∧ NS w' rb g 16 16 1 1 1 0 ∧ Of2 rb g wq w' from HN.out.take1 hgr (by omega) (by omega) (by omega) (by omega) (by omega))
            go_wp2_with fail
            refine Calls.mono HTk.out ?_
            rintro e w6 ⟨rfl, hn6, ho6⟩
            have HN6 := hid hn6
            have HB6 := hid (HB.out.trans (ho6.below (by omega) (Nat.le_refl _)))
            clear hn6 ho6 HTk HN HB
            go_wp2
            go_roundw
            case rel => exact ⟨2, by omega, rfl, rfl, HN6.out, HB6.out⟩
            case measure => simp [intOf]
        · as_aux_lemma =>
          have HN := hid (show NS wr rb g 16 16 1 1 1 0 from hns)
          have c0 : wr.cell? ⟨g', off + 2, none⟩ = some (.int .i64 0) := below_cells (hgg ▸ HB.out) _ _ (HQ.out 2 (by omega))
          clear hns
          obtain ⟨wo, hwo⟩ : ∃ wo, wo = wr := ⟨_, rfl⟩
          subst hwo
          simp only [Nat.reduceLT, if_false]
          rw [show ((2 : Nat) : Int) = 2 from rfl]
          go_wp2_with fail
          go_loopw [10, 13, 56] (fun vr _ vh wx => ∃ j : Nat, j ≤ 0 ∧ vr = .int .i64 (1 + (j : Int)) ∧ vh = .int .i64 (j : Int) ∧ ∃ q, wx = wo.drewN q) (fun _ _ vh _ => 0 - (intOf vh).toNat)
          case atStart => exact ⟨0, by omega, rfl, rfl, 0, rfl⟩
          case round =>
            obtain ⟨j, hj, rfl, rfl, q, rfl⟩ := hrel
            have HN := hid (HN.out.drewN q)
            have HB := hid (below_drewN HB.out q)
            generalize hwq : wo.drewN q = wq at *
            obtain rfl : j = 0 := by omega
            have HTk := hid (show Calls Try.prog 45 #[.pointer (some ⟨rb, 0, none⟩), .int .i64 0] wq fun e w' => e = .returned (.tuple #[]) ∧ NS w' rb g 16 16 0 1 0 0 ∧ Of2 rb g wq w' from HN.out.take0 hgr (by omega) (by omega) (by omega) (by omega) (by omega))
            go_wp2_with fail
            refine Calls.mono HTk.out ?_
            rintro e w6 ⟨rfl, hn6, ho6⟩
            have HN6 := hid hn6
            have HB6 := hid (HB.out.trans (ho6.below (by omega) (Nat.le_refl _)))
            clear hn6 ho6 HTk HN HB
            go_wp2
            go_roundw
            case rel => exact ⟨3, by omega, rfl, rfl, HN6.out, HB6.out⟩
            case measure => simp [intOf]
        · go_wp2
          go_ret2
          exact ⟨rfl, HB.out⟩
end Go.Proofs.Ytogbmldplgondac
