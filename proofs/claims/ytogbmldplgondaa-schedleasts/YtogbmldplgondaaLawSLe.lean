/-
  SchedLeasts: the law's walk.
-/
import Derived.Test.YtogbmldplgondaaLe8
import Derived.Test.YtogbmldplgondaaLeP
import Derived.Test.YtogbmldplgondaaSb
import Derived.Deep.QuietTactic
import Derived.BigQuiet
namespace Go.Proofs.Ytogbmldplgondaa
open Go.RowKit
set_option maxRecDepth 100000

set_option maxHeartbeats 4000000 in
theorem leasts_any (v vp : Value) (R : List Int) (P : List Pr) (w : World) (hr : RI w v R) (hp : PL w vp P) (hl : R.length * 8 ≤ reachBytes) (hl2 : P.length * 16 ≤ reachBytes) :
    Calls Try.prog 8 #[v, vp] w fun e w' => e = .returned (.bool true) ∧ Below w.heap.size w w' := by
  have hl' : (R.length + 9) * 8 ≤ 140737488355328 := by have : reachBytes = 140737488351232 := rfl; omega
  have hp' : (P.length + 1) * 16 ≤ 140737488355328 := by have : reachBytes = 140737488351232 := rfl; omega
  have HL := hid (lent_any v R w hr hl')
  obtain ⟨ao, cap, rfl⟩ := hr.len0
  have HR := hid hr
  have HP := hid hp
  obtain ⟨aop, capp, hvp, hcp, _, hcell⟩ := hp
  have HC := hid hcell
  subst hvp
  clear hr hl hl2 hcell
  go_enter Try.func8, Try.ntmps8
  go_wp2_with fail
  refine HL.out.mono ?_
  rintro e w1 ⟨v', rfl, hv', hb1⟩
  have HV := hid hv'
  have B1 := hid hb1
  have hs1 := hb1.size
  have HP1 := hid (HP.out.below hb1)
  clear hv' hb1 HL
  go_wp2_with (at_builtin; refine wpList_appP rfl _ _ rfl w1.heap.size _ [] rfl (OP.nil _ _) _ P rfl HP1.out (by simp; omega) (Nat.le_refl _) ?hnext)
  case hnext =>
    intro v6 w2 ho2 hg2
    have HO2 := hid (show OP w2 w1.heap.size v6 P from ho2)
    have B2 := hid ((Below.refl w1.heap.size w1).grown hg2 (Nat.le_refl _) (by intro k hk; cases hk))
    have hs2 := B2.out.size
    clear ho2 hg2 HP1
    go_wp2_with (at_builtin; refine wpList_appP rfl _ _ rfl w1.heap.size _ P rfl (HO2.out.alloc _) _ [(77, 78)] rfl (pl_one _ _ _ (by omega) (by omega)) (by simp; omega) (by simp; omega) ?hnext)
    case hnext =>
      intro v7 w3 ho3 hg3
      have B3 := hid (((B1.out.trans (B2.out.mono hs1)).alloc (Nat.le_trans hs1 hs2) (.cells #[.int .i64 77, .int .i64 78] 47)).grown hg3 (by simp; omega) (fun k' hk' => Nat.le_trans hs1 (HO2.out.block_ge k' hk')))
      have B13 := hid (((B2.out).alloc hs2 (.cells #[.int .i64 77, .int .i64 78] 47)).grown hg3 (by simp; omega) (fun k' hk' => HO2.out.block_ge k' hk'))
      have hs3 := B13.out.size
      obtain ⟨g, c, hv7, hc7, hm7, hcl7⟩ := ho3.form (by simp)
      have hlen7 : (P ++ [(77, 78)]).length = P.length + 1 := by simp
      rw [hlen7] at hv7 hc7
      subst hv7
      have HC7 := hid (show ∀ wx, Below w3.heap.size w3 wx → (∀ j (hj : j < P.length), wx.cell? ⟨g, j * 2, none⟩ = some (.int .i64 P[j].1) ∧ wx.cell? ⟨g, j * 2 + 1, none⟩ = some (.int .i64 P[j].2)) ∧ wx.cell? ⟨g, P.length * 2, none⟩ = some (.int .i64 77) ∧ wx.cell? ⟨g, P.length * 2 + 1, none⟩ = some (.int .i64 78) from fun wx hb => by
        refine ⟨fun j hj => ?_, ?_⟩
        · have h := hcl7 j (by omega)
          rw [List.getElem_append_left hj] at h
          exact ⟨below_cells hb _ _ h.1, below_cells hb _ _ h.2⟩
        · have h := hcl7 P.length (by omega)
          rw [List.getElem_append_right (Nat.le_refl _)] at h
          simp only [Nat.sub_self, List.getElem_cons_zero] at h
          exact ⟨below_cells hb _ _ h.1, below_cells hb _ _ h.2⟩)
      have HPL := hid (show PL w3 (.slice (some ⟨g, 0, none⟩) P.length c) P from ⟨_, c, rfl, by omega, (fun e => by cases e), fun i hi => ⟨(HC.out i hi).1, g, 0, rfl, by rw [Nat.zero_add]; exact ((HC7.out w3 (Below.refl _ _)).1 i hi).1, by rw [Nat.zero_add]; exact ((HC7.out w3 (Below.refl _ _)).1 i hi).2⟩⟩)
      have HV3 := hid (HV.out.below B13.out)
      have HLe := hid (least_any v' _ R P w3 HV3.out.reads HPL.out (by omega) (by omega))
      have q1 : (P.length : Int) ≤ (c : Int) := by omega
      have q2 : (P.length : Int) < (P.length : Int) + 1 := by omega
      clear ho3 hg3 hcl7 HO2 HV hlen7 HPL
      go_wp2_with fail
      refine Calls.mono HLe.out ?_
      rintro e w4 ⟨⟨va, rfl, hoa⟩, hb4⟩
      have B4 := hid (B3.out.trans (hb4.mono B3.out.size))
      have HOA := hid hoa
      have HV4 := hid (HV3.out.below hb4)
      have HB4 := hid hb4
      have HRl := hid (rleast_any _ _ R P w4 (HR.out.below B4.out) (HP.out.below B4.out) (by omega) (by omega))
      clear hoa hb4 HLe HV3
      go_wp2_with fail
      refine Calls.mono HRl.out ?_
      rintro e w5 ⟨⟨vb, rfl, hob⟩, hb5⟩
      have hlz : (leL R P).length ≤ 9223372036854775807 := by
        rcases Nat.eq_zero_or_pos (leL R P).length with h | h
        · omega
        · obtain ⟨_, cz, _, h1, h2, _⟩ := hob.form h
          unfold maxLen at h2
          omega
      have B5 := hid (B4.out.trans (hb5.mono B4.out.size))
      have HB5 := hid (HB4.out.trans (hb5.mono HB4.out.size))
      have HSa := hid (same_any va vb (leL R P) (leL R P) w5 (HOA.out.reads.below hb5) hob.reads hlz hlz)
      have HV5 := hid (HV4.out.below hb5)
      clear hob hb5 HRl HV4 HB4 HOA
      have he : (leE R P == leE R P) = true := by simp
      go_wp2_with fail
      refine Calls.mono HSa.out ?_
      rintro e w6 ⟨⟨b, rfl, hb⟩, hb6⟩
      obtain rfl : b = true := by simpa using hb
      have B6 := hid (B5.out.trans (hb6.mono B5.out.size))
      have HB6 := hid (HB5.out.trans (hb6.mono HB5.out.size))
      have HK := hid (kept_any v' _ R w6 (HV5.out.below hb6) (HR.out.below B6.out) hl')
      clear hb hb6 HSa HV5 HB5
      go_wp2_with fail
      refine Calls.mono HK.out ?_
      rintro e w7 ⟨rfl, hb7⟩
      have B7 := hid (B6.out.trans (hb7.mono B6.out.size))
      have HB7 := hid (HB6.out.trans (hb7.mono HB6.out.size))
      have HC8 := hid (HC7.out w7 HB7.out)
      have k0 := HC8.out.2.1
      have k1 := HC8.out.2.2
      clear hb7 HK HB6 HC8
      go_wp2_with fail
      go_loopw [11] (fun vi wx => ∃ j : Nat, j ≤ P.length ∧ vi = .int .i64 (j : Int) ∧ Below w7.heap.size w7 wx) (fun vi _ => P.length - (intOf vi).toNat)
      case atStart => exact ⟨0, Nat.zero_le _, rfl, Below.refl _ _⟩
      case round =>
        obtain ⟨j, hj, rfl, hB⟩ := hrel
        have HB := hid hB
        clear hB k0 k1 he
        by_cases h : j < P.length
        · have hI : (j : Int) < (P.length : Int) := by omega
          have hI1 : (j : Int) < (P.length : Int) + 1 := by omega
          have hB3 := HB7.out.trans (HB.out.mono HB7.out.size)
          obtain ⟨c0, c1⟩ := (HC7.out wr hB3).1 j h
          obtain ⟨_, g', off, hao, p0, p1⟩ := HC.out j h
          subst hao
          have hBw := B7.out.trans (HB.out.mono B7.out.size)
          have p0 := below_cells hBw _ _ p0
          have p1 := below_cells hBw _ _ p1
          have hA : (P[j].1 == P[j].1) = true := by simp
          have hA2 : (P[j].2 == P[j].2) = true := by simp
          generalize P[j].1 = A at c0 p0 hA
          generalize P[j].2 = B at c1 p1 hA2
          clear hB3 hBw
          go_wp2
          go_quiet (fail)
          go_wp2
          go_roundw
          case rel => exact ⟨j + 1, by omega, by go_num, below_drewN HB.out nq⟩
          case measure => simp [intOf]; omega
        · have hI : ¬ (j : Int) < (P.length : Int) := by omega
          have HF := hid (B7.out.trans (HB.out.mono B7.out.size))
          go_wp2
          go_ret
          exact ⟨rfl, HF.out⟩
end Go.Proofs.Ytogbmldplgondaa
