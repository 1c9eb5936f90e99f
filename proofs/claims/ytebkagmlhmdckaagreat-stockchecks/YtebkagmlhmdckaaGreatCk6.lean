/-
  stock: the document's unused and Check. Laid by mkck6.py.
-/
import Derived.Test.YtebkagmlhmdckaaGreatCk5
namespace Go.Proofs.YtebkagmlhmdckaaGreat
open Go.RowKit
set_option maxRecDepth 100000
set_option linter.unusedSimpArgs false

set_option maxHeartbeats 8000000 in
theorem unused_any (r : Rq) (ao : Option Addr) (cap : Nat) (w : World) :
    Calls Tryz.prog 19 #[rqV r ao cap] w fun e w' => e = .returned (.bool (!unB r)) ∧ Below w.heap.size w w' := by
  obtain ⟨W, hW⟩ : ∃ W, w.alloc (.cells #[.string r.id, .int .i64 r.kind, .slice ao r.lines.length cap, .string r.hold, .int .i64 r.ttl, .int .i64 r.now] 24) = W := ⟨_, rfl⟩
  have HRW : W.heap[w.heap.size]? = some (.cells #[.string r.id, .int .i64 r.kind, .slice ao r.lines.length cap, .string r.hold, .int .i64 r.ttl, .int .i64 r.now] 24 (0, 0)) := by rw [← hW]; exact heap_alloc_new w _
  have BW := hid (show Below w.heap.size w W by rw [← hW]; exact (Below.refl _ _).alloc (Nat.le_refl _) _)
  have zW : W.heap.size = w.heap.size + 1 := by rw [← hW, World.size_alloc]
  have K := hid (fun (wx : World) (hb : Below W.heap.size W wx) => (show wx.cell? ⟨w.heap.size, 0, none⟩ = some (.string r.id) ∧ wx.cell? ⟨w.heap.size, 1, none⟩ = some (.int .i64 r.kind) ∧ wx.cell? ⟨w.heap.size, 2, none⟩ = some (.slice ao r.lines.length cap) ∧ wx.cell? ⟨w.heap.size, 3, none⟩ = some (.string r.hold) ∧ wx.cell? ⟨w.heap.size, 4, none⟩ = some (.int .i64 r.ttl) ∧ wx.cell? ⟨w.heap.size, 5, none⟩ = some (.int .i64 r.now) from by
    have hx := (hb.block w.heap.size (by omega)).trans HRW
    exact ⟨by rw [Lib.cell_of_heap hx]; rfl, by rw [Lib.cell_of_heap hx]; rfl, by rw [Lib.cell_of_heap hx]; rfl, by rw [Lib.cell_of_heap hx]; rfl, by rw [Lib.cell_of_heap hx]; rfl, by rw [Lib.cell_of_heap hx]; rfl⟩))
  obtain ⟨c0, c1, c2, c3, c4, c5⟩ := K.out W (Below.refl _ _)
  have HLn := hid (fun wx => hasLines_any r.kind wx)
  have HHo := hid (fun wx => hasHold_any r.kind wx)
  have HTt := hid (fun wx => hasTtl_any r.kind wx)
  have HW := hid hW
  have ZW := hid zW
  unfold rqV
  clear HRW hW zW
  go_enter Tryz.func19, Tryz.ntmps19
  go_upto_region 1 with fail
  rw [HW.out]
  go_cut [12] from 3 to 11 (fun s9 wx => s9 = .bool (!kL r.kind && decide (0 < r.lines.length)) ∧ wx = W)
  case first =>
    cases hk9 : kL r.kind
    · rw [hk9] at HLn
      have HK := hid hk9
      clear hk9
      by_cases l0 : 0 < r.lines.length
      · have l0' : (0 : Int) < (r.lines.length : Int) := by omega
        go_wp2_with (first | (go_at_call 20; refine (HLn.out _).mono ?_; rintro e w9 ⟨rfl, h9⟩; rw [h9]; clear h9))
        go_meet
        exact ⟨by simp [l0, HK.out], rfl⟩
      · have l1 : r.lines.length = 0 := by omega
        rw [l1] at c2
        have L0 := hid l0
        clear l0 l1
        go_wp2_with (first | (go_at_call 20; refine (HLn.out _).mono ?_; rintro e w9 ⟨rfl, h9⟩; rw [h9]; clear h9))
        go_meet
        exact ⟨by simp [L0.out, HK.out], rfl⟩
    · rw [hk9] at HLn
      have HK := hid hk9
      clear hk9
      go_wp2_with (first | (go_at_call 20; refine (HLn.out _).mono ?_; rintro e w9 ⟨rfl, h9⟩; rw [h9]; clear h9))
      go_meet
      exact ⟨by simp [HK.out], rfl⟩
  case rest =>
    obtain ⟨rfl, hwx⟩ := hcut
    have hwx2 := hwx.symm
    clear hwx
    subst hwx2
    by_cases u0 : (!kL r.kind && decide (0 < r.lines.length)) = true
    · have HA := hid (show (!unB r) = false by unfold unB; rw [u0]; simp)
      rw [u0]
      go_wp2
      go_ret
      exact ⟨by rw [HA.out]; first | done | rfl, BW.out⟩
    · have v0 := eq_false_of_ne_true u0
      rw [v0]
      go_upto_region 3 with fail
      go_cut [21] from 13 to 20 (fun s9 wx => s9 = .bool (!kH r.kind && decide (r.hold ≠ ⟨#[]⟩)) ∧ wx = W)
      case first =>
        cases hk9 : kH r.kind
        · rw [hk9] at HHo
          have HK := hid hk9
          clear hk9
          by_cases l0 : r.hold = ⟨#[]⟩
          · rw [l0] at c3
            have L0 := hid l0
            clear l0
            go_wp2_with (first | (go_at_call 22; refine (HHo.out _).mono ?_; rintro e w9 ⟨rfl, h9⟩; rw [h9]; clear h9))
            go_meet
            exact ⟨by simp [L0.out, HK.out], rfl⟩
          · have L0 := hid l0
            have l1 : (r.hold.toList == []) = false := hold_ne l0
            clear l0
            go_wp2_with (first | (go_at_call 22; refine (HHo.out _).mono ?_; rintro e w9 ⟨rfl, h9⟩; rw [h9]; clear h9))
            go_meet
            exact ⟨by simp [L0.out, HK.out], rfl⟩
        · rw [hk9] at HHo
          have HK := hid hk9
          clear hk9
          go_wp2_with (first | (go_at_call 22; refine (HHo.out _).mono ?_; rintro e w9 ⟨rfl, h9⟩; rw [h9]; clear h9))
          go_meet
          exact ⟨by simp [HK.out], rfl⟩
      case rest =>
        obtain ⟨rfl, hwx⟩ := hcut
        have hwx2 := hwx.symm
        clear hwx
        subst hwx2
        by_cases u1 : (!kH r.kind && decide (r.hold ≠ ⟨#[]⟩)) = true
        · have HA := hid (show (!unB r) = false by unfold unB; rw [v0, u1]; simp)
          rw [u1]
          go_wp2
          go_ret
          exact ⟨by rw [HA.out]; first | done | rfl, BW.out⟩
        · have v1 := eq_false_of_ne_true u1
          rw [v1]
          go_upto_region 5 with fail
          go_cut [30] from 22 to 29 (fun s9 wx => s9 = .bool (!kT r.kind && decide (r.ttl ≠ 0)) ∧ wx = W)
          case first =>
            cases hk9 : kT r.kind
            · rw [hk9] at HTt
              have HK := hid hk9
              clear hk9
              by_cases l0 : r.ttl = 0
              · rw [l0] at c4
                have L0 := hid l0
                clear l0
                go_wp2_with (first | (go_at_call 23; refine (HTt.out _).mono ?_; rintro e w9 ⟨rfl, h9⟩; rw [h9]; clear h9))
                go_meet
                exact ⟨by simp [L0.out, HK.out], rfl⟩
              · have L0 := hid l0
                go_wp2_with (first | (go_at_call 23; refine (HTt.out _).mono ?_; rintro e w9 ⟨rfl, h9⟩; rw [h9]; clear h9))
                go_meet
                exact ⟨by simp [L0.out, HK.out], rfl⟩
            · rw [hk9] at HTt
              have HK := hid hk9
              clear hk9
              go_wp2_with (first | (go_at_call 23; refine (HTt.out _).mono ?_; rintro e w9 ⟨rfl, h9⟩; rw [h9]; clear h9))
              go_meet
              exact ⟨by simp [HK.out], rfl⟩
          case rest =>
            obtain ⟨rfl, hwx⟩ := hcut
            have hwx2 := hwx.symm
            clear hwx
            subst hwx2
            by_cases u2 : (!kT r.kind && decide (r.ttl ≠ 0)) = true
            · have HA := hid (show (!unB r) = false by unfold unB; rw [v0, v1, u2]; simp)
              rw [u2]
              go_wp2
              go_ret
              exact ⟨by rw [HA.out]; first | done | rfl, BW.out⟩
            · have v2 := eq_false_of_ne_true u2
              rw [v2]
              go_upto_region 7 with fail
              have HA := hid (show (!unB r) = ((r.kind == 8) || decide (r.now = 0)) by unfold unB; rw [v0, v1, v2]; cases (r.kind == 8) <;> simp)
              clear u0 u1 u2 v0 v1 v2
              by_cases e8 : r.kind = 8
              · rw [e8] at c1
                have E8 := hid e8
                clear e8
                go_wp2
                go_ret
                exact ⟨by rw [HA.out, E8.out]; first | done | rfl, BW.out⟩
              · by_cases n0 : r.now = 0
                · rw [n0] at c5
                  have N0 := hid n0
                  have E8 := hid (show (r.kind == 8) = false by simpa using e8)
                  clear n0
                  go_wp2
                  go_ret
                  exact ⟨by rw [HA.out, E8.out, N0.out]; first | done | rfl, BW.out⟩
                · have N0 := hid n0
                  have E8 := hid (show (r.kind == 8) = false by simpa using e8)
                  go_wp2
                  go_ret
                  have nb : (r.now == 0) = false := by simpa using N0.out
                  exact ⟨by rw [HA.out, E8.out, decide_eq_false N0.out]; simp [nb], BW.out⟩
set_option maxHeartbeats 8000000 in
theorem rCheck_any (r : Rq) (ao : Option Addr) (cap : Nat) (w : World) (hR : RLn w (.slice ao r.lines.length cap) r.lines) (hS : ∀ y ∈ r.lines, y.1.size ≤ 9223372036854775807) (h1 : r.id.size ≤ 9223372036854775807) (h2 : r.hold.size ≤ 9223372036854775807) :
    Calls Tryz.prog 7 #[rqV r ao cap] w fun e w' => e = .returned (.tuple #[.int .i64 (ckA r).1, .int .i64 ((ckA r).2 : Nat)]) ∧ Below w.heap.size w w' := by
  obtain ⟨W, hW⟩ : ∃ W, w.alloc (.cells #[.string r.id, .int .i64 r.kind, .slice ao r.lines.length cap, .string r.hold, .int .i64 r.ttl, .int .i64 r.now] 24) = W := ⟨_, rfl⟩
  have HRW : W.heap[w.heap.size]? = some (.cells #[.string r.id, .int .i64 r.kind, .slice ao r.lines.length cap, .string r.hold, .int .i64 r.ttl, .int .i64 r.now] 24 (0, 0)) := by rw [← hW]; exact heap_alloc_new w _
  have BW := hid (show Below w.heap.size w W by rw [← hW]; exact (Below.refl _ _).alloc (Nat.le_refl _) _)
  have zW : W.heap.size = w.heap.size + 1 := by rw [← hW, World.size_alloc]
  have K := hid (fun (wx : World) (hb : Below W.heap.size W wx) => (show wx.cell? ⟨w.heap.size, 0, none⟩ = some (.string r.id) ∧ wx.cell? ⟨w.heap.size, 1, none⟩ = some (.int .i64 r.kind) ∧ wx.cell? ⟨w.heap.size, 2, none⟩ = some (.slice ao r.lines.length cap) ∧ wx.cell? ⟨w.heap.size, 3, none⟩ = some (.string r.hold) ∧ wx.cell? ⟨w.heap.size, 4, none⟩ = some (.int .i64 r.ttl) ∧ wx.cell? ⟨w.heap.size, 5, none⟩ = some (.int .i64 r.now) from by
    have hx := (hb.block w.heap.size (by omega)).trans HRW
    exact ⟨by rw [Lib.cell_of_heap hx]; rfl, by rw [Lib.cell_of_heap hx]; rfl, by rw [Lib.cell_of_heap hx]; rfl, by rw [Lib.cell_of_heap hx]; rfl, by rw [Lib.cell_of_heap hx]; rfl, by rw [Lib.cell_of_heap hx]; rfl⟩))
  obtain ⟨c0, c1, c2, c3, c4, c5⟩ := K.out W (Below.refl _ _)
  have HLn := hid (fun wx => hasLines_any r.kind wx)
  have HHo := hid (fun wx => hasHold_any r.kind wx)
  have HTt := hid (fun wx => hasTtl_any r.kind wx)
  have HW := hid hW
  have ZW := hid zW
  have HCL := hid (fun (wx : World) (hb : Below W.heap.size W wx) => rlinesF_any r ao cap wx ((hR.below BW.out).below hb) hS)
  have HUn := hid (fun (wx : World) => unused_any r ao cap wx)
  have HI := hid (fun wx => rId_any r.id wx h1)
  have HH := hid (fun wx => rId_any r.hold wx h2)
  unfold rqV at HCL HUn ⊢
  clear HRW hW zW hR hS h1 h2
  go_enter Tryz.func7, Tryz.ntmps7
  go_upto_region 1 with fail
  rw [HW.out]
  by_cases t1 : tx r.id 64 = false
  · have HA := hid (show ckA r = (111, 0) from if_pos t1)
    rw [t1] at HI
    go_wp2_with (first | (go_at_call 18; refine (HI.out _).mono ?_; rintro e w9 ⟨rfl, h9⟩; rw [h9]; clear h9))
    go_ret2
    exact ⟨by rw [HA.out]; first | done | rfl, BW.out⟩
  · have t1' : tx r.id 64 = true := by simpa using t1
    rw [t1'] at HI
    have HA := hid (show ckA r = _ from if_neg t1)
    clear t1 t1'
    go_upto_region 3 with (first | (go_at_call 18; refine (HI.out _).mono ?_; rintro e w9 ⟨rfl, h9⟩; rw [h9]; clear h9))
    go_cut [17] from 10 to 16 (fun s9 wx => s9 = .bool (decide (r.kind < 1) || decide (9 < r.kind)) ∧ wx = W)
    case first =>
      by_cases a1 : r.kind < 1
      · go_wp2_with fail
        go_meet
        exact ⟨by simp [a1], rfl⟩
      · by_cases a2 : 9 < r.kind
        · go_wp2_with fail
          go_meet
          exact ⟨by simp [a2], rfl⟩
        · go_wp2_with fail
          go_meet
          exact ⟨by simp [a1, a2], rfl⟩
    case rest =>
      obtain ⟨rfl, hwx⟩ := hcut
      have hwx2 := hwx.symm
      clear hwx
      subst hwx2
      by_cases k9 : (decide (r.kind < 1) || decide (9 < r.kind)) = true
      · have HA := hid (HA.out.trans (if_pos (show decide (1 ≤ r.kind ∧ r.kind ≤ 9) = false by simp at k9 ⊢; omega)))
        rw [k9]
        go_wp2
        go_ret2
        exact ⟨by rw [HA.out]; first | done | rfl, BW.out⟩
      · have HA := hid (HA.out.trans (if_neg (show ¬ decide (1 ≤ r.kind ∧ r.kind ≤ 9) = false by simp at k9 ⊢; omega)))
        have k9' := eq_false_of_ne_true k9
        rw [k9']
        clear k9 k9'
        go_wp2_with fail
        refine (HUn.out _).mono ?_
        rintro e w2 ⟨rfl, hb2⟩
        have B2 := hid hb2
        clear c0 c1 c2 c3 c4 c5
        obtain ⟨c0, c1, c2, c3, c4, c5⟩ := K.out _ hb2
        clear hb2 HUn
        cases un : unB r with
        | true =>
          have HA := hid (HA.out.trans (if_pos un))
          go_wp2
          go_ret2
          exact ⟨by rw [HA.out]; first | done | rfl, BW.out.trans (B2.out.mono (by rw [ZW.out]; omega))⟩
        | false =>
          have HA := hid (HA.out.trans (if_neg (by rw [un]; decide)))
          clear un
          cases hk : kL r.kind with
          | false =>
            have HA := hid (HA.out.trans (if_neg (fun h => by rw [hk] at h; cases h.1)))
            rw [hk] at HLn
            clear hk
            go_upto_region 11 with (first | (go_at_call 20; refine (HLn.out _).mono ?_; rintro e w9 ⟨rfl, h9⟩; rw [h9]; clear h9))
            go_cut [41] from 33 to 40 (fun s9 wx => s9 = .bool (kH r.kind && !tx r.hold 64) ∧ wx = w2)
            case first =>
              cases hk9 : kH r.kind
              · rw [hk9] at HHo
                have HK := hid hk9
                clear hk9
                go_wp2_with (first | (go_at_call 22; refine (HHo.out _).mono ?_; rintro e w9 ⟨rfl, h9⟩; rw [h9]; clear h9) | (go_at_call 18; refine (HH.out _).mono ?_; rintro e w9 ⟨rfl, h9⟩; rw [h9]; clear h9))
                go_meet
                exact ⟨by simp [HK.out], rfl⟩
              · rw [hk9] at HHo
                have HK := hid hk9
                clear hk9
                cases ht : tx r.hold 64
                all_goals
                  rw [ht] at HH
                  have HT := hid ht
                  clear ht
                  go_wp2_with (first | (go_at_call 22; refine (HHo.out _).mono ?_; rintro e w9 ⟨rfl, h9⟩; rw [h9]; clear h9) | (go_at_call 18; refine (HH.out _).mono ?_; rintro e w9 ⟨rfl, h9⟩; rw [h9]; clear h9))
                  go_meet
                  exact ⟨by simp [HK.out, HT.out], rfl⟩
            case rest =>
              obtain ⟨rfl, hwx⟩ := hcut
              have hwx2 := hwx.symm
              clear hwx
              subst hwx2
              by_cases y0 : (kH r.kind && !tx r.hold 64) = true
              · have HA := hid (HA.out.trans (if_pos (show kH r.kind = true ∧ tx r.hold 64 = false by simpa using y0)))
                rw [y0]
                go_wp2
                go_ret2
                exact ⟨by rw [HA.out]; first | done | rfl, BW.out.trans (B2.out.mono (by rw [ZW.out]; omega))⟩
              · have z0 := eq_false_of_ne_true y0
                have HA := hid (HA.out.trans (if_neg (show ¬ (kH r.kind = true ∧ tx r.hold 64 = false) from fun h => y0 (by simpa using h))))
                rw [z0]
                clear y0 z0
                go_upto_region 13 with fail
                go_cut [54] from 42 to 53 (fun s9 wx => s9 = .bool (kT r.kind && (decide (r.ttl < 1) || decide (2147483648 < r.ttl))) ∧ wx = w2)
                case first =>
                  cases hk9 : kT r.kind
                  · rw [hk9] at HTt
                    have HK := hid hk9
                    clear hk9
                    go_wp2_with (first | (go_at_call 23; refine (HTt.out _).mono ?_; rintro e w9 ⟨rfl, h9⟩; rw [h9]; clear h9) | (go_at_call 18; refine (HH.out _).mono ?_; rintro e w9 ⟨rfl, h9⟩; rw [h9]; clear h9))
                    go_meet
                    exact ⟨by simp [HK.out], rfl⟩
                  · rw [hk9] at HTt
                    have HK := hid hk9
                    clear hk9
                    by_cases a1 : r.ttl < 1
                    · go_wp2_with (first | (go_at_call 23; refine (HTt.out _).mono ?_; rintro e w9 ⟨rfl, h9⟩; rw [h9]; clear h9) | (go_at_call 18; refine (HH.out _).mono ?_; rintro e w9 ⟨rfl, h9⟩; rw [h9]; clear h9))
                      go_meet
                      exact ⟨by simp [HK.out, a1], rfl⟩
                    · by_cases a2 : 2147483648 < r.ttl
                      · go_wp2_with (first | (go_at_call 23; refine (HTt.out _).mono ?_; rintro e w9 ⟨rfl, h9⟩; rw [h9]; clear h9) | (go_at_call 18; refine (HH.out _).mono ?_; rintro e w9 ⟨rfl, h9⟩; rw [h9]; clear h9))
                        go_meet
                        exact ⟨by simp [HK.out, a2], rfl⟩
                      · go_wp2_with (first | (go_at_call 23; refine (HTt.out _).mono ?_; rintro e w9 ⟨rfl, h9⟩; rw [h9]; clear h9) | (go_at_call 18; refine (HH.out _).mono ?_; rintro e w9 ⟨rfl, h9⟩; rw [h9]; clear h9))
                        go_meet
                        exact ⟨by simp [HK.out, a1, a2], rfl⟩
                case rest =>
                  obtain ⟨rfl, hwx⟩ := hcut
                  have hwx2 := hwx.symm
                  clear hwx
                  subst hwx2
                  by_cases y1 : (kT r.kind && (decide (r.ttl < 1) || decide (2147483648 < r.ttl))) = true
                  · have HA := hid (HA.out.trans (if_pos (show kT r.kind = true ∧ (r.ttl < 1 ∨ 2147483648 < r.ttl) by simpa using y1)))
                    rw [y1]
                    go_wp2
                    go_ret2
                    exact ⟨by rw [HA.out]; first | done | rfl, BW.out.trans (B2.out.mono (by rw [ZW.out]; omega))⟩
                  · have z1 := eq_false_of_ne_true y1
                    have HA := hid (HA.out.trans (if_neg (show ¬ (kT r.kind = true ∧ (r.ttl < 1 ∨ 2147483648 < r.ttl)) from fun h => y1 (by simpa using h))))
                    rw [z1]
                    clear y1 z1
                    go_upto_region 15 with fail
                    go_cut [67] from 55 to 66 (fun s9 wx => s9 = .bool ((r.kind == 8) && (decide (r.now < 0) || decide (549755813888 < r.now))) ∧ wx = w2)
                    case first =>
                      by_cases e9 : ¬ r.kind = 8
                      · have HK := hid (show (r.kind == 8) = false by simpa using e9)
                        go_wp2_with fail
                        go_meet
                        exact ⟨by simp [HK.out], rfl⟩
                      · have e8 : r.kind = 8 := Classical.not_not.1 e9
                        rw [e8] at c1
                        have HK := hid (show (r.kind == 8) = true by simpa using e8)
                        clear e8 e9
                        by_cases a1 : r.now < 0
                        · go_wp2_with fail
                          go_meet
                          exact ⟨by simp [HK.out, a1], rfl⟩
                        · by_cases a2 : 549755813888 < r.now
                          · go_wp2_with fail
                            go_meet
                            exact ⟨by simp [HK.out, a2], rfl⟩
                          · go_wp2_with fail
                            go_meet
                            exact ⟨by simp [HK.out, a1, a2], rfl⟩
                    case rest =>
                      obtain ⟨rfl, hwx⟩ := hcut
                      have hwx2 := hwx.symm
                      clear hwx
                      subst hwx2
                      by_cases y2 : ((r.kind == 8) && (decide (r.now < 0) || decide (549755813888 < r.now))) = true
                      · have HA := hid (HA.out.trans (if_pos (show (r.kind == 8) = true ∧ (r.now < 0 ∨ 549755813888 < r.now) by simpa using y2)))
                        rw [y2]
                        go_wp2
                        go_ret2
                        exact ⟨by rw [HA.out]; first | done | rfl, BW.out.trans (B2.out.mono (by rw [ZW.out]; omega))⟩
                      · have z2 := eq_false_of_ne_true y2
                        have HA := hid (HA.out.trans (if_neg (show ¬ ((r.kind == 8) = true ∧ (r.now < 0 ∨ 549755813888 < r.now)) from fun h => y2 (by simpa using h))))
                        rw [z2]
                        clear y2 z2
                        go_wp2
                        go_ret2
                        exact ⟨by rw [HA.out]; first | done | rfl, BW.out.trans (B2.out.mono (by rw [ZW.out]; omega))⟩
          | true =>
            rw [hk] at HLn
            go_wp2_with (first | (go_at_call 20; refine (HLn.out _).mono ?_; rintro e w9 ⟨rfl, h9⟩; rw [h9]; clear h9))
            refine (HCL.out _ B2.out).mono ?_
            rintro e w3 ⟨rfl, hb3⟩
            have B3 := hid (B2.out.trans (hb3.mono B2.out.size))
            clear c0 c1 c2 c3 c4 c5 hb3
            obtain ⟨c0, c1, c2, c3, c4, c5⟩ := K.out _ B3.out
            by_cases e0 : (lnA r.kind r.lines).1 = 0
            · have HA := hid (HA.out.trans (if_neg (fun h => h.2 e0)))
              rw [e0]
              clear e0 hk
              go_upto_region 11 with fail
              go_cut [41] from 33 to 40 (fun s9 wx => s9 = .bool (kH r.kind && !tx r.hold 64) ∧ wx = w3)
              case first =>
                cases hk9 : kH r.kind
                · rw [hk9] at HHo
                  have HK := hid hk9
                  clear hk9
                  go_wp2_with (first | (go_at_call 22; refine (HHo.out _).mono ?_; rintro e w9 ⟨rfl, h9⟩; rw [h9]; clear h9) | (go_at_call 18; refine (HH.out _).mono ?_; rintro e w9 ⟨rfl, h9⟩; rw [h9]; clear h9))
                  go_meet
                  exact ⟨by simp [HK.out], rfl⟩
                · rw [hk9] at HHo
                  have HK := hid hk9
                  clear hk9
                  cases ht : tx r.hold 64
                  all_goals
                    rw [ht] at HH
                    have HT := hid ht
                    clear ht
                    go_wp2_with (first | (go_at_call 22; refine (HHo.out _).mono ?_; rintro e w9 ⟨rfl, h9⟩; rw [h9]; clear h9) | (go_at_call 18; refine (HH.out _).mono ?_; rintro e w9 ⟨rfl, h9⟩; rw [h9]; clear h9))
                    go_meet
                    exact ⟨by simp [HK.out, HT.out], rfl⟩
              case rest =>
                obtain ⟨rfl, hwx⟩ := hcut
                have hwx2 := hwx.symm
                clear hwx
                subst hwx2
                by_cases y0 : (kH r.kind && !tx r.hold 64) = true
                · have HA := hid (HA.out.trans (if_pos (show kH r.kind = true ∧ tx r.hold 64 = false by simpa using y0)))
                  rw [y0]
                  go_wp2
                  go_ret2
                  exact ⟨by rw [HA.out]; first | done | rfl, BW.out.trans (B3.out.mono (by rw [ZW.out]; omega))⟩
                · have z0 := eq_false_of_ne_true y0
                  have HA := hid (HA.out.trans (if_neg (show ¬ (kH r.kind = true ∧ tx r.hold 64 = false) from fun h => y0 (by simpa using h))))
                  rw [z0]
                  clear y0 z0
                  go_upto_region 13 with fail
                  go_cut [54] from 42 to 53 (fun s9 wx => s9 = .bool (kT r.kind && (decide (r.ttl < 1) || decide (2147483648 < r.ttl))) ∧ wx = w3)
                  case first =>
                    cases hk9 : kT r.kind
                    · rw [hk9] at HTt
                      have HK := hid hk9
                      clear hk9
                      go_wp2_with (first | (go_at_call 23; refine (HTt.out _).mono ?_; rintro e w9 ⟨rfl, h9⟩; rw [h9]; clear h9) | (go_at_call 18; refine (HH.out _).mono ?_; rintro e w9 ⟨rfl, h9⟩; rw [h9]; clear h9))
                      go_meet
                      exact ⟨by simp [HK.out], rfl⟩
                    · rw [hk9] at HTt
                      have HK := hid hk9
                      clear hk9
                      by_cases a1 : r.ttl < 1
                      · go_wp2_with (first | (go_at_call 23; refine (HTt.out _).mono ?_; rintro e w9 ⟨rfl, h9⟩; rw [h9]; clear h9) | (go_at_call 18; refine (HH.out _).mono ?_; rintro e w9 ⟨rfl, h9⟩; rw [h9]; clear h9))
                        go_meet
                        exact ⟨by simp [HK.out, a1], rfl⟩
                      · by_cases a2 : 2147483648 < r.ttl
                        · go_wp2_with (first | (go_at_call 23; refine (HTt.out _).mono ?_; rintro e w9 ⟨rfl, h9⟩; rw [h9]; clear h9) | (go_at_call 18; refine (HH.out _).mono ?_; rintro e w9 ⟨rfl, h9⟩; rw [h9]; clear h9))
                          go_meet
                          exact ⟨by simp [HK.out, a2], rfl⟩
                        · go_wp2_with (first | (go_at_call 23; refine (HTt.out _).mono ?_; rintro e w9 ⟨rfl, h9⟩; rw [h9]; clear h9) | (go_at_call 18; refine (HH.out _).mono ?_; rintro e w9 ⟨rfl, h9⟩; rw [h9]; clear h9))
                          go_meet
                          exact ⟨by simp [HK.out, a1, a2], rfl⟩
                  case rest =>
                    obtain ⟨rfl, hwx⟩ := hcut
                    have hwx2 := hwx.symm
                    clear hwx
                    subst hwx2
                    by_cases y1 : (kT r.kind && (decide (r.ttl < 1) || decide (2147483648 < r.ttl))) = true
                    · have HA := hid (HA.out.trans (if_pos (show kT r.kind = true ∧ (r.ttl < 1 ∨ 2147483648 < r.ttl) by simpa using y1)))
                      rw [y1]
                      go_wp2
                      go_ret2
                      exact ⟨by rw [HA.out]; first | done | rfl, BW.out.trans (B3.out.mono (by rw [ZW.out]; omega))⟩
                    · have z1 := eq_false_of_ne_true y1
                      have HA := hid (HA.out.trans (if_neg (show ¬ (kT r.kind = true ∧ (r.ttl < 1 ∨ 2147483648 < r.ttl)) from fun h => y1 (by simpa using h))))
                      rw [z1]
                      clear y1 z1
                      go_upto_region 15 with fail
                      go_cut [67] from 55 to 66 (fun s9 wx => s9 = .bool ((r.kind == 8) && (decide (r.now < 0) || decide (549755813888 < r.now))) ∧ wx = w3)
                      case first =>
                        by_cases e9 : ¬ r.kind = 8
                        · have HK := hid (show (r.kind == 8) = false by simpa using e9)
                          go_wp2_with fail
                          go_meet
                          exact ⟨by simp [HK.out], rfl⟩
                        · have e8 : r.kind = 8 := Classical.not_not.1 e9
                          rw [e8] at c1
                          have HK := hid (show (r.kind == 8) = true by simpa using e8)
                          clear e8 e9
                          by_cases a1 : r.now < 0
                          · go_wp2_with fail
                            go_meet
                            exact ⟨by simp [HK.out, a1], rfl⟩
                          · by_cases a2 : 549755813888 < r.now
                            · go_wp2_with fail
                              go_meet
                              exact ⟨by simp [HK.out, a2], rfl⟩
                            · go_wp2_with fail
                              go_meet
                              exact ⟨by simp [HK.out, a1, a2], rfl⟩
                      case rest =>
                        obtain ⟨rfl, hwx⟩ := hcut
                        have hwx2 := hwx.symm
                        clear hwx
                        subst hwx2
                        by_cases y2 : ((r.kind == 8) && (decide (r.now < 0) || decide (549755813888 < r.now))) = true
                        · have HA := hid (HA.out.trans (if_pos (show (r.kind == 8) = true ∧ (r.now < 0 ∨ 549755813888 < r.now) by simpa using y2)))
                          rw [y2]
                          go_wp2
                          go_ret2
                          exact ⟨by rw [HA.out]; first | done | rfl, BW.out.trans (B3.out.mono (by rw [ZW.out]; omega))⟩
                        · have z2 := eq_false_of_ne_true y2
                          have HA := hid (HA.out.trans (if_neg (show ¬ ((r.kind == 8) = true ∧ (r.now < 0 ∨ 549755813888 < r.now)) from fun h => y2 (by simpa using h))))
                          rw [z2]
                          clear y2 z2
                          go_wp2
                          go_ret2
                          exact ⟨by rw [HA.out]; first | done | rfl, BW.out.trans (B3.out.mono (by rw [ZW.out]; omega))⟩
            · have HA := hid (HA.out.trans (if_pos ⟨hk, e0⟩))
              clear hk
              obtain ⟨⟨e1, i1⟩, hl⟩ : ∃ p, lnA r.kind r.lines = p := ⟨_, rfl⟩
              rw [hl] at HA e0 ⊢
              have e0b : ¬ e1 = 0 := e0
              clear e0 hl
              go_wp2
              go_ret2
              exact ⟨by rw [HA.out]; first | done | rfl, BW.out.trans (B3.out.mono (by rw [ZW.out]; omega))⟩
end Go.Proofs.YtebkagmlhmdckaaGreat
