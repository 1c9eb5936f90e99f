/-
  stock: Check and Changes; the document's unused and Check.
-/
import Derived.Test.YtebkagmlhmdckaaGreatCk4
import Derived.Test.YtebkagmlhmdckaaGreatCk2b
import Derived.Deep.CutRange
namespace Go.Proofs.YtebkagmlhmdckaaGreat
open Go.RowKit
set_option maxRecDepth 100000
set_option linter.unusedSimpArgs false

theorem rlV_bools (k : Int) : ∃ f4 f5 f6, rlV k = [.bool (kL k), .bool (kH k), .bool (kT k), .bool (k == 8), f4, f5, f6] ∧ (kC k = true → ∃ fn, f6 = .func (.func fn) #[] #[]) ∧ (kC k = false → f6 = .nilFunc) := by
  unfold rlV
  rcases (show k = 1 ∨ k = 2 ∨ k = 3 ∨ k = 4 ∨ k = 5 ∨ k = 6 ∨ k = 7 ∨ k = 8 ∨ (k ≠ 1 ∧ k ≠ 2 ∧ k ≠ 3 ∧ k ≠ 4 ∧ k ≠ 5 ∧ k ≠ 6 ∧ k ≠ 7 ∧ k ≠ 8) by omega) with rfl | rfl | rfl | rfl | rfl | rfl | rfl | rfl | ⟨h1, h2, h3, h4, h5, h6, h7, h8⟩
  · exact ⟨_, _, _, rfl, fun _ => ⟨_, rfl⟩, fun h => by simp [kC] at h⟩
  · exact ⟨_, _, _, rfl, fun _ => ⟨_, rfl⟩, fun h => by simp [kC] at h⟩
  · exact ⟨_, _, _, rfl, fun _ => ⟨_, rfl⟩, fun h => by simp [kC] at h⟩
  · exact ⟨_, _, _, rfl, fun _ => ⟨_, rfl⟩, fun h => by simp [kC] at h⟩
  · exact ⟨_, _, _, rfl, fun _ => ⟨_, rfl⟩, fun h => by simp [kC] at h⟩
  · exact ⟨_, _, _, rfl, fun _ => ⟨_, rfl⟩, fun h => by simp [kC] at h⟩
  · exact ⟨_, _, _, rfl, fun h => by simp [kC] at h, fun _ => rfl⟩
  · exact ⟨_, _, _, rfl, fun _ => ⟨_, rfl⟩, fun h => by simp [kC] at h⟩
  · refine ⟨.nilFunc, .nilFunc, .nilFunc, ?_, fun h => ?_, fun _ => rfl⟩
    · rw [if_neg h1, if_neg h2, if_neg h3, if_neg h4, if_neg h5, if_neg h6, if_neg h7, if_neg h8]
      simp [kL, kH, kT, h1, h2, h3, h4, h5, h6, h7, h8]
    · simp [kC, h1, h2, h3, h4, h5, h6, h8] at h
attribute [local go_sem ↓] storeVar_rl
theorem rlV_one (k : Int) : (rlV k).length = 7 ∧ (rlV k).toArray.all (·.oneCell') = true := by
  unfold rlV
  repeat' split
  all_goals exact ⟨rfl, by decide +kernel⟩
theorem rlV_new (k : Int) (w : World) : (rlStore ⟨w.heap.size, 0, none⟩ (.agg (rlV k).toArray)).run Tryz.prog (w.alloc (.cells #[.bool false, .bool false, .bool false, .bool false, .nilFunc, .nilFunc, .nilFunc] 39)) = .ok () (w.alloc (.cells (rlV k).toArray 39)) := by
  unfold rlStore
  have h := rlV_one k
  exact run_storeVar_new w _ _ _ (by rw [rl_info]; simp [h.1]) (by simp [h.1]) h.2
theorem rlV_cells {k : Int} {w : World} {b : Nat} (h : w.heap[b]? = some (.cells (rlV k).toArray 39 (0, 0))) :
    ∃ f6, w.cell? ⟨b, 0, none⟩ = some (.bool (kL k)) ∧ w.cell? ⟨b, 1, none⟩ = some (.bool (kH k)) ∧ w.cell? ⟨b, 2, none⟩ = some (.bool (kT k)) ∧ w.cell? ⟨b, 3, none⟩ = some (.bool (k == 8)) ∧ w.cell? ⟨b, 6, none⟩ = some f6 ∧ (kC k = true → ∃ fn, f6 = .func (.func fn) #[] #[]) ∧ (kC k = false → f6 = .nilFunc) := by
  obtain ⟨f4, f5, f6, hv, hy, hn⟩ := rlV_bools k
  rw [hv] at h
  exact ⟨f6, by rw [Lib.cell_of_heap h]; rfl, by rw [Lib.cell_of_heap h]; rfl, by rw [Lib.cell_of_heap h]; rfl, by rw [Lib.cell_of_heap h]; rfl, by rw [Lib.cell_of_heap h]; rfl, hy, hn⟩
set_option maxHeartbeats 2000000 in
theorem changes_any (k : Int) (w : World) : Calls Tryz.prog 11 #[.int .i64 k] w fun e w' => e = .returned (.bool (kC k)) ∧ Below w.heap.size w w' := by
  have HR := hid (ruleOf_any k w)
  have HE : ∀ (fn : Nat) (wx : World), (binOp .neq 37 (.func (.func fn) #[] #[]) .nilFunc).run Tryz.prog wx = .ok (.bool true) wx := fun fn wx => by kernel_rfl
  have HF : ∀ (wx : World), (binOp .neq 37 .nilFunc .nilFunc).run Tryz.prog wx = .ok (.bool false) wx := fun wx => by kernel_rfl
  go_enter Tryz.func11, Tryz.ntmps11
  go_wp2_with fail
  refine Calls.mono HR.out ?_
  rintro e w1 ⟨rfl, hb1⟩
  have hst := rlV_new k w1
  obtain ⟨W2, hW2⟩ : ∃ W2, w1.alloc (.cells (rlV k).toArray 39) = W2 := ⟨_, rfl⟩
  rw [hW2] at hst
  have B2 := hid (show Below w.heap.size w W2 by rw [← hW2]; exact hb1.alloc hb1.size _)
  obtain ⟨f6, _, _, _, _, c6, hy, hn⟩ := rlV_cells (k := k) (w := W2) (b := w1.heap.size) (by rw [← hW2]; exact heap_alloc_new w1 _)
  generalize (rlV k).toArray = V at *
  clear hb1 HR hW2
  cases hc : kC k with
  | true =>
    obtain ⟨fn, rfl⟩ := hy hc
    clear hy hn
    go_wp2
    go_ret
    exact ⟨by rw [hc]; first | done | rfl, B2.out⟩
  | false =>
    obtain rfl := hn hc
    clear hy hn
    go_wp2
    go_ret
    exact ⟨by rw [hc]; first | done | rfl, B2.out⟩
/-- a field that the kind does not use is not empty -/
def unB (r : Rq) : Bool := (!kL r.kind && decide (0 < r.lines.length)) || ((!kH r.kind && decide (r.hold ≠ ⟨#[]⟩)) || ((!kT r.kind && decide (r.ttl ≠ 0)) || (!(r.kind == 8) && decide (r.now ≠ 0))))
/-- what Check answers -/
def ckA (r : Rq) : Int × Nat :=
  if tx r.id 64 = false then (111, 0) else if decide (1 ≤ r.kind ∧ r.kind ≤ 9) = false then (120, 0) else if unB r = true then (121, 0)
  else if kL r.kind = true ∧ (lnA r.kind r.lines).1 ≠ 0 then lnA r.kind r.lines
  else if kH r.kind = true ∧ tx r.hold 64 = false then (126, 0)
  else if kT r.kind = true ∧ (r.ttl < 1 ∨ 2147483648 < r.ttl) then (127, 0)
  else if (r.kind == 8) = true ∧ (r.now < 0 ∨ 549755813888 < r.now) then (128, 0) else (0, 0)
theorem hold_ne {s : ByteArray} (h : ¬ s = ⟨#[]⟩) : (s.toList == []) = false := by
  rw [beq_eq_false_iff_ne]
  intro e
  apply h
  rw [ByteArray.toList_eq] at e
  exact WideShapes.bytes_inj e
set_option maxHeartbeats 8000000 in
theorem check_any (r : Rq) (ao : Option Addr) (cap : Nat) (w : World) (hR : RLn w (.slice ao r.lines.length cap) r.lines) (hS : ∀ y ∈ r.lines, y.1.size ≤ 9223372036854775807) (h1 : r.id.size ≤ 9223372036854775807) (h2 : r.hold.size ≤ 9223372036854775807) :
    Calls Tryz.prog 5 #[rqV r ao cap] w fun e w' => e = .returned (.tuple #[.int .i64 (ckA r).1, .int .i64 ((ckA r).2 : Nat)]) ∧ Below w.heap.size w w' := by
  obtain ⟨W, hW⟩ : ∃ W, w.alloc (.cells #[.string r.id, .int .i64 r.kind, .slice ao r.lines.length cap, .string r.hold, .int .i64 r.ttl, .int .i64 r.now] 24) = W := ⟨_, rfl⟩
  have HRW : W.heap[w.heap.size]? = some (.cells #[.string r.id, .int .i64 r.kind, .slice ao r.lines.length cap, .string r.hold, .int .i64 r.ttl, .int .i64 r.now] 24 (0, 0)) := by rw [← hW]; exact heap_alloc_new w _
  have BW := hid (show Below w.heap.size w W by rw [← hW]; exact (Below.refl _ _).alloc (Nat.le_refl _) _)
  have zW : W.heap.size = w.heap.size + 1 := by rw [← hW, World.size_alloc]
  have K := hid (fun (wx : World) (hb : Below W.heap.size W wx) => (show wx.cell? ⟨w.heap.size, 0, none⟩ = some (.string r.id) ∧ wx.cell? ⟨w.heap.size, 1, none⟩ = some (.int .i64 r.kind) ∧ wx.cell? ⟨w.heap.size, 2, none⟩ = some (.slice ao r.lines.length cap) ∧ wx.cell? ⟨w.heap.size, 3, none⟩ = some (.string r.hold) ∧ wx.cell? ⟨w.heap.size, 4, none⟩ = some (.int .i64 r.ttl) ∧ wx.cell? ⟨w.heap.size, 5, none⟩ = some (.int .i64 r.now) from by
    have hx := (hb.block w.heap.size (by omega)).trans HRW
    exact ⟨by rw [Lib.cell_of_heap hx]; rfl, by rw [Lib.cell_of_heap hx]; rfl, by rw [Lib.cell_of_heap hx]; rfl, by rw [Lib.cell_of_heap hx]; rfl, by rw [Lib.cell_of_heap hx]; rfl, by rw [Lib.cell_of_heap hx]; rfl⟩))
  have HCL := hid (fun (wx : World) (hb : Below W.heap.size W wx) => checkLines_any r ao cap wx ((hR.below BW.out).below hb) hS)
  have hru := ruleOf_any r.kind W
  obtain ⟨kn, hkn⟩ : ∃ kn, decide (1 ≤ r.kind ∧ r.kind ≤ 9) = kn := ⟨_, rfl⟩
  rw [hkn] at hru
  have HR := hid hru
  have HKN := hid hkn
  clear hru hkn
  have HI := hid (fun wx => isId_any r.id wx h1)
  have HH := hid (fun wx => isId_any r.hold wx h2)
  have c1 := (K.out W (Below.refl _ _)).2.1
  have HW := hid hW
  have ZW := hid zW
  unfold rqV at HCL ⊢
  clear HRW hR hS h1 h2 hW zW
  go_enter Tryz.func5, Tryz.ntmps5
  go_upto_region 1 with fail
  rw [HW.out]
  go_wp2_with fail
  refine Calls.mono HR.out ?_
  rintro e w1 ⟨rfl, hb1⟩
  clear c1 HR
  have hst := rlV_new r.kind w1
  obtain ⟨W2, hW2⟩ : ∃ W2, w1.alloc (.cells (rlV r.kind).toArray 39) = W2 := ⟨_, rfl⟩
  rw [hW2] at hst
  have b2 : Below W.heap.size W W2 := by rw [← hW2]; exact hb1.alloc hb1.size _
  have z1 := hb1.size
  obtain ⟨f6, k0, k1, k2, k3, _, _, _⟩ := rlV_cells (k := r.kind) (w := W2) (b := w1.heap.size) (by rw [← hW2]; exact heap_alloc_new w1 _)
  obtain ⟨c0, c1, c2, c3, c4, c5⟩ := K.out _ b2
  have B2 := hid b2
  have RB := hid (And.intro k0 (And.intro k1 (And.intro k2 k3)))
  clear k0 k1 k2 k3
  generalize (rlV r.kind).toArray = V at *
  clear hb1 hW2 b2
  go_upto_region 2 with fail
  clear hst
  by_cases t1 : tx r.id 64 = false
  · have HA := hid (show ckA r = (111, 0) from if_pos t1)
    rw [t1] at HI
    go_wp2_with (first | (go_at_call 15; refine (HI.out _).mono ?_; rintro e w9 ⟨rfl, h9⟩; rw [h9]; clear h9))
    go_ret2
    exact ⟨by rw [HA.out]; first | done | rfl, BW.out.trans (B2.out.mono (by rw [ZW.out]; omega))⟩
  · have t1' : tx r.id 64 = true := by simpa using t1
    rw [t1'] at HI
    cases kn with
    | false =>
      have t2 := HKN.out
      have HA := hid (show ckA r = (120, 0) from (if_neg t1).trans (if_pos t2))
      clear t2
      go_wp2_with (first | (go_at_call 15; refine (HI.out _).mono ?_; rintro e w9 ⟨rfl, h9⟩; rw [h9]; clear h9))
      go_ret2
      exact ⟨by rw [HA.out]; first | done | rfl, BW.out.trans (B2.out.mono (by rw [ZW.out]; omega))⟩
    | true =>
      have HA := hid (show ckA r = _ from (if_neg t1).trans (if_neg (by rw [HKN.out]; decide)))
      clear t1 t1'
      obtain ⟨q0, q1, q2, q3⟩ := RB.out
      have Q := hid RB.out
      go_upto_region 6 with (first | (go_at_call 15; refine (HI.out _).mono ?_; rintro e w9 ⟨rfl, h9⟩; rw [h9]; clear h9) | (go_at_call 15; refine (HH.out _).mono ?_; rintro e w9 ⟨rfl, h9⟩; rw [h9]; clear h9))
      go_cut [22] from 23 to 31 (fun s9 wx => s9 = .bool (!kL r.kind && decide (0 < r.lines.length)) ∧ wx = W2)
      case first =>
        by_cases l0 : 0 < r.lines.length
        · have l0' : (0 : Int) < (r.lines.length : Int) := by omega
          cases hk : kL r.kind
          all_goals
            rw [hk] at q0
            go_wp2_with fail
            go_meet
            exact ⟨by simp [l0, hk], rfl⟩
        · have l0' : r.lines = [] := List.eq_nil_of_length_eq_zero (by omega)
          have l1 : r.lines.length = 0 := by omega
          rw [l1] at c2
          have L0 := hid l0
          clear l0 l0' l1
          go_wp2_with fail
          go_meet
          exact ⟨by simp [L0.out], rfl⟩
      case rest =>
        obtain ⟨rfl, hwx⟩ := hcut
        have hwx2 := hwx.symm
        clear hwx
        subst hwx2
        by_cases u0 : (!kL r.kind && decide (0 < r.lines.length)) = true
        · have HA := hid (HA.out.trans (if_pos (show unB r = true by unfold unB; rw [u0]; simp)))
          rw [u0]
          go_wp2
          go_ret2
          exact ⟨by rw [HA.out]; first | done | rfl, BW.out.trans (B2.out.mono (by rw [ZW.out]; omega))⟩
        · have v0 := eq_false_of_ne_true u0
          rw [v0]
          go_upto_region 7 with fail
          go_cut [22] from 32 to 39 (fun s9 wx => s9 = .bool (!kH r.kind && decide (r.hold ≠ ⟨#[]⟩)) ∧ wx = W2)
          case first =>
            by_cases l0 : r.hold = ⟨#[]⟩
            · rw [l0] at c3
              have L0 := hid l0
              clear l0
              go_wp2_with fail
              go_meet
              exact ⟨by simp [L0.out], rfl⟩
            · have l1 : (r.hold.toList == []) = false := hold_ne l0
              have L0 := hid l0
              clear l0
              cases hk : kH r.kind
              all_goals
                rw [hk] at q1
                have HK := hid hk
                go_wp2_with fail
                go_meet
                exact ⟨by simp [L0.out, HK.out], rfl⟩
          case rest =>
            obtain ⟨rfl, hwx⟩ := hcut
            have hwx2 := hwx.symm
            clear hwx
            subst hwx2
            by_cases u1 : (!kH r.kind && decide (r.hold ≠ ⟨#[]⟩)) = true
            · have HA := hid (HA.out.trans (if_pos (show unB r = true by unfold unB; rw [eq_false_of_ne_true u0, u1]; simp)))
              rw [u1]
              go_wp2
              go_ret2
              exact ⟨by rw [HA.out]; first | done | rfl, BW.out.trans (B2.out.mono (by rw [ZW.out]; omega))⟩
            · have v1 := eq_false_of_ne_true u1
              rw [v1]
              go_upto_region 8 with fail
              go_cut [22] from 40 to 47 (fun s9 wx => s9 = .bool (!kT r.kind && decide (r.ttl ≠ 0)) ∧ wx = W2)
              case first =>
                by_cases l0 : r.ttl = 0
                · rw [l0] at c4
                  have L0 := hid l0
                  clear l0
                  go_wp2_with fail
                  go_meet
                  exact ⟨by simp [L0.out], rfl⟩
                · have l1 : ¬ r.ttl = 0 := l0
                  have L0 := hid l0
                  cases hk : kT r.kind
                  all_goals
                    rw [hk] at q2
                    have HK := hid hk
                    go_wp2_with fail
                    go_meet
                    exact ⟨by simp [L0.out, HK.out], rfl⟩
              case rest =>
                obtain ⟨rfl, hwx⟩ := hcut
                have hwx2 := hwx.symm
                clear hwx
                subst hwx2
                by_cases u2 : (!kT r.kind && decide (r.ttl ≠ 0)) = true
                · have HA := hid (HA.out.trans (if_pos (show unB r = true by unfold unB; rw [eq_false_of_ne_true u0, eq_false_of_ne_true u1, u2]; simp)))
                  rw [u2]
                  go_wp2
                  go_ret2
                  exact ⟨by rw [HA.out]; first | done | rfl, BW.out.trans (B2.out.mono (by rw [ZW.out]; omega))⟩
                · have v2 := eq_false_of_ne_true u2
                  rw [v2]
                  go_upto_region 9 with fail
                  go_cut [22] from 48 to 55 (fun s9 wx => s9 = .bool (!(r.kind == 8) && decide (r.now ≠ 0)) ∧ wx = W2)
                  case first =>
                    by_cases l0 : r.now = 0
                    · rw [l0] at c5
                      have L0 := hid l0
                      clear l0
                      go_wp2_with fail
                      go_meet
                      exact ⟨by simp [L0.out], rfl⟩
                    · have l1 : ¬ r.now = 0 := l0
                      have L0 := hid l0
                      cases hk : (r.kind == 8)
                      all_goals
                        rw [hk] at q3
                        have HK := hid hk
                        clear hk
                        go_wp2_with fail
                        go_meet
                        exact ⟨by simp [L0.out, HK.out], rfl⟩
                  case rest =>
                    obtain ⟨rfl, hwx⟩ := hcut
                    have hwx2 := hwx.symm
                    clear hwx
                    subst hwx2
                    by_cases u3 : (!(r.kind == 8) && decide (r.now ≠ 0)) = true
                    · have HA := hid (HA.out.trans (if_pos (show unB r = true by unfold unB; rw [eq_false_of_ne_true u0, eq_false_of_ne_true u1, eq_false_of_ne_true u2, u3]; simp)))
                      rw [u3]
                      go_wp2
                      go_ret2
                      exact ⟨by rw [HA.out]; first | done | rfl, BW.out.trans (B2.out.mono (by rw [ZW.out]; omega))⟩
                    · have v3 := eq_false_of_ne_true u3
                      rw [v3]
                      have HA := hid (HA.out.trans (if_neg (show ¬ unB r = true by unfold unB; rw [v0, v1, v2, v3]; simp)))
                      clear u0 u1 u2 u3 v0 v1 v2 v3
                      cases hk : kL r.kind with
                      | false =>
                        have HA := hid (HA.out.trans (if_neg (fun h => by rw [hk] at h; cases h.1)))
                        rw [hk] at q0
                        clear hk
                        go_upto_region 15 with fail
                        go_cut [67] from 68 to 75 (fun s9 wx => s9 = .bool (kH r.kind && !tx r.hold 64) ∧ wx = W2)
                        case first =>
                          cases hk9 : kH r.kind
                          · rw [hk9] at q1
                            have HK := hid hk9
                            clear hk9
                            go_wp2_with fail
                            go_meet
                            exact ⟨by simp [HK.out], rfl⟩
                          · rw [hk9] at q1
                            have HK := hid hk9
                            clear hk9
                            cases ht : tx r.hold 64
                            all_goals
                              rw [ht] at HH
                              have HT := hid ht
                              clear ht
                              go_wp2_with (first | (go_at_call 15; refine (HH.out _).mono ?_; rintro e w9 ⟨rfl, h9⟩; rw [h9]; clear h9))
                              go_meet
                              exact ⟨by simp [HK.out, HT.out], rfl⟩
                        case rest =>
                          obtain ⟨rfl, hwx⟩ := hcut
                          have hwx2 := hwx.symm
                          clear hwx
                          subst hwx2
                          by_cases y0 : (kH r.kind && !tx r.hold 64) = true
                          · have HA := hid (HA.out.trans (if_pos (show kH r.kind = true ∧ tx r.hold 64 = false by simpa using y0)))
                            rw [y0]
                            go_wp2
                            go_ret2
                            exact ⟨by rw [HA.out]; first | done | rfl, BW.out.trans (B2.out.mono (by rw [ZW.out]; omega))⟩
                          · have z0 := eq_false_of_ne_true y0
                            have HA := hid (HA.out.trans (if_neg (show ¬ (kH r.kind = true ∧ tx r.hold 64 = false) from fun h => y0 (by simpa using h))))
                            rw [z0]
                            clear y0 z0
                            go_upto_region 17 with fail
                            go_cut [76] from 77 to 88 (fun s9 wx => s9 = .bool (kT r.kind && (decide (r.ttl < 1) || decide (2147483648 < r.ttl))) ∧ wx = W2)
                            case first =>
                              cases hk9 : kT r.kind
                              · rw [hk9] at q2
                                have HK := hid hk9
                                clear hk9
                                go_wp2_with fail
                                go_meet
                                exact ⟨by simp [HK.out], rfl⟩
                              · rw [hk9] at q2
                                have HK := hid hk9
                                clear hk9
                                by_cases a1 : r.ttl < 1
                                · go_wp2_with fail
                                  go_meet
                                  exact ⟨by simp [HK.out, a1], rfl⟩
                                · by_cases a2 : 2147483648 < r.ttl
                                  · go_wp2_with fail
                                    go_meet
                                    exact ⟨by simp [HK.out, a2], rfl⟩
                                  · go_wp2_with fail
                                    go_meet
                                    exact ⟨by simp [HK.out, a1, a2], rfl⟩
                            case rest =>
                              obtain ⟨rfl, hwx⟩ := hcut
                              have hwx2 := hwx.symm
                              clear hwx
                              subst hwx2
                              by_cases y1 : (kT r.kind && (decide (r.ttl < 1) || decide (2147483648 < r.ttl))) = true
                              · have HA := hid (HA.out.trans (if_pos (show kT r.kind = true ∧ (r.ttl < 1 ∨ 2147483648 < r.ttl) by simpa using y1)))
                                rw [y1]
                                go_wp2
                                go_ret2
                                exact ⟨by rw [HA.out]; first | done | rfl, BW.out.trans (B2.out.mono (by rw [ZW.out]; omega))⟩
                              · have z1 := eq_false_of_ne_true y1
                                have HA := hid (HA.out.trans (if_neg (show ¬ (kT r.kind = true ∧ (r.ttl < 1 ∨ 2147483648 < r.ttl)) from fun h => y1 (by simpa using h))))
                                rw [z1]
                                clear y1 z1
                                go_upto_region 19 with fail
                                go_cut [89] from 90 to 101 (fun s9 wx => s9 = .bool ((r.kind == 8) && (decide (r.now < 0) || decide (549755813888 < r.now))) ∧ wx = W2)
                                case first =>
                                  cases hk9 : (r.kind == 8)
                                  · rw [hk9] at q3
                                    have HK := hid hk9
                                    clear hk9
                                    go_wp2_with fail
                                    go_meet
                                    exact ⟨by simp [HK.out], rfl⟩
                                  · rw [hk9] at q3
                                    have HK := hid hk9
                                    clear hk9
                                    by_cases a1 : r.now < 0
                                    · go_wp2_with fail
                                      go_meet
                                      exact ⟨by simp [HK.out, a1], rfl⟩
                                    · by_cases a2 : 549755813888 < r.now
                                      · go_wp2_with fail
                                        go_meet
                                        exact ⟨by simp [HK.out, a2], rfl⟩
                                      · go_wp2_with fail
                                        go_meet
                                        exact ⟨by simp [HK.out, a1, a2], rfl⟩
                                case rest =>
                                  obtain ⟨rfl, hwx⟩ := hcut
                                  have hwx2 := hwx.symm
                                  clear hwx
                                  subst hwx2
                                  by_cases y2 : ((r.kind == 8) && (decide (r.now < 0) || decide (549755813888 < r.now))) = true
                                  · have HA := hid (HA.out.trans (if_pos (show (r.kind == 8) = true ∧ (r.now < 0 ∨ 549755813888 < r.now) by simpa using y2)))
                                    rw [y2]
                                    go_wp2
                                    go_ret2
                                    exact ⟨by rw [HA.out]; first | done | rfl, BW.out.trans (B2.out.mono (by rw [ZW.out]; omega))⟩
                                  · have z2 := eq_false_of_ne_true y2
                                    have HA := hid (HA.out.trans (if_neg (show ¬ ((r.kind == 8) = true ∧ (r.now < 0 ∨ 549755813888 < r.now)) from fun h => y2 (by simpa using h))))
                                    rw [z2]
                                    clear y2 z2
                                    go_wp2
                                    go_ret2
                                    exact ⟨by rw [HA.out]; first | done | rfl, BW.out.trans (B2.out.mono (by rw [ZW.out]; omega))⟩
                      | true =>
                        rw [hk] at q0
                        go_wp2_with fail
                        refine (HCL.out _ B2.out).mono ?_
                        rintro e w3 ⟨rfl, hb3⟩
                        have B3 := hid (B2.out.trans (hb3.mono B2.out.size))
                        clear c0 c1 c2 c3 c4 c5 q0 q1 q2 q3
                        obtain ⟨c0, c1, c2, c3, c4, c5⟩ := K.out _ B3.out
                        have q1 := below_cells hb3 _ _ Q.out.2.1
                        have q2 := below_cells hb3 _ _ Q.out.2.2.1
                        have q3 := below_cells hb3 _ _ Q.out.2.2.2
                        clear hb3
                        by_cases e0 : (lnA r.kind r.lines).1 = 0
                        · have HA := hid (HA.out.trans (if_neg (fun h => h.2 e0)))
                          rw [e0]
                          clear e0 hk
                          go_upto_region 15 with fail
                          go_cut [67] from 68 to 75 (fun s9 wx => s9 = .bool (kH r.kind && !tx r.hold 64) ∧ wx = w3)
                          case first =>
                            cases hk9 : kH r.kind
                            · rw [hk9] at q1
                              have HK := hid hk9
                              clear hk9
                              go_wp2_with fail
                              go_meet
                              exact ⟨by simp [HK.out], rfl⟩
                            · rw [hk9] at q1
                              have HK := hid hk9
                              clear hk9
                              cases ht : tx r.hold 64
                              all_goals
                                rw [ht] at HH
                                have HT := hid ht
                                clear ht
                                go_wp2_with (first | (go_at_call 15; refine (HH.out _).mono ?_; rintro e w9 ⟨rfl, h9⟩; rw [h9]; clear h9))
                                go_meet
                                exact ⟨by simp [HK.out, HT.out], rfl⟩
                          case rest =>
                            obtain ⟨rfl, hwx⟩ := hcut
                            have hwx2 := hwx.symm
                            clear hwx
                            subst hwx2
                            by_cases y0 : (kH r.kind && !tx r.hold 64) = true
                            · have HA := hid (HA.out.trans (if_pos (show kH r.kind = true ∧ tx r.hold 64 = false by simpa using y0)))
                              rw [y0]
                              go_wp2
                              go_ret2
                              exact ⟨by rw [HA.out]; first | done | rfl, BW.out.trans (B3.out.mono (by rw [ZW.out]; omega))⟩
                            · have z0 := eq_false_of_ne_true y0
                              have HA := hid (HA.out.trans (if_neg (show ¬ (kH r.kind = true ∧ tx r.hold 64 = false) from fun h => y0 (by simpa using h))))
                              rw [z0]
                              clear y0 z0
                              go_upto_region 17 with fail
                              go_cut [76] from 77 to 88 (fun s9 wx => s9 = .bool (kT r.kind && (decide (r.ttl < 1) || decide (2147483648 < r.ttl))) ∧ wx = w3)
                              case first =>
                                cases hk9 : kT r.kind
                                · rw [hk9] at q2
                                  have HK := hid hk9
                                  clear hk9
                                  go_wp2_with fail
                                  go_meet
                                  exact ⟨by simp [HK.out], rfl⟩
                                · rw [hk9] at q2
                                  have HK := hid hk9
                                  clear hk9
                                  by_cases a1 : r.ttl < 1
                                  · go_wp2_with fail
                                    go_meet
                                    exact ⟨by simp [HK.out, a1], rfl⟩
                                  · by_cases a2 : 2147483648 < r.ttl
                                    · go_wp2_with fail
                                      go_meet
                                      exact ⟨by simp [HK.out, a2], rfl⟩
                                    · go_wp2_with fail
                                      go_meet
                                      exact ⟨by simp [HK.out, a1, a2], rfl⟩
                              case rest =>
                                obtain ⟨rfl, hwx⟩ := hcut
                                have hwx2 := hwx.symm
                                clear hwx
                                subst hwx2
                                by_cases y1 : (kT r.kind && (decide (r.ttl < 1) || decide (2147483648 < r.ttl))) = true
                                · have HA := hid (HA.out.trans (if_pos (show kT r.kind = true ∧ (r.ttl < 1 ∨ 2147483648 < r.ttl) by simpa using y1)))
                                  rw [y1]
                                  go_wp2
                                  go_ret2
                                  exact ⟨by rw [HA.out]; first | done | rfl, BW.out.trans (B3.out.mono (by rw [ZW.out]; omega))⟩
                                · have z1 := eq_false_of_ne_true y1
                                  have HA := hid (HA.out.trans (if_neg (show ¬ (kT r.kind = true ∧ (r.ttl < 1 ∨ 2147483648 < r.ttl)) from fun h => y1 (by simpa using h))))
                                  rw [z1]
                                  clear y1 z1
                                  go_upto_region 19 with fail
                                  go_cut [89] from 90 to 101 (fun s9 wx => s9 = .bool ((r.kind == 8) && (decide (r.now < 0) || decide (549755813888 < r.now))) ∧ wx = w3)
                                  case first =>
                                    cases hk9 : (r.kind == 8)
                                    · rw [hk9] at q3
                                      have HK := hid hk9
                                      clear hk9
                                      go_wp2_with fail
                                      go_meet
                                      exact ⟨by simp [HK.out], rfl⟩
                                    · rw [hk9] at q3
                                      have HK := hid hk9
                                      clear hk9
                                      by_cases a1 : r.now < 0
                                      · go_wp2_with fail
                                        go_meet
                                        exact ⟨by simp [HK.out, a1], rfl⟩
                                      · by_cases a2 : 549755813888 < r.now
                                        · go_wp2_with fail
                                          go_meet
                                          exact ⟨by simp [HK.out, a2], rfl⟩
                                        · go_wp2_with fail
                                          go_meet
                                          exact ⟨by simp [HK.out, a1, a2], rfl⟩
                                  case rest =>
                                    obtain ⟨rfl, hwx⟩ := hcut
                                    have hwx2 := hwx.symm
                                    clear hwx
                                    subst hwx2
                                    by_cases y2 : ((r.kind == 8) && (decide (r.now < 0) || decide (549755813888 < r.now))) = true
                                    · have HA := hid (HA.out.trans (if_pos (show (r.kind == 8) = true ∧ (r.now < 0 ∨ 549755813888 < r.now) by simpa using y2)))
                                      rw [y2]
                                      go_wp2
                                      go_ret2
                                      exact ⟨by rw [HA.out]; first | done | rfl, BW.out.trans (B3.out.mono (by rw [ZW.out]; omega))⟩
                                    · have z2 := eq_false_of_ne_true y2
                                      have HA := hid (HA.out.trans (if_neg (show ¬ ((r.kind == 8) = true ∧ (r.now < 0 ∨ 549755813888 < r.now)) from fun h => y2 (by simpa using h))))
                                      rw [z2]
                                      clear y2 z2
                                      go_wp2
                                      go_ret2
                                      exact ⟨by rw [HA.out]; first | done | rfl, BW.out.trans (B3.out.mono (by rw [ZW.out]; omega))⟩
                        · have HA := hid (HA.out.trans (if_pos ⟨hk, e0⟩))
                          clear hk
                          obtain ⟨⟨e1, i1⟩, hl⟩ : ∃ p, lnA r.kind r.lines = p := ⟨_, rfl⟩
                          rw [hl] at HA e0 ⊢
                          have e0b : ¬ e1 = 0 := e0
                          clear e0 hl
                          go_wp2
                          go_ret2
                          exact ⟨by rw [HA.out]; first | done | rfl, BW.out.trans (B3.out.mono (by rw [ZW.out]; omega))⟩
end Go.Proofs.YtebkagmlhmdckaaGreat
