/-
  Dsm: Sheets, the document's side: may, placed. Laid by mkdsm.py.
  Dfw: Sheets, the document's side: its Fault, kept whole.
  Dpg: Sheets, the document's side: at, wrong. Laid by mkdpg.py.
  Dpw: Sheets, the document's side: written. Laid by mkdpw.py.
-/
import Derived.Test.YtmgfdnccmeahjaaGreatDoorZF
import Derived.Deep.WholeRow
import Derived.Test.YtmgfdnccmeahjaaGreatDoorZJ
import Derived.Deep.QuietTactic
import Derived.BigQuiet
import Derived.Test.YtmgfdnccmeahjaaGreatDoorZH
import Derived.Laws.IdiomStrings
import Derived.Laws.BytesString
import Derived.Deep.CutRange
import Derived.Deep.DeepCutAuto
namespace Go.Proofs.YtmgfdnccmeahjaaGreatDoor
open Go.RowKit
set_option maxRecDepth 100000
set_option linter.unusedVariables false
set_option linter.unusedSimpArgs false

set_option maxHeartbeats 1000000 in
theorem dmay_any (c : UInt8) (w : World) : Calls Tryz.prog 120 #[.int .u8 (c.toNat : Int)] w fun e w' => e = .returned (.bool (mayB c.toNat)) ∧ w' = w := by
  by_cases h9 : c.toNat = 9
  · skip
    have HV := hid (show mayB c.toNat = true by unfold mayB; simp; omega)
    have e9 : ((c.toNat : Int) == 9) = true := by rw [beq_iff_eq]; omega
    rw [HV.out]
    go_enter Tryz.func120, Tryz.ntmps120
    go_wp2
    go_ret
    exact ⟨rfl, rfl⟩
  · skip
    by_cases h10 : c.toNat = 10
    · skip
      have HV := hid (show mayB c.toNat = true by unfold mayB; simp; omega)
      have e9 : ((c.toNat : Int) == 9) = false := by rw [beq_eq_false_iff_ne]; omega
      have e10 : ((c.toNat : Int) == 10) = true := by rw [beq_iff_eq]; omega
      rw [HV.out]
      go_enter Tryz.func120, Tryz.ntmps120
      go_wp2
      go_ret
      exact ⟨rfl, rfl⟩
    · skip
      by_cases h13 : c.toNat = 13
      · skip
        have HV := hid (show mayB c.toNat = true by unfold mayB; simp; omega)
        have e9 : ((c.toNat : Int) == 9) = false := by rw [beq_eq_false_iff_ne]; omega
        have e10 : ((c.toNat : Int) == 10) = false := by rw [beq_eq_false_iff_ne]; omega
        have e13 : ((c.toNat : Int) == 13) = true := by rw [beq_iff_eq]; omega
        rw [HV.out]
        go_enter Tryz.func120, Tryz.ntmps120
        go_wp2
        go_ret
        exact ⟨rfl, rfl⟩
      · skip
        by_cases h32 : 32 ≤ c.toNat
        · have d32 : decide ((32 : Int) ≤ (c.toNat : Int)) = true := by simp; omega
          have i32 : (32 : Int) ≤ (c.toNat : Int) := by omega
          by_cases h127 : c.toNat = 127
          · have n127 : ((c.toNat : Int) != 127) = false := by simp; omega
            have HV := hid (show mayB c.toNat = false by unfold mayB; simp; omega)
            have e9 : ((c.toNat : Int) == 9) = false := by rw [beq_eq_false_iff_ne]; omega
            have e10 : ((c.toNat : Int) == 10) = false := by rw [beq_eq_false_iff_ne]; omega
            have e13 : ((c.toNat : Int) == 13) = false := by rw [beq_eq_false_iff_ne]; omega
            have e127 : ((c.toNat : Int) == 127) = true := by rw [beq_iff_eq]; omega
            rw [HV.out]
            go_enter Tryz.func120, Tryz.ntmps120
            go_wp2
            go_ret
            exact ⟨rfl, rfl⟩
          · have n127 : ((c.toNat : Int) != 127) = true := by simp; omega
            have HV := hid (show mayB c.toNat = true by unfold mayB; simp; omega)
            have e9 : ((c.toNat : Int) == 9) = false := by rw [beq_eq_false_iff_ne]; omega
            have e10 : ((c.toNat : Int) == 10) = false := by rw [beq_eq_false_iff_ne]; omega
            have e13 : ((c.toNat : Int) == 13) = false := by rw [beq_eq_false_iff_ne]; omega
            have e127 : ((c.toNat : Int) == 127) = false := by rw [beq_eq_false_iff_ne]; omega
            rw [HV.out]
            go_enter Tryz.func120, Tryz.ntmps120
            go_wp2
            go_ret
            exact ⟨rfl, rfl⟩
        · have d32 : decide ((32 : Int) ≤ (c.toNat : Int)) = false := by simp; omega
          have i32 : ¬ (32 : Int) ≤ (c.toNat : Int) := by omega
          have HV := hid (show mayB c.toNat = false by unfold mayB; simp; omega)
          have e9 : ((c.toNat : Int) == 9) = false := by rw [beq_eq_false_iff_ne]; omega
          have e10 : ((c.toNat : Int) == 10) = false := by rw [beq_eq_false_iff_ne]; omega
          have e13 : ((c.toNat : Int) == 13) = false := by rw [beq_eq_false_iff_ne]; omega
          rw [HV.out]
          go_enter Tryz.func120, Tryz.ntmps120
          go_wp2
          go_ret
          exact ⟨rfl, rfl⟩
/-- the document's Fault as a value -/
def fV (c l k i : Nat) : Value := .agg #[.int .i64 (c : Int), .int .i64 (l : Int), .int .i64 (k : Int), .int .i64 (i : Int), .int .i64 0]
/-- the document's Fault in a block -/
def FB (w : World) (b : Nat) (v0 v1 v2 v3 v4 : Value) : Prop := w.heap[b]? = some (.cells #[v0, v1, v2, v3, v4] 62 (0, 0))
section
variable {w : World} {b : Nat} {v0 v1 v2 v3 v4 : Value}
theorem FB.put0 (h : FB w b v0 v1 v2 v3 v4) (u : Value) : FB (w.setCell ⟨b, 0, none⟩ u) b u v1 v2 v3 v4 := Lib.heap_setCell_same h _
theorem FB.put1 (h : FB w b v0 v1 v2 v3 v4) (u : Value) : FB (w.setCell ⟨b, 1, none⟩ u) b v0 u v2 v3 v4 := Lib.heap_setCell_same h _
theorem FB.put2 (h : FB w b v0 v1 v2 v3 v4) (u : Value) : FB (w.setCell ⟨b, 2, none⟩ u) b v0 v1 u v3 v4 := Lib.heap_setCell_same h _
theorem FB.put3 (h : FB w b v0 v1 v2 v3 v4) (u : Value) : FB (w.setCell ⟨b, 3, none⟩ u) b v0 v1 v2 u v4 := Lib.heap_setCell_same h _
theorem FB.facts (h : FB w b v0 v1 v2 v3 v4) : w.cell? ⟨b, 0, none⟩ = some v0 ∧ w.cell? ⟨b, 1, none⟩ = some v1 ∧ w.cell? ⟨b, 2, none⟩ = some v2 ∧ w.cell? ⟨b, 3, none⟩ = some v3 ∧ w.cell? ⟨b, 4, none⟩ = some v4 ∧ (∀ j, w.frozen? ⟨b, j, none⟩ = false) ∧ b < w.heap.size :=
  ⟨Lib.cell_of_heap h 0, Lib.cell_of_heap h 1, Lib.cell_of_heap h 2, Lib.cell_of_heap h 3, Lib.cell_of_heap h 4, fun j => Lib.frozen_of_heap h j, (Array.getElem?_eq_some_iff.1 h).1⟩
theorem FB.other (h : FB w b v0 v1 v2 v3 v4) {b2 : Nat} (hne : b ≠ b2) (j : Nat) (u : Value) : FB (w.setCell ⟨b2, j, none⟩ u) b v0 v1 v2 v3 v4 := (Below.heap_setCell _ _ _ _ (by show b ≠ b2; exact hne)).trans h
end
end Go.Proofs.YtmgfdnccmeahjaaGreatDoor

namespace Go.Proofs.YtmgfdnccmeahjaaGreatDoor
open Go.RowKit
set_option maxRecDepth 100000
set_option linter.unusedVariables false
set_option linter.unusedSimpArgs false

def fLd (a : Addr) : Sem Value := loadVar 62 a
theorem fLd_op (a : Addr) : loadVar 62 a = fLd a := rfl
def fSt (a : Addr) (v : Value) : Sem Unit := storeVar 62 a v
theorem fSt_op (a : Addr) (v : Value) : storeVar 62 a v = fSt a v := rfl
theorem fsize : (Tryz.prog.info? 62).map (·.size) = some 5 := by kernel_rfl
/-- a Fault's five cells -/
def fA (c l k i : Nat) : Array Value := #[.int .i64 (c : Int), .int .i64 (l : Int), .int .i64 (k : Int), .int .i64 (i : Int), .int .i64 0]
/-- a Fault in a block -/
def FW (w : World) (b : Nat) (c l k i : Nat) : Prop := w.heap[b]? = some (.cells (fA c l k i) 62 (0, 0))
section
variable {w : World} {b c l k i : Nat}
theorem run_fLd (h : FW w b c l k i) : (fLd ⟨b, 0, none⟩).run Tryz.prog w = .ok (fV c l k i) w :=
  run_loadVar_row _ _ _ _ (fA c l k i) (0, 0) _ h Tryz.underlying62 rfl fsize
theorem run_fSt (h : FW w b c l k i) (c' l' k' i' : Nat) :
    ∃ W, (fSt ⟨b, 0, none⟩ (fV c' l' k' i')).run Tryz.prog w = .ok () W ∧ FW W b c' l' k' i' ∧ w.grownBy W (some b) := by
  refine ⟨w.setRow b (fA c' l' k' i'), run_storeVar_row w b _ _ (fA c l k i) (fA c' l' k' i') h fsize rfl (by simp [fA]; simp [Value.oneCell']), ?_, ⟨rfl, rfl, rfl, by simp [World.setRow], fun k _ hk => ?_⟩⟩
  · unfold FW at h ⊢
    simp [World.setRow, Array.getElem?_modify, h]
  · have : b ≠ k := fun e => hk (by rw [e])
    simp [World.setRow, Array.getElem?_modify, this]
theorem run_fSt0 (h : FW w b c l k i) :
    ∃ W, (fSt ⟨b, 0, none⟩ (.agg #[.int .i64 0, .int .i64 0, .int .i64 0, .int .i64 0, .int .i64 0])).run Tryz.prog w = .ok () W ∧ FW W b 0 0 0 0 ∧ w.grownBy W (some b) := run_fSt h 0 0 0 0
theorem FW.cell (h : FW w b c l k i) : w.cell? ⟨b, 0, none⟩ = some (.int .i64 (c : Int)) := Lib.cell_of_heap h 0
theorem FW.lt (h : FW w b c l k i) : b < w.heap.size := (Array.getElem?_eq_some_iff.1 h).1
theorem FW.big {w' : World} (h : FW w b c l k i) (hb : Below w.heap.size w w') : FW w' b c l k i := (hb.block b h.lt).trans h
theorem FW.grown {w' : World} {o : Option Nat} (h : FW w b c l k i) (hg : w.grownBy w' o) (ho : o ≠ some b) : FW w' b c l k i := (hg.block b h.lt (fun e => ho e.symm)).trans h
theorem FW.alloc (h : FW w b c l k i) (o : Obj) : FW (w.alloc o) b c l k i := (Lib.alloc_old w o b h.lt).trans h
end
theorem FW.new (w : World) : FW (w.alloc (.cells #[.int .i64 0, .int .i64 0, .int .i64 0, .int .i64 0, .int .i64 0] 62)) w.heap.size 0 0 0 0 := heap_alloc_new w _
end Go.Proofs.YtmgfdnccmeahjaaGreatDoor

namespace Go.Proofs.YtmgfdnccmeahjaaGreatDoor
open Go.RowKit
set_option maxRecDepth 100000
set_option linter.unusedVariables false
set_option linter.unusedSimpArgs false
attribute [local go_sem ↓] fLd_op fSt_op

set_option maxHeartbeats 1000000 in
theorem at_any (c l k : Nat) (w : World) : Calls Tryz.prog 55 #[.int .i64 (c : Int), .int .i64 (l : Int), .int .i64 (k : Int)] w fun e w' => e = .returned (fV c l k 0) ∧ Below w.heap.size w w' := by
  obtain ⟨W, ES, hW, gW⟩ := run_fSt (FW.new w) c l k 0
  have EL := run_fLd hW
  have BF := hid (((Below.refl _ w).alloc (Nat.le_refl _) _).grown gW (by simp) (fun b hb => by cases hb; exact Nat.le_refl _))
  have ES' : (fSt ⟨w.heap.size, 0, none⟩ (.agg #[.int .i64 (c : Int), .int .i64 (l : Int), .int .i64 (k : Int), .int .i64 0, .int .i64 0])).run Tryz.prog (w.alloc (.cells #[.int .i64 0, .int .i64 0, .int .i64 0, .int .i64 0, .int .i64 0] 62)) = .ok () W := ES
  clear ES hW gW
  go_enter Tryz.func55, Tryz.ntmps55
  go_wp2
  refine bodyPost_ret (by simp [results, Tryz.results55, asAddr, ↓fLd_op, EL]; try rfl) rfl ?_
  exact ⟨rfl, BF.out⟩
/-- what wrong answers -/
def wgV (q : Nat × Nat × Nat) : Value := fV q.1 q.2.1 q.2.2 0
set_option maxHeartbeats 12000000 in
theorem wrong_any (v : Value) (R : List (List (List UInt8))) (w : World) (hr : Rw w v R) :
    Calls Tryz.prog 100 #[v] w fun e w' => e = .returned (wgV (rck (R.headD []).length R 0)) ∧ Below w.heap.size w w' := by
  have HM := hid (fun c w => dmay_any c w)
  have HAt := hid (fun c l k w => at_any c l k w)
  have HR := hid hr
  have hRl := hr.len
  obtain ⟨ra, rc, rfl⟩ := hr.form
  obtain ⟨n, hn⟩ : ∃ n, n = (R.headD []).length := ⟨_, rfl⟩
  have HN := hid hn
  rw [← hn]
  obtain ⟨Q, hQ⟩ : ∃ Q, Q = rck n R 0 := ⟨_, rfl⟩
  rw [← hQ]
  have HQ := hid hQ
  clear hr hn hQ
  go_enter Tryz.func100, Tryz.ntmps100
  go_wp2_with fail
  go_loopw [3] (fun j wr => ∃ (i : Nat), i ≤ R.length ∧ i ≤ 4096 ∧ j = .int .i64 (i : Int) ∧ Q = rck n (R.drop i) i ∧ Below w.heap.size w wr ∧ FW wr w.heap.size 0 0 0 0) (fun j _ => R.length - (intOf j).toNat)
  case atStart => exact ⟨0, Nat.zero_le _, by omega, rfl, HQ.out, (Below.refl _ _).alloc (Nat.le_refl _) _, FW.new w⟩
  case round =>
    obtain ⟨i, hi, hi4, rfl, hq, hbl, hfb⟩ := hrel
    have HB := hid hbl
    have HF := hid hfb
    have HQi := hid hq
    clear hbl hfb hq
    by_cases hlt : i < R.length
    · have hI : (i : Int) < (R.length : Int) := by omega
      by_cases h4 : i = 4096
      · have e4 : ((i : Int) == 4096) = true := by rw [beq_iff_eq]; omega
        have HV := hid (HQi.out.trans (rck_many n R i hlt h4))
        clear h4
        go_wp2_with fail
        refine Calls.mono (HAt.out 7 (i + 1) 0 _) ?_
        rintro e w2 ⟨rfl, hb2⟩
        obtain ⟨W, ES, hW, gW⟩ := run_fSt (HF.out.big hb2) 7 (i + 1) 0 0
        have EL := run_fLd hW
        have BF := hid ((HB.out.trans (hb2.mono HB.out.size)).grown gW (Nat.le_trans HB.out.size hb2.size) (fun b hb => by cases hb; exact Nat.le_refl _))
        obtain ⟨fv, hfv⟩ : ∃ fv, fv = fV 7 (i + 1) 0 0 := ⟨_, rfl⟩
        rw [← hfv] at ES EL ⊢
        have HFv := hid hfv
        clear hW gW hb2 hfv
        go_wp2
        refine bodyPost_ret (by simp [results, Tryz.results100, asAddr, ↓fLd_op, EL]; try rfl) rfl ?_
        rw [HV.out, HFv.out]
        exact ⟨rfl, BF.out⟩
      · have e4 : ((i : Int) == 4096) = false := by rw [beq_eq_false_iff_ne]; omega
        have K1 := hid (fun h => HQi.out.trans (rck_hit n R i hlt h4 h))
        have K0 := hid (fun h => HQi.out.trans (rck_drop n R i hlt h4 h))
        have HA0 := hid (fun wx (h : Below w.heap.size w wx) => (HR.out.below h).at i hlt)
        have HA1 := hid (fun wx (h : Below w.heap.size w wx) => (HR.out.below h).at 0 (by omega))
        have hn2 : (R[0]'(by omega)).length = n := by
          rw [HN.out]
          cases R with
          | nil => simp at hlt
          | cons a b => rfl
        obtain ⟨cs, hcs⟩ : ∃ cs, cs = R[i]'hlt := ⟨_, rfl⟩
        rw [← hcs] at K1 K0 HA0
        clear hcs
        obtain ⟨g, off, cap, u, e1, hcap, c0, tx⟩ := HA0.out wr HB.out
        cases e1
        obtain ⟨g', off', cap', u0, e1', _, d0, tx0⟩ := HA1.out wr HB.out
        injection e1' with e1a _ e1c
        injection e1a with e1b
        injection e1b with e1d e1e
        subst e1d e1e e1c
        rw [Nat.add_zero] at d0
        have hcl := tx.len
        obtain ⟨ua, uc, hu⟩ := tx.form
        obtain ⟨ub, ud, hu0⟩ := tx0.form
        rw [hn2] at hu0
        subst hu hu0
        have HTx := hid tx
        clear tx tx0 hn2
        by_cases hz : cs.length = 0
        · have ez : ((cs.length : Int) == 0) = true := by rw [beq_iff_eq]; omega
          have hw : wfl n cs = (6, 0) := by unfold wfl; rw [if_pos (by omega)]
          have HV := hid (K1.out (by rw [hw]; decide))
          rw [hw] at HV
          clear hz hw
          go_wp2_with fail
          refine Calls.mono (HAt.out 6 (i + 1) 0 _) ?_
          rintro e w2 ⟨rfl, hb2⟩
          obtain ⟨W, ES, hW, gW⟩ := run_fSt (HF.out.big hb2) 6 (i + 1) 0 0
          have EL := run_fLd hW
          have BF := hid ((HB.out.trans (hb2.mono HB.out.size)).grown gW (Nat.le_trans HB.out.size hb2.size) (fun b hb => by cases hb; exact Nat.le_refl _))
          obtain ⟨fv, hfv⟩ : ∃ fv, fv = fV 6 (i + 1) 0 0 := ⟨_, rfl⟩
          rw [← hfv] at ES EL ⊢
          have HFv := hid hfv
          clear hW gW hb2 hfv
          go_wp2
          refine bodyPost_ret (by simp [results, Tryz.results100, asAddr, ↓fLd_op, EL]; try rfl) rfl ?_
          rw [HV.out, HFv.out]
          exact ⟨rfl, BF.out⟩
        · have ez : ((cs.length : Int) == 0) = false := by rw [beq_eq_false_iff_ne]; omega
          by_cases h64 : 64 < cs.length
          · have hJ : (64 : Int) < (cs.length : Int) := by omega
            have dJ : decide ((64 : Int) < (cs.length : Int)) = true := decide_eq_true hJ
            have hw : wfl n cs = (6, 64) := by unfold wfl; rw [if_neg (by omega), if_pos h64]
            have HV := hid (K1.out (by rw [hw]; decide))
            rw [hw] at HV
            clear hw
            go_wp2_with fail
            refine Calls.mono (HAt.out 6 (i + 1) 64 _) ?_
            rintro e w2 ⟨rfl, hb2⟩
            obtain ⟨W, ES, hW, gW⟩ := run_fSt (HF.out.big hb2) 6 (i + 1) 64 0
            have EL := run_fLd hW
            have BF := hid ((HB.out.trans (hb2.mono HB.out.size)).grown gW (Nat.le_trans HB.out.size hb2.size) (fun b hb => by cases hb; exact Nat.le_refl _))
            obtain ⟨fv, hfv⟩ : ∃ fv, fv = fV 6 (i + 1) 64 0 := ⟨_, rfl⟩
            rw [← hfv] at ES EL ⊢
            have HFv := hid hfv
            clear hW gW hb2 hfv
            go_wp2
            refine bodyPost_ret (by simp [results, Tryz.results100, asAddr, ↓fLd_op, EL]; try rfl) rfl ?_
            rw [HV.out, HFv.out]
            exact ⟨rfl, BF.out⟩
          · have hJ : ¬ (64 : Int) < (cs.length : Int) := by omega
            have dJ : decide ((64 : Int) < (cs.length : Int)) = false := decide_eq_false hJ
            by_cases hnn : cs.length = n
            · have en : ((cs.length : Int) != (n : Int)) = false := by rw [hnn]; exact bne_self_eq_false _
              have hw : wfl n cs = cls cs 0 := by unfold wfl; rw [if_neg hz, if_neg h64, if_pos hnn]
              have K2 := hid (fun h => K1.out (by rw [hw]; exact h))
              have K3 := hid (fun h => K0.out (by rw [hw]; exact h))
              rw [hw] at K2
              have HNn := hid hnn
              clear hw hnn
              go_wp2_with fail
              go_quiet (fail)
              have BQ := below_drewN HB.out nq
              have FQ : FW (wr.drewN nq) w.heap.size 0 0 0 0 := by unfold FW; rw [drewN_heap]; exact HF.out
              generalize wr.drewN nq = w1 at *
              have HB1 := hid BQ
              have HF1 := hid FQ
              clear BQ FQ c0 d0
              go_wp2_with fail
              go_loopw [4] (fun j wr2 => ∃ (k : Nat), k ≤ cs.length ∧ j = .int .i64 (k : Int) ∧ cls cs 0 = cls (cs.drop k) k ∧ Below w.heap.size w wr2 ∧ FW wr2 w.heap.size 0 0 0 0) (fun j _ => cs.length - (intOf j).toNat)
              case atStart => exact ⟨0, Nat.zero_le _, rfl, rfl, HB1.out, HF1.out⟩
              case round =>
                obtain ⟨k, hk, rfl, hcq, hbl2, hfb2⟩ := hrel
                clear HB HF
                have HB := hid hbl2
                have HF := hid hfb2
                have HCq := hid hcq
                clear hbl2 hfb2 hcq
                obtain ⟨g', off', cap', u', e1', _, c0, tx⟩ := HA0.out _ HB.out
                injection e1' with e1a _ e1c
                injection e1a with e1b
                injection e1b with e1d e1e
                subst e1d e1e e1c
                by_cases hk2 : k < cs.length
                · have hK : (k : Int) < (cs.length : Int) := by omega
                  obtain ⟨g2, off2, cap2, e2, hcap2, c2⟩ := tx.at k hk2
                  subst e2
                  have C1 := hid (fun h => HCq.out.trans (cls_hit cs k hk2 h))
                  have C0 := hid (fun h => HCq.out.trans (cls_drop cs k hk2 h))
                  obtain ⟨T, hT⟩ : ∃ T, T = cs[k]'hk2 := ⟨_, rfl⟩
                  rw [← hT] at c2 C1 C0
                  obtain ⟨X, hX⟩ : ∃ X : ByteArray, X = ⟨T.toArray⟩ := ⟨_, rfl⟩
                  have hXl : X.data.toList = T := by rw [hX]
                  have hXs : X.size = T.length := by rw [hX]; simp [ByteArray.size]
                  rw [← hX] at c2
                  have HXs := hid (And.intro hXl hXs)
                  clear hT hX hXl hXs tx
                  by_cases hlg : 4096 < X.size
                  · have hG : (4096 : Int) < (X.size : Int) := by omega
                    have dG : decide ((4096 : Int) < (X.size : Int)) = true := decide_eq_true hG
                    have hcf := cfl_long (T := T) (by have := HXs.out.2; omega)
                    have hC := C1.out (by rw [hcf]; decide)
                    rw [hcf] at hC
                    have HV := hid (K2.out (by rw [hC]; simp))
                    rw [hC] at HV
                    clear hC hcf
                    go_wp2_with fail
                    refine Calls.mono (HAt.out 5 (i + 1) k _) ?_
                    rintro e w2 ⟨rfl, hb2⟩
                    obtain ⟨W, ES, hW, gW⟩ := run_fSt (HF.out.big hb2) 5 (i + 1) k 0
                    have EL := run_fLd hW
                    have BF := hid ((HB.out.trans (hb2.mono HB.out.size)).grown gW (Nat.le_trans HB.out.size hb2.size) (fun b hb => by cases hb; exact Nat.le_refl _))
                    obtain ⟨fv, hfv⟩ : ∃ fv, fv = fV 5 (i + 1) k 0 := ⟨_, rfl⟩
                    rw [← hfv] at ES EL ⊢
                    have HFv := hid hfv
                    clear hW gW hb2 hfv
                    go_wp2
                    refine bodyPost_ret (by simp [results, Tryz.results100, asAddr, ↓fLd_op, EL]; try rfl) rfl ?_
                    rw [HV.out, HFv.out]
                    exact ⟨rfl, BF.out⟩
                  · have hG : ¬ (4096 : Int) < (X.size : Int) := by omega
                    have dG : decide ((4096 : Int) < (X.size : Int)) = false := decide_eq_false hG
                    go_wp2_with fail
                    go_loopw [6] (fun j wr3 => ∃ (m : Nat), m ≤ X.size ∧ j = .int .i64 (m : Int) ∧ (∀ z (hz : z < X.size), z < m → mayB X[z].toNat = true) ∧ Below w.heap.size w wr3 ∧ FW wr3 w.heap.size 0 0 0 0) (fun j _ => X.size - (intOf j).toNat)
                    case atStart => exact ⟨0, Nat.zero_le _, rfl, fun z _ hz => absurd hz (Nat.not_lt_zero _), HB.out, HF.out⟩
                    case round =>
                      obtain ⟨m, hm, rfl, hall, hbl3, hfb3⟩ := hrel
                      clear HB HF c0 c2
                      have HB := hid hbl3
                      have HF := hid hfb3
                      have HAl := hid hall
                      clear hbl3 hfb3 hall
                      have hTT : ∀ z (hz : z < X.size), T[z]'(by have := HXs.out.2; omega) = X[z] := fun z hz => by
                        have := list_at2 X z hz
                        rw [← this]
                        congr 1
                        exact HXs.out.1.symm
                      have HTT := hid hTT
                      clear hTT
                      by_cases hm2 : m < X.size
                      · have hMI : (m : Int) < (X.size : Int) := by omega
                        by_cases hmay : mayB X[m].toNat = false
                        · have HMi := hid (show ∀ w, Calls Tryz.prog 120 #[.int .u8 (X[m].toNat : Int)] w fun e w' => e = .returned (.bool false) ∧ w' = w from fun w => by have := HM.out X[m] w; rw [hmay] at this; exact this)
                          have hcf := cfl_bad (T := T) (by have := HXs.out.2; omega) (j := m) (by have := HXs.out.2; omega) (by rw [HTT.out m hm2]; exact hmay)
                          have hC := C1.out (by rw [hcf]; decide)
                          rw [hcf] at hC
                          have HV := hid (K2.out (by rw [hC]; simp))
                          rw [hC] at HV
                          clear hC hcf hmay
                          go_wp2_with fail
                          refine Calls.mono (HMi.out _) ?_
                          rintro e w9 ⟨rfl, hw⟩
                          replace hw := hw.symm
                          subst hw
                          go_wp2_with fail
                          refine Calls.mono (HAt.out 4 (i + 1) k _) ?_
                          rintro e w2 ⟨rfl, hb2⟩
                          obtain ⟨W, ES, hW, gW⟩ := run_fSt (HF.out.big hb2) 4 (i + 1) k 0
                          have EL := run_fLd hW
                          have BF := hid ((HB.out.trans (hb2.mono HB.out.size)).grown gW (Nat.le_trans HB.out.size hb2.size) (fun b hb => by cases hb; exact Nat.le_refl _))
                          obtain ⟨fv, hfv⟩ : ∃ fv, fv = fV 4 (i + 1) k 0 := ⟨_, rfl⟩
                          rw [← hfv] at ES EL ⊢
                          have HFv := hid hfv
                          clear hW gW hb2 hfv
                          go_wp2
                          refine bodyPost_ret (by simp [results, Tryz.results100, asAddr, ↓fLd_op, EL]; try rfl) rfl ?_
                          rw [HV.out, HFv.out]
                          exact ⟨rfl, BF.out⟩
                        · rw [Bool.not_eq_false] at hmay
                          have HMi := hid (show ∀ w, Calls Tryz.prog 120 #[.int .u8 (X[m].toNat : Int)] w fun e w' => e = .returned (.bool true) ∧ w' = w from fun w => by have := HM.out X[m] w; rw [hmay] at this; exact this)
                          have HMy := hid hmay
                          clear hmay
                          go_wp2_with fail
                          refine Calls.mono (HMi.out _) ?_
                          rintro e w9 ⟨rfl, hw⟩
                          replace hw := hw.symm
                          subst hw
                          go_wp2
                          go_roundw
                          case rel =>
                            refine ⟨m + 1, by omega, by go_num, fun z hz hzm => ?_, HB.out, HF.out⟩
                            by_cases hzz : z = m
                            · subst hzz; exact HMy.out
                            · exact HAl.out z hz (by omega)
                          case measure => simp [intOf]; omega
                      · have hMI : ¬ (m : Int) < (X.size : Int) := by omega
                        have hcf : cfl T = 0 := cfl_fine (by have := HXs.out.2; omega) (fun z hz => by
                          have hz2 : z < X.size := by have := HXs.out.2; omega
                          rw [HTT.out z hz2]
                          exact HAl.out z hz2 (by omega))
                        have HC0 := hid (C0.out hcf)
                        clear hcf
                        go_wp2
                        go_roundw
                        case rel => exact ⟨k + 1, by omega, by go_num, HC0.out, HB.out, HF.out⟩
                        case measure => simp [intOf]; omega
                · have hK : ¬ (k : Int) < (cs.length : Int) := by omega
                  obtain ⟨ua', uc', hu'⟩ := tx.form
                  subst hu'
                  have HV := hid (K3.out (by rw [HCq.out, List.drop_eq_nil_of_le (by omega)]; rfl))
                  clear tx
                  go_wp2
                  go_roundw
                  case rel => exact ⟨i + 1, by omega, by omega, by go_num, HV.out, HB.out, HF.out⟩
                  case measure => simp [intOf]; omega
            · have en : ((cs.length : Int) != (n : Int)) = true := by rw [bne_iff_ne]; omega
              have pn : ¬ (cs.length : Int) = (n : Int) := by omega
              have hw : wfl n cs = (8, 0) := by unfold wfl; rw [if_neg hz, if_neg h64, if_neg hnn]
              have HV := hid (K1.out (by rw [hw]; decide))
              rw [hw] at HV
              clear hw hnn
              go_wp2_with fail
              go_quiet (fail)
              have BQ := below_drewN HB.out nq
              have FQ : FW (wr.drewN nq) w.heap.size 0 0 0 0 := by unfold FW; rw [drewN_heap]; exact HF.out
              generalize wr.drewN nq = w1 at *
              clear HB HF
              have HB := hid BQ
              have HF := hid FQ
              clear BQ FQ c0 d0
              go_wp2_with fail
              refine Calls.mono (HAt.out 8 (i + 1) 0 _) ?_
              rintro e w2 ⟨rfl, hb2⟩
              obtain ⟨W, ES, hW, gW⟩ := run_fSt (HF.out.big hb2) 8 (i + 1) 0 0
              have EL := run_fLd hW
              have BF := hid ((HB.out.trans (hb2.mono HB.out.size)).grown gW (Nat.le_trans HB.out.size hb2.size) (fun b hb => by cases hb; exact Nat.le_refl _))
              obtain ⟨fv, hfv⟩ : ∃ fv, fv = fV 8 (i + 1) 0 0 := ⟨_, rfl⟩
              rw [← hfv] at ES EL ⊢
              have HFv := hid hfv
              clear hW gW hb2 hfv
              go_wp2
              refine bodyPost_ret (by simp [results, Tryz.results100, asAddr, ↓fLd_op, EL]; try rfl) rfl ?_
              rw [HV.out, HFv.out]
              exact ⟨rfl, BF.out⟩
    · have hI : ¬ (i : Int) < (R.length : Int) := by omega
      have HV := hid (show Q = (0, 0, 0) by rw [HQi.out, List.drop_eq_nil_of_le (by omega)]; rfl)
      obtain ⟨W, ES, hW, gW⟩ := run_fSt0 HF.out
      have EL := run_fLd hW
      have BF := hid (HB.out.grown gW HB.out.size (fun b hb => by cases hb; exact Nat.le_refl _))
      clear hW gW
      go_wp2
      refine bodyPost_ret (by simp [results, Tryz.results100, asAddr, ↓fLd_op, EL]; try rfl) rfl ?_
      rw [HV.out]
      exact ⟨rfl, BF.out⟩
end Go.Proofs.YtmgfdnccmeahjaaGreatDoor

namespace Go.Proofs.YtmgfdnccmeahjaaGreatDoor
open Go.RowKit
set_option maxRecDepth 100000
set_option linter.unusedVariables false
set_option linter.unusedSimpArgs false

theorem conv_own2 {w : World} {B : Nat} {v : Value} {t : List UInt8} (h : w.ownsRow B 5 1 v t.length (Lib.byteCells t)) : (convert 92 9 v).run Tryz.prog w = .ok (.string ⟨t.toArray⟩) w := by
  have hc := fun g hg => World.ownsRow.cells h (g := g) hg
  rcases h.2 with ⟨rfl, h0⟩ | ⟨g, cap, cur, rfl, _⟩
  · have ht : t = [] := List.eq_nil_of_length_eq_zero h0
    subst ht
    rw [run_convert_bytes_string w 92 9 5 none 0 0 Tryz.underlying92 Tryz.underlying5 Tryz.underlying9]
    rfl
  · exact run_convert_bytes_back w 92 9 5 _ cap t Tryz.underlying92 Tryz.underlying5 Tryz.underlying9 (fun j hj => hc g rfl j _ (by simp [Lib.byteCells, hj]))
theorem own_one (w : World) (x : Int) : (w.alloc (.cells #[.int .u8 x] 5)).ownsRow w.heap.size 5 1 (.slice (some ⟨w.heap.size, 0, none⟩) 1 1) 1 [.int .u8 x] :=
  ⟨rfl, .inr ⟨w.heap.size, 1, #[.int .u8 x], rfl, Nat.le_refl _, heap_alloc_new w _, Nat.le_refl _, by unfold maxLen; omega, rfl, rfl⟩⟩
theorem take_up (L : List UInt8) (i : Nat) (h : i < L.length) : L.take (i + 1) = L.take i ++ [L[i]] := by
  rw [List.take_add_one, List.getElem?_eq_getElem h]
  rfl
theorem dbl_up (L : List UInt8) (i : Nat) (h : i < L.length) : dbl (L.take (i + 1)) = dbl (L.take i) ++ (if L[i].toNat = 34 then [L[i], L[i]] else [L[i]]) := by
  rw [take_up L i h, dbl_app]
  congr 1
theorem any_up (L : List UInt8) (i : Nat) (h : i < L.length) : (L.take (i + 1)).any (fun c => nqB c.toNat) = ((L.take i).any (fun c => nqB c.toNat) || nqB L[i].toNat) := by
  rw [take_up L i h, List.any_append]
  simp
set_option maxHeartbeats 8000000 in
theorem written_any (s : ByteArray) (w : World) (hs : s.size ≤ 4096) :
    Calls Tryz.prog 126 #[.string s] w fun e w' => e = .returned (.string ⟨(pcl s.data.toList).toArray⟩) ∧ Below w.heap.size w w' := by
  have hds : s.data.toList.length = s.size := by rw [Array.length_toList]; rfl
  have HDS := hid hds
  obtain ⟨Pv, hPv⟩ : ∃ Pv : ByteArray, Pv = ⟨(pcl s.data.toList).toArray⟩ := ⟨_, rfl⟩
  rw [← hPv]
  have HP := hid hPv
  clear hds hPv
  go_enter Tryz.func126, Tryz.ntmps126
  go_wp2_with fail
  go_loopw [3, 4, 5] (fun nv tv j wr => ∃ (i : Nat), i ≤ s.size ∧ j = .int .i64 (i : Int) ∧ nv = .bool ((s.data.toList.take i).any (fun c => nqB c.toNat)) ∧ wr.ownsRow w.heap.size 5 1 tv (34 :: dbl (s.data.toList.take i)).length (Lib.byteCells (34 :: dbl (s.data.toList.take i))) ∧ Below w.heap.size w wr) (fun _ _ j _ => s.size - (intOf j).toNat)
  case atStart => exact ⟨0, Nat.zero_le _, rfl, rfl, own_one w 34, (Below.refl _ _).alloc (Nat.le_refl _) _⟩
  case round =>
    obtain ⟨i, hi, rfl, rfl, hown, hbl⟩ := hrel
    have hlen : (34 :: dbl (s.data.toList.take i)).length ≤ 10000 := by
      have := dbl_len (s.data.toList.take i)
      simp only [List.length_cons, List.length_take] at this ⊢
      omega
    obtain ⟨ta, tc, rfl⟩ := own_slice hown
    have HO := hid hown
    have HB := hid hbl
    clear hown hbl
    by_cases hlt : i < s.size
    · have hI : (i : Int) < (s.size : Int) := by omega
      have hL : i < s.data.toList.length := by rw [HDS.out]; exact hlt
      have hgi : s.data.toList[i] = s[i] := by rw [Array.getElem_toList]; rfl
      have HD := hid (dbl_up s.data.toList i hL)
      have HA := hid (any_up s.data.toList i hL)
      rw [hgi] at HD HA
      clear hgi
      obtain ⟨K, hK⟩ : ∃ K, K = 34 :: dbl (s.data.toList.take i) := ⟨_, rfl⟩
      have HD2 := hid (show 34 :: dbl (s.data.toList.take (i + 1)) = K ++ (if s[i].toNat = 34 then [s[i], s[i]] else [s[i]]) by rw [HD.out, hK]; rfl)
      rw [← hK] at HO hlen ⊢
      generalize hY : (s.data.toList.take i).any (fun c => nqB c.toNat) = Y at *
      have HKK := hid hK
      clear hK hY HD
      go_upto_region 6 with fail
      go_cut [40] from 13 to 40 (fun v wx => v = .bool (nqB s[i].toNat) ∧ wx = wr)
      case first =>
        by_cases h44 : s[i].toNat = 44
        · have e44 : ((s[i].toNat : Int) == 44) = true := by rw [beq_iff_eq]; omega
          have HN := hid (show nqB s[i].toNat = true by rw [h44]; rfl)
          clear h44
          go_wp2_with fail
          go_meet
          exact ⟨congrArg _ HN.out.symm, rfl⟩
        · have e44 : ((s[i].toNat : Int) == 44) = false := by rw [beq_eq_false_iff_ne]; omega
          by_cases h34 : s[i].toNat = 34
          · have e34 : ((s[i].toNat : Int) == 34) = true := by rw [beq_iff_eq]; omega
            have HN := hid (show nqB s[i].toNat = true by rw [h34]; rfl)
            clear h44 h34
            go_wp2_with fail
            go_meet
            exact ⟨congrArg _ HN.out.symm, rfl⟩
          · have e34 : ((s[i].toNat : Int) == 34) = false := by rw [beq_eq_false_iff_ne]; omega
            by_cases h13 : s[i].toNat = 13
            · have e13 : ((s[i].toNat : Int) == 13) = true := by rw [beq_iff_eq]; omega
              have HN := hid (show nqB s[i].toNat = true by rw [h13]; rfl)
              clear h44 h34 h13
              go_wp2_with fail
              go_meet
              exact ⟨congrArg _ HN.out.symm, rfl⟩
            · have e13 : ((s[i].toNat : Int) == 13) = false := by rw [beq_eq_false_iff_ne]; omega
              by_cases h10 : s[i].toNat = 10
              · have e10 : ((s[i].toNat : Int) == 10) = true := by rw [beq_iff_eq]; omega
                have HN := hid (show nqB s[i].toNat = true by rw [h10]; rfl)
                clear h44 h34 h13 h10
                go_wp2_with fail
                go_meet
                exact ⟨congrArg _ HN.out.symm, rfl⟩
              · have e10 : ((s[i].toNat : Int) == 10) = false := by rw [beq_eq_false_iff_ne]; omega
                by_cases h9 : s[i].toNat = 9
                · have e9 : ((s[i].toNat : Int) == 9) = true := by rw [beq_iff_eq]; omega
                  have HN := hid (show nqB s[i].toNat = true by rw [h9]; rfl)
                  clear h44 h34 h13 h10 h9
                  go_wp2_with fail
                  go_meet
                  exact ⟨congrArg _ HN.out.symm, rfl⟩
                · have e9 : ((s[i].toNat : Int) == 9) = false := by rw [beq_eq_false_iff_ne]; omega
                  have HN := hid (show nqB s[i].toNat = false by unfold nqB; simp; omega)
                  clear h44 h34 h13 h10 h9
                  go_wp2_with fail
                  go_meet
                  exact ⟨congrArg _ HN.out.symm, rfl⟩
      case rest =>
        obtain ⟨rfl, hwc⟩ := hcut
        replace hwc := hwc.symm
        subst hwc
        by_cases h34 : s[i].toNat = 34
        · have p34 : (s[i].toNat : Int) = 34 := by omega
          have e34 : ((s[i].toNat : Int) == 34) = true := by rw [beq_iff_eq]; exact p34
          have hq : s[i] = 34 := UInt8.toNat_inj.1 (by rw [h34]; rfl)
          have HX := hid (show nqB s[i].toNat = true by rw [h34]; rfl)
          have HQ := hid (show (if s[i].toNat = 34 then [s[i], s[i]] else [s[i]]) = [34, 34] by rw [if_pos h34, hq])
          rw [HX.out]
          clear h34 hq
          go_wp2_with (at_builtin; refine wpList_append_own_at _ rfl _ _ 92 rfl w.heap.size 5 _ (.int .u8 0) 1 1 Tryz.underlying92 (info_parts u8i).choose_spec.1 (info_parts u8i).choose_spec.2.1 (info_parts u8i).choose_spec.2.2.1 (info_parts u8i).choose_spec.2.2.2 rfl (by decide) _ _ _ rfl (HO.out.alloc _) ⟨wr.heap.size, 0, none⟩ 1 1 [.int .u8 34] rfl rfl (by intro j u hj; cases j with | zero => simp at hj; subst hj; simp [Addr.add] | succ j => simp at hj) (by intro u hu; simp at hu; subst hu; rfl) (by unfold maxLen; omega) (by omega) (by have := HB.out.size; simp; omega) ?_)
          intro v5 w5 hown5 hgrow5 _ _
          obtain ⟨a5, c5, rfl⟩ := own_slice hown5
          have HB5 := hid ((HB.out.alloc HB.out.size _).grown hgrow5 (by simp; have := HB.out.size; omega) (fun k hk => (World.ownsRow.lt HO.out k hk).1))
          clear hgrow5
          have HO5 := hid (show w5.ownsRow w.heap.size 5 1 (.slice a5 (K.length + 1) c5) (K.length + 1) (Lib.byteCells K ++ [.int .u8 34]) from hown5)
          clear hown5
          go_wp2_with (at_builtin; refine wpList_append_own_at _ rfl _ _ 92 rfl w.heap.size 5 _ (.int .u8 0) 1 1 Tryz.underlying92 (info_parts u8i).choose_spec.1 (info_parts u8i).choose_spec.2.1 (info_parts u8i).choose_spec.2.2.1 (info_parts u8i).choose_spec.2.2.2 rfl (by decide) _ _ _ rfl (HO5.out.alloc _) ⟨w5.heap.size, 0, none⟩ 1 1 [.int .u8 34] rfl rfl (by intro j u hj; cases j with | zero => simp at hj; subst hj; simp [Addr.add] | succ j => simp at hj) (by intro u hu; simp at hu; subst hu; rfl) (by unfold maxLen; omega) (by omega) (by have := HB5.out.size; simp; omega) ?_)
          intro v6 w6 hown6 hgrow6 _ _
          obtain ⟨a6, c6, rfl⟩ := own_slice hown6
          have HB6 := hid ((HB5.out.alloc HB5.out.size _).grown hgrow6 (by simp; have := HB5.out.size; omega) (fun k hk => (World.ownsRow.lt HO5.out k hk).1))
          clear hgrow6
          have HO6 := hid hown6
          clear hown6
          go_wp2
          go_roundw
          case rel =>
            refine ⟨i + 1, by omega, by go_num, ?_, ?_, HB6.out⟩
            · rw [HA.out, HX.out]; simp
            · rw [HD2.out, HQ.out]
              have := HO6.out
              simpa [Lib.byteCells, List.append_assoc] using this
          case measure => simp [intOf]; omega
        · have p34 : ¬ (s[i].toNat : Int) = 34 := by omega
          have e34 : ((s[i].toNat : Int) == 34) = false := by rw [beq_eq_false_iff_ne]; exact p34
          have HQ := hid (show (if s[i].toNat = 34 then [s[i], s[i]] else [s[i]]) = [s[i]] by rw [if_neg h34])
          clear h34
          cases hnq : nqB s[i].toNat with
          | true =>
            have HX := hid hnq
            clear hnq
            go_wp2_with (at_builtin; refine wpList_append_own_at _ rfl _ _ 92 rfl w.heap.size 5 _ (.int .u8 0) 1 1 Tryz.underlying92 (info_parts u8i).choose_spec.1 (info_parts u8i).choose_spec.2.1 (info_parts u8i).choose_spec.2.2.1 (info_parts u8i).choose_spec.2.2.2 rfl (by decide) _ _ _ rfl (HO.out.alloc _) ⟨wr.heap.size, 0, none⟩ 1 1 [.int .u8 (s[i].toNat : Int)] rfl rfl (by intro j u hj; cases j with | zero => simp at hj; subst hj; simp [Addr.add] | succ j => simp at hj) (by intro u hu; simp at hu; subst hu; rfl) (by unfold maxLen; omega) (by omega) (by have := HB.out.size; simp; omega) ?_)
            intro v5 w5 hown5 hgrow5 _ _
            obtain ⟨a5, c5, rfl⟩ := own_slice hown5
            have HB5 := hid ((HB.out.alloc HB.out.size _).grown hgrow5 (by simp; have := HB.out.size; omega) (fun k hk => (World.ownsRow.lt HO.out k hk).1))
            clear hgrow5
            have HO5 := hid hown5
            clear hown5
            go_wp2
            go_roundw
            case rel =>
              refine ⟨i + 1, by omega, by go_num, ?_, ?_, HB5.out⟩
              · rw [HA.out, HX.out]; simp
              · rw [HD2.out, HQ.out]
                have := HO5.out
                simpa [Lib.byteCells, List.append_assoc] using this
            case measure => simp [intOf]; omega
          | false =>
            have HX := hid hnq
            clear hnq
            go_wp2_with (at_builtin; refine wpList_append_own_at _ rfl _ _ 92 rfl w.heap.size 5 _ (.int .u8 0) 1 1 Tryz.underlying92 (info_parts u8i).choose_spec.1 (info_parts u8i).choose_spec.2.1 (info_parts u8i).choose_spec.2.2.1 (info_parts u8i).choose_spec.2.2.2 rfl (by decide) _ _ _ rfl (HO.out.alloc _) ⟨wr.heap.size, 0, none⟩ 1 1 [.int .u8 (s[i].toNat : Int)] rfl rfl (by intro j u hj; cases j with | zero => simp at hj; subst hj; simp [Addr.add] | succ j => simp at hj) (by intro u hu; simp at hu; subst hu; rfl) (by unfold maxLen; omega) (by omega) (by have := HB.out.size; simp; omega) ?_)
            intro v5 w5 hown5 hgrow5 _ _
            obtain ⟨a5, c5, rfl⟩ := own_slice hown5
            have HB5 := hid ((HB.out.alloc HB.out.size _).grown hgrow5 (by simp; have := HB.out.size; omega) (fun k hk => (World.ownsRow.lt HO.out k hk).1))
            clear hgrow5
            have HO5 := hid hown5
            clear hown5
            go_wp2
            go_roundw
            case rel =>
              refine ⟨i + 1, by omega, by go_num, ?_, ?_, HB5.out⟩
              · rw [HA.out, HX.out]; simp
              · rw [HD2.out, HQ.out]
                have := HO5.out
                simpa [Lib.byteCells, List.append_assoc] using this
            case measure => simp [intOf]; omega
    · have hI : ¬ (i : Int) < (s.size : Int) := by omega
      have hti : s.data.toList.take i = s.data.toList := List.take_of_length_le (by rw [HDS.out]; omega)
      rw [hti] at HO hlen ⊢
      cases hnq : s.data.toList.any (fun c => nqB c.toNat) with
      | true =>
        have HX := hid (show Pv = ⟨(34 :: (dbl s.data.toList ++ [34])).toArray⟩ by rw [HP.out]; unfold pcl; rw [if_pos hnq])
        obtain ⟨K, hK⟩ : ∃ K, K = 34 :: dbl s.data.toList := ⟨_, rfl⟩
        rw [← hK] at HO hlen ⊢
        have HKK := hid hK
        clear hnq hti hK
        go_wp2_with (at_builtin; refine wpList_append_own_at _ rfl _ _ 92 rfl w.heap.size 5 _ (.int .u8 0) 1 1 Tryz.underlying92 (info_parts u8i).choose_spec.1 (info_parts u8i).choose_spec.2.1 (info_parts u8i).choose_spec.2.2.1 (info_parts u8i).choose_spec.2.2.2 rfl (by decide) _ _ _ rfl (HO.out.alloc _) ⟨wr.heap.size, 0, none⟩ 1 1 [.int .u8 34] rfl rfl (by intro j u hj; cases j with | zero => simp at hj; subst hj; simp [Addr.add] | succ j => simp at hj) (by intro u hu; simp at hu; subst hu; rfl) (by unfold maxLen; omega) (by omega) (by have := HB.out.size; simp; omega) ?_)
        intro v5 w5 hown5 hgrow5 _ _
        obtain ⟨a5, c5, rfl⟩ := own_slice hown5
        have HB5 := hid ((HB.out.alloc HB.out.size _).grown hgrow5 (by simp; have := HB.out.size; omega) (fun k hk => (World.ownsRow.lt HO.out k hk).1))
        clear hgrow5
        have kc := conv_own2 (w := w5) (B := w.heap.size) (v := .slice a5 (K.length + 1) c5) (t := K ++ [34]) (by rw [List.length_append]; simpa [Lib.byteCells] using hown5)
        clear hown5
        go_wp2
        go_ret
        refine ⟨congrArg (fun z => Ending.returned (.string z)) ?_, HB5.out⟩
        rw [HX.out, HKK.out]
        rfl
      | false =>
        have HX := hid (show Pv = s by rw [HP.out]; unfold pcl; rw [if_neg (by rw [hnq]; decide)])
        clear hnq hti
        go_wp2
        go_ret
        exact ⟨congrArg (fun z => Ending.returned (.string z)) HX.out.symm, HB.out⟩
end Go.Proofs.YtmgfdnccmeahjaaGreatDoor
