/-
  SheetPrints: the law's own walk.
-/
import Derived.Test.YtedgdgaobgkffaaGreatDoorSsd
import Derived.Test.YtedgdgaobgkffaaGreatDoorLnk
namespace Go.Proofs.YtedgdgaobgkffaaGreatDoor
open Go.RowKit
set_option maxRecDepth 100000
set_option linter.unusedVariables false
set_option linter.unusedSimpArgs false

theorem rck_fine2 {R : List (List (List UInt8))} (h : okR R) : (rck (R.headD []).length R 0).1 = 0 := (rck_ok (n := (R.headD []).length) (R := R) 0 (.inr (by omega))).2 ⟨by have := h.1; omega, h.2⟩
theorem cls_bd : ∀ (cs : List (List UInt8)) (j : Nat), (cls cs j).2 ≤ j + cs.length := by
  intro cs
  induction cs with
  | nil => intro j; simp [cls]
  | cons T r ih =>
    intro j
    rw [cls]
    split
    · have := ih (j + 1); simp only [List.length_cons]; omega
    · simp only [List.length_cons]; omega
theorem rck_bd (n : Nat) : ∀ (R : List (List (List UInt8))) (i : Nat), i ≤ 4096 → (rck n R i).2.1 ≤ 4097 ∧ (rck n R i).2.2 ≤ 64 := by
  intro R
  induction R with
  | nil => intro i _; simp [rck]
  | cons cs r ih =>
    intro i hi
    rw [rck]
    split
    · simp only []; omega
    · split
      · exact ih (i + 1) (by omega)
      · refine ⟨by simp only []; omega, ?_⟩
        simp only [wfl]
        split
        · simp
        · split
          · simp
          · split
            · have := cls_bd cs 0; omega
            · simp
theorem LG.rw {w : World} {B g cap : Nat} {V : List Value} {R : List (List (List UInt8))} (h : LG w B (.slice (some ⟨g, 0, none⟩) (R.length + 9) cap) V R R.length 9) (hc : R.length + 9 ≤ cap) (hc2 : cap ≤ 9223372036854775807) : Rw w (.slice (some ⟨g, 0, none⟩) R.length cap) R := by
  have hl := h.len
  refine ⟨_, cap, rfl, by omega, hc2, fun i hi => ⟨g, 0, V[i]'(by omega), rfl, ?_, (h.row i hi (by omega) hi).tx⟩⟩
  have := World.ownsRow.cells h.own (g := g) rfl i (V[i]'(by omega)) (by simp [show i < V.length by omega])
  rw [Addr.add_lit] at this
  exact this
attribute [local go_sem ↓] fLd_op fSt_op
set_option maxHeartbeats 8000000 in
theorem prints_law (A : Nat → Addr) (v : Value) (R : List (List (List UInt8))) (w : World) (hA : Sn A w) (hT : ErT w) (hP : HasPw w) (hr : Rw w v R) (hz : Rz w v R) (hl : R.length ≤ 5864062014634) (hrow : ∀ cs ∈ R, cs.length ≤ 8796093021952) :
    Calls Tryz.prog 3 #[v] w fun e w' => e = .returned (.bool true) ∧ Below w.heap.size w w' := by
  have HLn := hid (lentRows_any v R w hz hl hrow)
  have HA := hid (And.intro hA (And.intro hT hP))
  have HR := hid hr
  have HZ := hid hz
  have HRo := hid hrow
  obtain ⟨ra, rc, rfl⟩ := hr.form
  clear hA hT hP hr hz hrow
  go_enter Tryz.func3, Tryz.ntmps3
  go_wp2_with fail
  refine Calls.mono HLn.out ?_
  rintro e w1 ⟨g, cap, V, rfl, hc1, hc2, hlg, hb1⟩
  have HL := hid hlg
  have HB1 := hid hb1
  have HP1 := hid (print_any A _ R w1 (HA.out.1.below hb1).he (HA.out.2.1.below hb1) (hlg.rw hc1 hc2))
  clear hlg hb1 HLn
  go_wp2_with fail
  refine Calls.mono HP1.out ?_
  rintro e w2 ⟨sv, ev, rfl, hp, hb2⟩
  have HPr := hid hp
  have HB2 := hid (HB1.out.trans (hb2.mono HB1.out.size))
  have HL2 := hid (HL.out.big hb2)
  have HP2 := hid (dPrint_any _ R w2 (HR.out.below HB2.out))
  have hsv : sv = .string (prA R) := by
    rcases hp with ⟨h0, h1, _⟩ | ⟨h0, h1, h2, _⟩ | ⟨h0, h1, h2, _⟩
    · have hw : wgA R = rck (R.headD []).length R 0 := by unfold wgA; rw [if_neg h0]
      rw [h1]; unfold prA; rw [hw, if_neg h0]
    · have hw : wgA R = (20, 0, 0) := by unfold wgA; rw [if_pos (rck_fine2 h0), if_pos h1]
      rw [h2]; unfold prA; rw [hw, if_neg (by decide)]
    · have hw : wgA R = (0, 0, 0) := by unfold wgA; rw [if_pos (rck_fine2 h0), if_neg (by omega)]
      rw [h2]; unfold prA; rw [hw, if_pos rfl]
  subst hsv
  generalize hpa : prA R = PA at HP2
  try rw [hpa]
  clear hp hb2 HB1 HL hpa
  go_wp2_with fail
  refine Calls.mono HP2.out ?_
  rintro e w3 ⟨rfl, hb3⟩
  unfold wgV
  obtain ⟨W1, ES1, hW1, hbW, hzW⟩ := run_fStN w3 (wgA R).1 (wgA R).2.1 (wgA R).2.2 0
  have EL1 := run_fLd hW1
  have hbB : Below w2.heap.size w2 W1 := hb3.trans (hbW.mono hb3.size)
  have HB := hid (HB2.out.trans (hbB.mono HB2.out.size))
  have HL3 := hid (HL2.out.big hbB)
  obtain ⟨fv, hfv⟩ : ∃ fv, fv = fV (wgA R).1 (wgA R).2.1 (wgA R).2.2 0 := ⟨_, rfl⟩
  have HFv := hid hfv
  rw [← hfv] at ES1 EL1 ⊢
  have key : (Calls Tryz.prog 8 #[ev, fv] W1 fun e w' => e = .returned (.bool true) ∧ Below W1.heap.size W1 w') := by
    rw [hfv]
    have hbd := rck_bd (R.headD []).length R 0 (by omega)
    rcases HPr.out with ⟨h0, _, hf⟩ | ⟨h0, h1, _, hf⟩ | ⟨h0, h1, _, rfl⟩
    · have hw : wgA R = rck (R.headD []).length R 0 := by unfold wgA; rw [if_neg h0]
      rw [hw]
      have hvl := rck_vals (R.headD []).length R 0
      rcases hf with ⟨hz, _⟩ | ⟨_, f, rfl, hf⟩
      · exact absurd hz h0
      · exact said_is A f _ _ _ 0 W1 (by omega) (by omega) (HA.out.2.1.below HB.out) (HA.out.2.2.below HB.out) ((hbB.block f (Array.getElem?_eq_some_iff.1 hf).1).trans hf) (HA.out.1.below HB.out) (by omega) (by omega)
    · have hw : wgA R = (20, 0, 0) := by unfold wgA; rw [if_pos (rck_fine2 h0), if_pos h1]
      rw [hw]
      rcases hf with ⟨hz, _⟩ | ⟨_, f, rfl, hf⟩
      · exact absurd hz (by decide)
      · exact said_is A f 20 0 0 0 W1 (by omega) (by omega) (HA.out.2.1.below HB.out) (HA.out.2.2.below HB.out) ((hbB.block f (Array.getElem?_eq_some_iff.1 hf).1).trans hf) (HA.out.1.below HB.out) (by omega) (by omega)
    · have hw : wgA R = (0, 0, 0) := by unfold wgA; rw [if_pos (rck_fine2 h0), if_neg (by omega)]
      rw [hw]
      exact said_none 0 0 0 W1
  have HK := hid key
  have hsame : (PA.toList == PA.toList) = true := by simp
  clear hW1 hbW hfv key hb3 hbB HPr HP2
  go_wp2_with fail
  refine Calls.mono HK.out ?_
  rintro e w4 ⟨rfl, hb4⟩
  have HB4 := hid (HB.out.trans (hb4.mono HB.out.size))
  have HKp := hid (keptRows_any g cap V _ _ R w4 (HL3.out.big hb4) hc1 hc2 (HZ.out.below HB4.out) HRo.out)
  clear hb4
  go_wp2_with fail
  refine Calls.mono HKp.out ?_
  rintro e w5 ⟨rfl, hb5⟩
  have HB5 := hid (HB4.out.trans (hb5.mono HB4.out.size))
  clear hb5
  go_wp2
  go_ret
  exact ⟨rfl, HB5.out⟩
end Go.Proofs.YtedgdgaobgkffaaGreatDoor
