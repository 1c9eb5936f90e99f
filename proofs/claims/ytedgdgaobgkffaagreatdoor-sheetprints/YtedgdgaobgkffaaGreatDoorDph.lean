/-
  Sheets, the document's side: Wrong, Print.
-/
import Derived.Test.YtedgdgaobgkffaaGreatDoorDpg
import Derived.Test.YtedgdgaobgkffaaGreatDoorDpt
namespace Go.Proofs.YtedgdgaobgkffaaGreatDoor
open Go.RowKit
set_option maxRecDepth 100000
set_option linter.unusedVariables false
set_option linter.unusedSimpArgs false

theorem FW.drew {w : World} {b c l k i : Nat} (h : FW w b c l k i) : FW w.drew b c l k i := h
theorem run_fStN (w : World) (c l k i : Nat) :
    ∃ W, (fSt ⟨w.heap.size, 0, none⟩ (fV c l k i)).run Tryz.prog (w.alloc (.cells #[.int .i64 0, .int .i64 0, .int .i64 0, .int .i64 0, .int .i64 0] 30)) = .ok () W ∧ FW W w.heap.size c l k i ∧ Below w.heap.size w W ∧ w.heap.size < W.heap.size := by
  obtain ⟨W, h1, h2, h3⟩ := run_fSt (FW.new w) c l k i
  exact ⟨W, h1, h2, ((Below.refl _ w).alloc (Nat.le_refl _) _).grown h3 (by simp) (fun b hb => by cases hb; exact Nat.le_refl _), h2.lt⟩
theorem rck_okC {R : List (List (List UInt8))} (h : (rck (R.headD []).length R 0).1 = 0) : ∀ cs ∈ R, ∀ T ∈ cs, okC T := fun cs hcs T hT => ((rck_is h).2 cs hcs).2.2.2 T hT
/-- what is wrong with rows, at last -/
def wgA (R : List (List (List UInt8))) : Nat × Nat × Nat := if (rck (R.headD []).length R 0).1 = 0 then (if 262144 < (prt R).length then (20, 0, 0) else (0, 0, 0)) else rck (R.headD []).length R 0
theorem rck_zero (n : Nat) : ∀ (R : List (List (List UInt8))) (i : Nat), (rck n R i).1 = 0 → rck n R i = (0, 0, 0) := by
  intro R
  induction R with
  | nil => intro i _; rfl
  | cons cs r ih =>
    intro i h
    rw [rck] at h ⊢
    by_cases h4 : i = 4096
    · rw [if_pos h4] at h; exact absurd h (by simp)
    · rw [if_neg h4] at h ⊢
      by_cases hw : (wfl n cs).1 = 0
      · rw [if_pos hw] at h ⊢; exact ih _ h
      · rw [if_neg hw] at h; exact absurd h hw
attribute [local go_sem ↓] fLd_op fSt_op
set_option maxHeartbeats 8000000 in
theorem Wrong_any (v : Value) (R : List (List (List UInt8))) (w : World) (hr : Rw w v R) :
    Calls Tryz.prog 26 #[v] w fun e w' => e = .returned (wgV (wgA R)) ∧ Below w.heap.size w w' := by
  have HW := hid (fun wx (h : Below w.heap.size w wx) => wrong_any v R wx (hr.below h))
  have HT := hid (fun wx (h : Below w.heap.size w wx) hc => text_any v R wx (hr.below h) hc)
  have HAt := hid (fun w => at_any 20 0 0 w)
  obtain ⟨ra, rc, rfl⟩ := hr.form
  have B0 : Below w.heap.size w (w.alloc (.cells #[.int .i64 0, .int .i64 0, .int .i64 0, .int .i64 0, .int .i64 0] 30)) := (Below.refl _ _).alloc (Nat.le_refl _) _
  have HW1 := hid (HW.out _ B0)
  have HC := hid (rck_okC (R := R))
  have HZ := hid (rck_zero (R.headD []).length R 0)
  obtain ⟨Q, hQ⟩ : ∃ Q, Q = rck (R.headD []).length R 0 := ⟨_, rfl⟩
  have HG := hid (show wgA R = (if Q.1 = 0 then (if 262144 < (prt R).length then (20, 0, 0) else (0, 0, 0)) else Q) by rw [hQ]; rfl)
  rw [← hQ] at HW1 HC HZ
  generalize wgA R = AA at *
  clear hr hQ HW
  obtain ⟨c, l, k⟩ := Q
  go_enter Tryz.func26, Tryz.ntmps26
  go_wp2_with fail
  refine Calls.mono HW1.out ?_
  rintro e w1 ⟨rfl, hb1⟩
  have hB1 : Below w.heap.size w w1 := B0.trans (hb1.mono (by simp))
  have hF1 : FW w1 w.heap.size 0 0 0 0 := (FW.new w).big hb1
  unfold wgV
  simp only []
  obtain ⟨W1, ES1, hW1, hbW, hzW⟩ := run_fStN w1 c l k 0
  have EL1 := run_fLd hW1
  have HB := hid (hB1.trans (hbW.mono hB1.size))
  have HF := hid (hF1.big hbW)
  have HW1' := hid hW1
  have hc0 := hW1.cell
  obtain ⟨fv, hfv⟩ : ∃ fv, fv = fV c l k 0 := ⟨_, rfl⟩
  have HFv := hid hfv
  rw [← hfv] at ES1 EL1
  try rw [← hfv]
  clear hb1 hB1 hF1 hbW hW1 hfv B0 HW1
  by_cases h0 : c = 0
  · subst h0
    have hQ0 := HZ.out rfl
    have hc0' : W1.cell? ⟨w1.heap.size, 0, none⟩ = some (.int .i64 0) := hc0
    have HT1 := hid (HT.out W1 HB.out (HC.out rfl))
    have HQ0 := hid hQ0
    have HG0 := hid (show AA = (if 262144 < (prt R).length then (20, 0, 0) else (0, 0, 0)) by rw [HG.out, if_pos rfl])
    clear hc0 hQ0 HG
    go_wp2_with fail
    refine Calls.mono HT1.out ?_
    rintro e w2 ⟨tv, t, rfl, hown, hta, htl, hb2⟩
    obtain ⟨ta, tc, rfl⟩ := own_slice hown
    have HB2 := hid (HB.out.trans (hb2.mono HB.out.size))
    have HF2 := hid (HF.out.big hb2)
    have EL2 := run_fLd (HW1'.out.big hb2)
    rw [← HFv.out] at EL2
    clear hown hb2 EL1
    by_cases hbig : 262144 < t.length
    · have hI : (262144 : Int) < (t.length : Int) := by omega
      have dI : decide ((262144 : Int) < (t.length : Int)) = true := decide_eq_true hI
      have HV := hid (show AA = (20, 0, 0) by
        rw [HG0.out, if_pos]
        rcases hta with h | h
        · rw [← h]; exact hbig
        · exact h.2)
      clear hta
      go_wp2_with fail
      refine Calls.mono (HAt.out _) ?_
      rintro e w3 ⟨rfl, hb3⟩
      obtain ⟨W, ES, hW, gW⟩ := run_fSt (HF2.out.big hb3) 20 0 0 0
      have EL := run_fLd hW
      have BF := hid ((HB2.out.trans (hb3.mono HB2.out.size)).grown gW (Nat.le_trans HB2.out.size hb3.size) (fun b hb => by cases hb; exact Nat.le_refl _))
      obtain ⟨gv, hgv⟩ : ∃ gv, gv = fV 20 0 0 0 := ⟨_, rfl⟩
      rw [← hgv] at ES EL ⊢
      have HGv := hid hgv
      clear hW gW hb3 hgv
      go_wp2
      refine bodyPost_ret (by simp [results, Tryz.results26, asAddr, ↓fLd_op, EL]; try rfl) rfl ?_
      rw [HV.out, HGv.out]
      exact ⟨rfl, BF.out⟩
    · have hI : ¬ (262144 : Int) < (t.length : Int) := by omega
      have dI : decide ((262144 : Int) < (t.length : Int)) = false := decide_eq_false hI
      have HV := hid (show AA = (0, 0, 0) by
        rw [HG0.out, if_neg]
        rcases hta with h | h
        · rw [← h]; exact hbig
        · exact absurd h.1 hbig)
      obtain ⟨W, ES, hW, gW⟩ := run_fSt HF2.out 0 l k 0
      have EL := run_fLd hW
      have BF := hid (HB2.out.grown gW HB2.out.size (fun b hb => by cases hb; exact Nat.le_refl _))
      rw [← HFv.out] at ES EL
      clear hW gW hta
      go_wp2
      refine bodyPost_ret (by simp [results, Tryz.results26, asAddr, ↓fLd_op, EL]; try rfl) rfl ?_
      have hlk := HQ0.out
      injection hlk with _ hlk
      injection hlk with hl hk
      rw [HV.out, HFv.out, hl, hk]
      exact ⟨rfl, BF.out⟩
  · have hcn : ((c : Int) == 0) = false := by rw [beq_eq_false_iff_ne]; omega
    have hcp : ¬ (c : Int) = 0 := by omega
    have HV := hid (show AA = (c, l, k) by rw [HG.out, if_neg h0])
    obtain ⟨W, ES, hW, gW⟩ := run_fSt HF.out c l k 0
    have EL := run_fLd hW
    have BF := hid (HB.out.grown gW HB.out.size (fun b hb => by cases hb; exact Nat.le_refl _))
    rw [← HFv.out] at ES EL
    clear hW gW h0
    go_wp2
    refine bodyPost_ret (by simp [results, Tryz.results26, asAddr, ↓fLd_op, EL]; try rfl) rfl ?_
    rw [HV.out, HFv.out]
    exact ⟨rfl, BF.out⟩
/-- the text that the document prints -/
def prA (R : List (List (List UInt8))) : ByteArray := if (wgA R).1 = 0 then ⟨(prt R).toArray⟩ else ⟨#[]⟩
theorem wgA_zero {R : List (List (List UInt8))} (h : (wgA R).1 = 0) : (rck (R.headD []).length R 0).1 = 0 ∧ (prt R).length ≤ 262144 ∧ wgA R = (0, 0, 0) := by
  unfold wgA at h ⊢
  by_cases h0 : (rck (R.headD []).length R 0).1 = 0
  · rw [if_pos h0] at h ⊢
    by_cases h1 : 262144 < (prt R).length
    · rw [if_pos h1] at h; exact absurd h (by simp)
    · rw [if_neg h1]; exact ⟨h0, by omega, rfl⟩
  · rw [if_neg h0] at h; exact absurd h h0
set_option maxHeartbeats 8000000 in
theorem dPrint_any (v : Value) (R : List (List (List UInt8))) (w : World) (hr : Rw w v R) :
    Calls Tryz.prog 7 #[v] w fun e w' => e = .returned (.tuple #[.string (prA R), wgV (wgA R)]) ∧ Below w.heap.size w w' := by
  have HT := hid (fun wx (h : Below w.heap.size w wx) hc => text_any v R wx (hr.below h) hc)
  have B0 : Below w.heap.size w (w.alloc (.cells #[.int .i64 0, .int .i64 0, .int .i64 0, .int .i64 0, .int .i64 0] 30)) := (Below.refl _ _).alloc (Nat.le_refl _) _
  have HW1 := hid (Wrong_any v R _ (hr.below B0))
  obtain ⟨ra, rc, rfl⟩ := hr.form
  have HZ := hid (wgA_zero (R := R))
  have HC := hid (rck_okC (R := R))
  obtain ⟨PA, hPA⟩ : ∃ PA, PA = prA R := ⟨_, rfl⟩
  have HPA := hid (show PA = (if (wgA R).1 = 0 then ⟨(prt R).toArray⟩ else ⟨#[]⟩) by rw [hPA]; rfl)
  rw [← hPA]
  obtain ⟨Q, hQ⟩ : ∃ Q, Q = wgA R := ⟨_, rfl⟩
  rw [← hQ] at HW1 HZ HPA ⊢
  clear hr hQ hPA
  obtain ⟨c, l, k⟩ := Q
  go_enter Tryz.func7, Tryz.ntmps7
  go_wp2_with fail
  refine Calls.mono HW1.out ?_
  rintro e w1 ⟨rfl, hb1⟩
  have hB1 : Below w.heap.size w w1 := B0.trans (hb1.mono (by simp))
  have hF1 : FW w1 w.heap.size 0 0 0 0 := (FW.new w).big hb1
  unfold wgV
  simp only []
  obtain ⟨W1, ES1, hW1, hbW, hzW⟩ := run_fStN w1 c l k 0
  have HB := hid (hB1.trans (hbW.mono hB1.size))
  have HF := hid (hF1.big hbW)
  have HW1' := hid hW1
  have hc0 := hW1.cell
  obtain ⟨fv, hfv⟩ : ∃ fv, fv = fV c l k 0 := ⟨_, rfl⟩
  have HFv := hid hfv
  rw [← hfv] at ES1 ⊢
  clear hb1 hB1 hF1 hbW hW1 hfv B0 HW1
  by_cases h0 : c = 0
  · subst h0
    have hc0' : W1.cell? ⟨w1.heap.size, 0, none⟩ = some (.int .i64 0) := hc0
    obtain ⟨z1, z2, _⟩ := HZ.out rfl
    have HT1 := hid (HT.out W1.drew HB.out.drew (HC.out z1))
    have HPv := hid (show PA = ⟨(prt R).toArray⟩ by rw [HPA.out, if_pos rfl])
    have EL1 := run_fLd HW1'.out.drew
    rw [← HFv.out] at EL1
    have HZ2 := hid z2
    clear hc0 z1 z2 HPA
    go_wp2_with fail
    go_region_with (go_at_call 27; refine Calls.mono HT1.out ?_; rintro e w2 ⟨tv, t, rfl, hown, hta, htl, hb2⟩; have kc := conv_own2 hown; have hte : t = prt R := (by rcases hta with h | h; exact h; exact absurd h.2 (by have := HZ2.out; omega)); have EL2 := run_fLd (HW1'.out.drew.big hb2); obtain ⟨W, ES, hW, gW⟩ := run_fSt (HF.out.drew.big hb2) 0 l k 0; have EL := run_fLd hW; have BF := hid ((HB.out.drew.trans (hb2.mono HB.out.size)).grown gW (Nat.le_trans HB.out.size hb2.size) (fun b hb => by cases hb; exact Nat.le_refl _)); rw [← HFv.out] at ES EL EL2; rw [hte, ← HPv.out] at kc; clear hW gW hb2 hown hta hte)
    all_goals
      go_wp2
      refine bodyPost_ret (by simp [results, Tryz.results7, asAddr, ↓fLd_op, EL]; try rfl) rfl ?_
      rw [HFv.out]
      exact ⟨rfl, BF.out⟩
  · have hcn : ((c : Int) != 0) = true := by simp; omega
    have hcp : ¬ (c : Int) = 0 := by omega
    have HPv := hid (show PA = ⟨#[]⟩ by rw [HPA.out, if_neg h0])
    obtain ⟨W, ES, hW, gW⟩ := run_fSt HF.out.drew c l k 0
    have EL1 := run_fLd HW1'.out.drew
    have EL := run_fLd hW
    have BF := hid (HB.out.drew.grown gW HB.out.size (fun b hb => by cases hb; exact Nat.le_refl _))
    rw [← HFv.out] at ES EL1 EL
    clear hW gW h0 HPA
    go_wp2_with fail
    go_region
    all_goals
      go_wp2
      refine bodyPost_ret (by simp [results, Tryz.results7, asAddr, ↓fLd_op, EL]; try rfl) rfl ?_
      rw [HPv.out, HFv.out]
      exact ⟨rfl, BF.out⟩
end Go.Proofs.YtedgdgaobgkffaaGreatDoor
