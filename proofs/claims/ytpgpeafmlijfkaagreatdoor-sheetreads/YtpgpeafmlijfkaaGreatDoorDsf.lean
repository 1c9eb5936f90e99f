/-
  Sheets, the document's side: Read, Parse.
-/
import Derived.Test.YtpgpeafmlijfkaaGreatDoorDse
namespace Go.Proofs.YtpgpeafmlijfkaaGreatDoor
open Go.RowKit
set_option maxRecDepth 100000
set_option linter.unusedVariables false
set_option linter.unusedSimpArgs false

theorem LR.rw {w : World} {B : Nat} {v : Value} {V : List Value} {T : List (List (List UInt8))} (h : LR w B v V T) : Rw w v T := TR.rw (V := V) ⟨own_low h.own, h.rws⟩
theorem Rw.take {w : World} {ao : Option Addr} {m cap n : Nat} {T : List (List (List UInt8))} (h : Rw w (.slice ao m cap) T) (hn : n ≤ T.length) : Rw w (.slice ao n cap) (T.take n) := by
  obtain ⟨ao', cap', e, h2, h3, h4⟩ := h
  cases e
  have hl : (T.take n).length = n := by simp; omega
  refine ⟨ao, cap, by rw [hl], by omega, h3, fun i hi => ?_⟩
  obtain ⟨g, off, u, a1, a2, a3⟩ := h4 i (by omega)
  refine ⟨g, off, u, a1, a2, ?_⟩
  rw [List.getElem_take]
  exact a3
/-- what Read answers -/
def ReR (w : World) (L : List UInt8) (q : List (List (List UInt8)) × Nat × Nat × Nat) (e : Ending) (w' : World) : Prop := ∃ v, e = .returned (.tuple #[v, .int .i64 (q.2.1 : Int), fQ L q.2.2.1 q.2.2.2]) ∧ Rw w' v q.1 ∧ Below w.heap.size w w'
theorem Rw.put {w w' : World} {B b c l k i : Nat} {v : Value} {V : List Value} {T : List (List (List UInt8))} (h : LR w B v V T) (hg : w.grownBy w' (some b)) (hf : FW w b c l k i) : Rw w' v T := (LR.put h hg hf).rw
theorem ext0 (s : ByteArray) (n : Nat) : (s.extract 0 n).data.toList = s.data.toList.take n := by
  rw [ByteArray.data_extract, Array.toList_extract]
  simp [List.extract]
theorem fQ_take (L : List UInt8) (k c f : Nat) (h : f ≤ k) : fQ (L.take k) c f = fQ L c f := by
  unfold fQ
  rw [plc_take L k f h]
attribute [local go_sem ↓] fLd_op fSt_op
set_option maxHeartbeats 8000000 in
theorem dRead_any (s : ByteArray) (w : World) (hs : s.size ≤ 140737500000000) :
    Calls Tryz.prog 24 #[.string s] w fun e w' => ReR w s.data.toList (rdA s.data.toList) e w' := by
  have hds : s.data.toList.length = s.size := by rw [Array.length_toList]; rfl
  by_cases hl : s.size ≤ 262144
  · have hI : (s.size : Int) ≤ 262144 := by omega
    have HV := hid (show rdA s.data.toList = rdD s.data.toList (s.data.toList.length + 1) 0 [] by rw [rdA, if_pos (by omega)])
    have HRd := hid (fun w => dread_any s w hs)
    rw [HV.out]
    clear hds hl
    generalize rdD s.data.toList (s.data.toList.length + 1) 0 [] = q at *
    obtain ⟨R, n, c, f⟩ := q
    go_enter Tryz.func24, Tryz.ntmps24
    go_wp2_with fail
    refine Calls.mono (HRd.out _) ?_
    rintro e w1 ⟨v, V, rfl, hlr, hb1⟩
    obtain ⟨va, vc, rfl⟩ := own_slice hlr.own
    have hB1 : Below w.heap.size w w1 := ((Below.refl _ w).alloc (Nat.le_refl _) _).trans (hb1.mono (by simp))
    have hF1 : FW w1 w.heap.size 0 0 0 0 := (FW.new w).big hb1
    simp only []
    rw [fQ_is]
    obtain ⟨W, ES, hW, gW⟩ := run_fSt hF1 c (fP s.data.toList c f).1 (fP s.data.toList c f).2.1 (fP s.data.toList c f).2.2
    have EL := run_fLd hW
    have BF := hid (hB1.grown gW hB1.size (fun b hb => by cases hb; exact Nat.le_refl _))
    have HT := hid (Rw.put hlr gW hF1)
    obtain ⟨fv, hfv⟩ : ∃ fv, fv = fV c (fP s.data.toList c f).1 (fP s.data.toList c f).2.1 (fP s.data.toList c f).2.2 := ⟨_, rfl⟩
    rw [← hfv] at ES EL ⊢
    have HFv := hid hfv
    clear hW gW hb1 hfv hB1 hF1 hlr HRd
    go_wp2
    refine bodyPost_ret (by simp [results, Tryz.results24, asAddr, ↓fLd_op, EL]; try rfl) rfl ?_
    unfold ReR
    simp only []
    rw [fQ_is, ← HFv.out]
    exact ⟨_, rfl, HT.out, BF.out⟩
  · have hI : ¬ (s.size : Int) ≤ 262144 := by omega
    have hI2 : (262144 : Int) ≤ (s.size : Int) := by omega
    obtain ⟨X, hX⟩ : ∃ X, X = s.extract 0 262144 := ⟨_, rfl⟩
    have hXl : X.data.toList = s.data.toList.take 262144 := by rw [hX]; exact ext0 s 262144
    have hXs : X.size = 262144 := by
      have : X.data.toList.length = 262144 := by rw [hXl]; simp; omega
      rw [Array.length_toList] at this
      exact this
    have hXd : X.data.toList.length = X.size := by rw [Array.length_toList]; rfl
    have kS : ∀ w, (Instr.slice 9 (.string s) none (some (.int .i64 262144)) none).run Tryz.prog w = .ok (.string X) w := fun w => by
      have := dslice s 0 262144 (by omega) (by omega) w
      rw [← dext, ← hX] at this
      exact this
    have HV := hid (show rdA s.data.toList = (if shw X.data.toList (rdD X.data.toList (X.data.toList.length + 1) 0 []).2.2.1 (rdD X.data.toList (X.data.toList.length + 1) 0 []).2.2.2 = true then rdD X.data.toList (X.data.toList.length + 1) 0 [] else ((rdD X.data.toList (X.data.toList.length + 1) 0 []).1.take (rdD X.data.toList (X.data.toList.length + 1) 0 []).2.1, (rdD X.data.toList (X.data.toList.length + 1) 0 []).2.1, 20, 262144)) by rw [rdA, if_neg (by omega), hXl])
    have HRd := hid (fun w => dread_any X w (by omega))
    obtain ⟨hn, hfl⟩ := rd_at X.data.toList (by omega)
    have h3 := rd_3 X.data.toList (X.data.toList.length + 1) 0 [] (Nat.zero_le _) (by omega)
    have HSh := hid (fun c l k f w h1 h2 => dshows_any X c l k f w h1 h2)
    have HPl := hid (fun w => placed_any s 20 262144 w hs (by omega))
    obtain ⟨gv, hgv⟩ : ∃ gv, gv = fV 20 (plc s.data.toList 262144).1 (plc s.data.toList 262144).2 262144 := ⟨_, rfl⟩
    have HGv := hid hgv
    rw [← hgv] at HPl
    clear hgv
    have HFq := hid (fun c f h => (fQ_take s.data.toList 262144 c f h).symm)
    rw [← hXl] at HFq
    have HXs := hid (And.intro hXd hXs)
    have HX := hid hX
    clear hds hl hX hXl hXs hXd
    generalize rdA s.data.toList = A0 at *
    obtain ⟨⟨R, n, c, f⟩, hq⟩ : ∃ q, q = rdD X.data.toList (X.data.toList.length + 1) 0 [] := ⟨_, rfl⟩
    rw [← hq] at HV HRd hn hfl h3
    simp only [] at hn hfl h3
    have hfb : f ≤ 262144 := by have := HXs.out; omega
    have hF3 : c = 3 → f < X.size := fun h => by have := h3 h; have := HXs.out; omega
    clear hq h3 hfl
    go_enter Tryz.func24, Tryz.ntmps24
    go_wp2_with fail
    try rw [← HX.out]
    refine Calls.mono (HRd.out _) ?_
    rintro e w1 ⟨v, V, rfl, hlr, hb1⟩
    have hVl := hlr.len
    simp only [] at hVl hlr
    obtain ⟨va, vc, rfl⟩ := own_slice hlr.own
    have hB1 : Below w.heap.size w w1 := ((Below.refl _ w).alloc (Nat.le_refl _) _).trans (hb1.mono (by simp))
    have hF1 : FW w1 w.heap.size 0 0 0 0 := (FW.new w).big hb1
    simp only []
    rw [fQ_is]
    obtain ⟨W1, ES1, hW1, hbW, hzW⟩ := run_fStN w1 c (fP X.data.toList c f).1 (fP X.data.toList c f).2.1 (fP X.data.toList c f).2.2
    have EL1 := run_fLd hW1
    have HB := hid (hB1.trans (hbW.mono hB1.size))
    have HF := hid (hF1.big hbW)
    have HLR := hid (hlr.big hbW)
    have HW1 := hid hW1
    have HS1 := hid (HSh.out c (fP X.data.toList c f).1 (fP X.data.toList c f).2.1 (fP X.data.toList c f).2.2 W1 (by unfold fP; split <;> simp_all) (by unfold fP; split <;> simp_all))
    obtain ⟨fv, hfv⟩ : ∃ fv, fv = fV c (fP X.data.toList c f).1 (fP X.data.toList c f).2.1 (fP X.data.toList c f).2.2 := ⟨_, rfl⟩
    have HFv := hid hfv
    rw [← hfv] at ES1 EL1 HS1 ⊢
    have hshw : shw X.data.toList c (fP X.data.toList c f).2.2 = shw X.data.toList c f := by
      by_cases h0 : c = 0
      · subst h0; simp [shw]
      · unfold fP; rw [if_neg h0]
    rw [hshw] at HS1
    have HVl := hid hVl
    have HCp := hid hlr.own
    have hcap : n ≤ vc ∧ (vc : Int) ≤ 9223372036854775807 := by
      rcases hlr.own.2 with ⟨e, h0⟩ | ⟨g, cap, cur, e, _, _, h4, h5, _⟩
      · injection e with e1 e2 e3; omega
      · injection e with e1 e2 e3; unfold maxLen at h5; omega
    clear hb1 hB1 hF1 hbW hW1 hfv hVl hshw HRd HSh hlr
    by_cases hsh : shw X.data.toList c f = true
    · rw [hsh] at HS1
      rw [if_pos hsh] at HV
      go_wp2_with fail
      refine Calls.mono HS1.out ?_
      rintro e w2 ⟨rfl, hb2⟩
      have HB2 := hid (HB.out.trans (hb2.mono HB.out.size))
      obtain ⟨W, ES, hW, gW⟩ := run_fSt (w := w2.drew) (HF.out.big hb2).drew c (fP X.data.toList c f).1 (fP X.data.toList c f).2.1 (fP X.data.toList c f).2.2
      have EL2 := run_fLd (w := w2.drew) (HW1.out.big hb2).drew
      have EL := run_fLd hW
      have BF := hid (HB2.out.drew.grown gW HB2.out.size (fun b hb => by cases hb; exact Nat.le_refl _))
      have HT := hid (Rw.put (w := w2.drew) (HLR.out.big hb2).drew gW (HF.out.big hb2).drew)
      rw [← HFv.out] at ES EL2 EL
      clear hW gW hb2
      go_wp2_with fail
      go_region
      all_goals
        go_wp2
        refine bodyPost_ret (by simp [results, Tryz.results24, asAddr, ↓fLd_op, EL]; try rfl) rfl ?_
        rw [HV.out]
        unfold ReR
        simp only []
        rw [HFq.out c f hfb, fQ_is, ← HFv.out]
        exact ⟨_, rfl, HT.out, BF.out⟩
    · have hsh' : shw X.data.toList c f = false := by simpa using hsh
      rw [hsh'] at HS1
      rw [if_neg hsh] at HV
      have hn0 : (0 : Int) ≤ (n : Int) := by omega
      have hn1 : (n : Int) ≤ (vc : Int) := by omega
      go_wp2_with fail
      refine Calls.mono HS1.out ?_
      rintro e w2 ⟨rfl, hb2⟩
      have HB2 := hid (HB.out.trans (hb2.mono HB.out.size))
      have HF2 := hid (HF.out.big hb2)
      have HLR2 := hid (HLR.out.big hb2)
      clear hb2
      go_wp2_with fail
      go_region_with (go_at_call 54; refine Calls.mono (HPl.out _) ?_; rintro e w3 ⟨rfl, hb3⟩; obtain ⟨W, ES, hW, gW⟩ := run_fSt (HF2.out.drew.big hb3) 20 (plc s.data.toList 262144).1 (plc s.data.toList 262144).2 262144; have EL := run_fLd hW; have BF := hid ((HB2.out.drew.trans (hb3.mono HB2.out.size)).grown gW (Nat.le_trans HB2.out.size hb3.size) (fun b hb => by cases hb; exact Nat.le_refl _)); have HT := hid (Rw.put (HLR2.out.drew.big hb3) gW (HF2.out.drew.big hb3)); rw [← HGv.out] at ES EL; clear hW gW hb3)
      all_goals
        go_wp2
        refine bodyPost_ret (by simp [results, Tryz.results24, asAddr, ↓fLd_op, EL]; try rfl) rfl ?_
        rw [HV.out, HGv.out]
        unfold ReR
        exact ⟨_, rfl, Rw.take HT.out hn, BF.out⟩
/-- what the document's Parse answers -/
def PdR (w : World) (L : List UInt8) (e : Ending) (w' : World) : Prop := ∃ v, e = .returned (.tuple #[v, fQ L (rdA L).2.2.1 (rdA L).2.2.2]) ∧ Rw w' v (if (rdA L).2.2.1 = 0 then (rdA L).1 else []) ∧ Below w.heap.size w w'
theorem Rw.grown {w w' : World} {b c l k i : Nat} {v : Value} {T : List (List (List UInt8))} (h : Rw w v T) (hg : w.grownBy w' (some b)) (hf : FW w b c l k i) : Rw w' v T := by
  have hc : ∀ {p : Addr} {t : Value}, w.cell? p = some t → (∀ x, t ≠ .int .i64 x) → w'.cell? p = some t := fun {p t} ht hne => by
    by_cases hb : p.block = b
    · exfalso
      obtain ⟨pb, po, pf⟩ := p
      simp only at hb
      subst hb
      have hh := hf
      unfold FW at hh
      cases pf with
      | none =>
        rw [Lib.cell_of_heap hh] at ht
        unfold fA at ht
        match po, ht with
        | 0, ht => exact hne _ (Option.some.inj ht).symm
        | 1, ht => exact hne _ (Option.some.inj ht).symm
        | 2, ht => exact hne _ (Option.some.inj ht).symm
        | 3, ht => exact hne _ (Option.some.inj ht).symm
        | 4, ht => exact hne _ (Option.some.inj ht).symm
        | n + 5, ht => simp at ht
      | some y => simp [World.cell?, hh] at ht
    · rw [← ht]
      have hl := World.block_lt_of_cell? _ _ ht
      have hk := hg.block p.block hl (fun e => hb (Option.some.inj e))
      simp only [World.cell?, hk]
  obtain ⟨ao, cap, h1, h2, h3, h4⟩ := h
  refine ⟨ao, cap, h1, h2, h3, fun i hi => ?_⟩
  obtain ⟨g, off, u, a1, a2, ⟨ao', cap', b1, b2, b3, b4⟩⟩ := h4 i hi
  refine ⟨g, off, u, a1, hc a2 (by rw [b1]; simp), ao', cap', b1, b2, b3, fun j hj => ?_⟩
  obtain ⟨g', off', d1, d2⟩ := b4 j hj
  exact ⟨g', off', d1, hc d2 (by simp)⟩
theorem Rw.drew {w : World} {v : Value} {T : List (List (List UInt8))} (h : Rw w v T) : Rw w.drew v T := h
end Go.Proofs.YtpgpeafmlijfkaaGreatDoor
