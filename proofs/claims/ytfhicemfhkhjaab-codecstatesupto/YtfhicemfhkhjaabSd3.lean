/-
  The document's reader of states, pure: lists of holds and of what is done, from any state of the reader; a state.
-/
import Derived.Test.YtfhicemfhkhjaabSd2
namespace Go.Proofs.Ytfhicemfhkhjaab
open Go.RowKit
set_option maxRecDepth 100000

/-- the state behind a list -/
def sG {α : Type} (e : List UInt8 → Nat → Nat × Nat × α) (l : List UInt8) (most : Nat) (s : Nat × Nat) : Nat × Nat := if s.1 ≠ 0 then s else ((gL e most l s.2).1, (gL e most l s.2).2.1)
theorem sG_ok {α : Type} {e : List UInt8 → Nat → Nat × Nat × α} {l : List UInt8} {most : Nat} {s : Nat × Nat} (h : s.1 = 0) : sG e l most s = ((gL e most l s.2).1, (gL e most l s.2).2.1) := if_neg (fun e => e h)
theorem sG_no {α : Type} {e : List UInt8 → Nat → Nat × Nat × α} {l : List UInt8} {most : Nat} {s : Nat × Nat} (h : s.1 ≠ 0) : sG e l most s = s := if_pos h
theorem sG_up {α : Type} {e : List UInt8 → Nat → Nat × Nat × α} {l : List UInt8} {most : Nat} {s : Nat × Nat} (h : (sG e l most s).1 = 0) : s.1 = 0 := by
  by_cases h0 : s.1 = 0
  · exact h0
  · rw [sG_no h0] at h; exact (h0 h).elim
theorem sG_val {α : Type} {e : List UInt8 → Nat → Nat × Nat × α} {l : List UInt8} {most : Nat} {s : Nat × Nat} (h : (sG e l most s).1 = 0) : (gL e most l s.2).1 = 0 ∧ (sG e l most s).2 = (gL e most l s.2).2.1 := by
  have h0 := sG_up h
  rw [sG_ok h0] at h
  exact ⟨h, by rw [sG_ok h0]⟩
theorem gS_step {α : Type} (e : List UInt8 → Nat → Nat × Nat × α) (l : List UInt8) (i j : Nat) (h : (gS e l i j).1 = 0) :
    ((gS e l i (j + 1)).1, (gS e l i (j + 1)).2.1) = ((e l (gS e l i j).2.1).1, (e l (gS e l i j).2.1).2.1) ∧ ((gS e l i (j + 1)).1 = 0 → (gS e l i (j + 1)).2.2 = (gS e l i j).2.2 ++ [(e l (gS e l i j).2.1).2.2]) := by
  by_cases h1 : (e l (gS e l i j).2.1).1 = 0
  · have e1 : gS e l i (j + 1) = (0, (e l (gS e l i j).2.1).2.1, (gS e l i j).2.2 ++ [(e l (gS e l i j).2.1).2.2]) := (if_neg (fun e => e h)).trans (if_neg (fun e => e h1))
    rw [e1]
    exact ⟨Prod.ext h1.symm rfl, fun _ => rfl⟩
  · have e1 : gS e l i (j + 1) = ((e l (gS e l i j).2.1).1, (e l (gS e l i j).2.1).2.1, []) := (if_neg (fun e => e h)).trans (if_pos h1)
    rw [e1]
    exact ⟨rfl, fun e => (h1 e).elim⟩
theorem list_model {α : Type} (e : List UInt8 → Nat → Nat × Nat × α) (l : List UInt8) (most : Nat) (s : Nat × Nat) : ∃ F : Nat → Nat × Nat × List α,
    ((F 0).1, (F 0).2.1) = sC l most s ∧ ((F 0).1 = 0 → (F 0).2.2 = []) ∧
    (∀ j, j < vC l most s → (F j).1 = 0 → ((F (j + 1)).1, (F (j + 1)).2.1) = ((e l (F j).2.1).1, (e l (F j).2.1).2.1) ∧ ((F (j + 1)).1 = 0 → (F (j + 1)).2.2 = (F j).2.2 ++ [(e l (F j).2.1).2.2])) ∧
    (∀ j, j ≤ vC l most s → (F j).1 ≠ 0 → ((F (vC l most s)).1, (F (vC l most s)).2.1) = ((F j).1, (F j).2.1)) ∧
    ((F (vC l most s)).1, (F (vC l most s)).2.1) = sG e l most s ∧ ((sG e l most s).1 = 0 → (F (vC l most s)).2.2 = (gL e most l s.2).2.2) ∧ vC l most s ≤ most := by
  by_cases h0 : s.1 = 0
  · by_cases h1 : (ct (l.drop s.2) most).2.2 = 0
    · have e1 : vC l most s = (ct (l.drop s.2) most).1 := (vC_ok h0).trans (if_pos h1)
      have e2 : gL e most l s.2 = gS e l (s.2 + (ct (l.drop s.2) most).2.1) (ct (l.drop s.2) most).1 := if_neg (fun e => e h1)
      rw [e1, sC_ok h0, sG_ok h0, e2]
      refine ⟨gS e l (s.2 + (ct (l.drop s.2) most).2.1), Prod.ext h1.symm rfl, fun _ => rfl, fun j _ hj => gS_step e l _ j hj, fun j hj he => ?_, rfl, fun _ => rfl, ct_most h1⟩
      have := gS_stuck e l _ j he _ hj
      rw [this.1, this.2]
    · have e1 : vC l most s = 0 := (vC_ok h0).trans (if_neg h1)
      have e2 : gL e most l s.2 = ((ct (l.drop s.2) most).2.2, s.2 + (ct (l.drop s.2) most).2.1, []) := if_pos h1
      rw [e1, sC_ok h0, sG_ok h0, e2]
      exact ⟨fun _ => ((ct (l.drop s.2) most).2.2, s.2 + (ct (l.drop s.2) most).2.1, []), rfl, fun _ => rfl, fun j hj => by omega, fun _ _ _ => rfl, rfl, fun _ => rfl, by omega⟩
  · rw [vC_no h0, sC_no h0, sG_no h0]
    exact ⟨fun _ => (s.1, s.2, []), rfl, fun _ => rfl, fun j hj => by omega, fun _ _ _ => rfl, rfl, fun e => (h0 e).elim, by omega⟩
/-- a hold -/
theorem fHl_state (l : List UInt8) (most : Nat) (s : Nat × Nat) (h0 : s.1 = 0) : ((fHl most l s.2).1, (fHl most l s.2).2.1) = sI l (sL l most (sT l most s)) := by
  rw [fHl_eq]
  by_cases e1 : (fTx l most s.2).1 = 0
  case neg => rw [andR_no e1, sT_ok h0, sL_no (s := (_, _)) e1, sI_no (s := (_, _)) e1]
  rw [andR_ok e1, sT_ok h0]
  generalize (fTx l most s.2).2.1 = i1
  generalize (fTx l most s.2).2.2 = a1
  by_cases e2 : (fLi l most i1).1 = 0
  case neg => rw [andR_no e2, sL_ok (s := (_, _)) e1, sI_no (s := (_, _)) e2]
  rw [andR_ok e2, sL_ok (s := (_, _)) e1]
  show _ = sI l ((fLi l most i1).1, (fLi l most i1).2.1)
  generalize (fLi l most i1).2.1 = i2
  generalize (fLi l most i1).2.2 = a2
  by_cases e3 : (fIn l i2).1 = 0
  case neg => rw [andR_no e3, sI_ok (s := (_, _)) e2]
  rw [andR_ok e3, sI_ok (s := (_, _)) e2]
  exact Prod.ext e3.symm rfl
theorem fHl_val (l : List UInt8) (most : Nat) (s : Nat × Nat) (h : (sI l (sL l most (sT l most s))).1 = 0) :
    (fHl most l s.2).2.2 = ⟨vT l most s, (fLi l most (sT l most s).2).2.2, vI l (sL l most (sT l most s))⟩ := by
  obtain ⟨e3, p3, v3⟩ := sI_val h
  have h2 := sI_up h
  obtain ⟨e2, p2⟩ := sL_val h2
  have h1 := sL_up h2
  obtain ⟨e1, p1, v1⟩ := sT_val h1
  rw [v1, v3]
  rw [p2] at e3 ⊢
  rw [p1] at e2 e3 ⊢
  rw [fHl_eq, andR_ok e1, andR_ok e2, andR_ok e3]
/-- something done -/
theorem sQ_up {l : List UInt8} {most : Nat} {s : Nat × Nat} (h : (sQ l most s).1 = 0) : s.1 = 0 := by
  by_cases h0 : s.1 = 0
  · exact h0
  · rw [sQ_no h0] at h; exact (h0 h).elim
theorem fDn_state (l : List UInt8) (most : Nat) (s : Nat × Nat) (h0 : s.1 = 0) : ((fDn most l s.2).1, (fDn most l s.2).2.1) = sI l (sQ l most s) := by
  rw [fDn_eq, ← fRq_state l most s h0]
  by_cases e1 : (fRq l most s.2).1 = 0
  case neg => rw [andR_no e1, sI_no (s := (_, _)) e1]
  rw [andR_ok e1]
  generalize (fRq l most s.2).2.1 = i1
  generalize (fRq l most s.2).2.2 = a1
  by_cases e3 : (fIn l i1).1 = 0
  case neg => rw [andR_no e3, sI_ok (s := (_, _)) e1]
  rw [andR_ok e3, sI_ok (s := (_, _)) e1]
  exact Prod.ext e3.symm rfl
theorem fDn_val (l : List UInt8) (most : Nat) (s : Nat × Nat) (h : (sI l (sQ l most s)).1 = 0) : (fDn most l s.2).2.2 = ⟨(fRq l most s.2).2.2, vI l (sQ l most s)⟩ := by
  obtain ⟨e3, p3, v3⟩ := sI_val h
  have h2 := sI_up h
  have h1 := sQ_up h2
  have eq := fRq_state l most s h1
  rw [v3]
  rw [← eq] at e3 h2 ⊢
  rw [fDn_eq, andR_ok h2, andR_ok e3]
/-- the state of the reader behind a state -/
def sS (l : List UInt8) (most : Nat) (s : Nat × Nat) : Nat × Nat := sG (fDn most) l most (sG (fHl most) l most (sV l most (sI l (sI l (sI l s)))))
theorem fSt_eq (l : List UInt8) (most i : Nat) : fSt most l i = andR (fIn l i) sx0 fun i1 a => andR (fIn l i1) sx0 fun i2 b => andR (fIn l i2) sx0 fun i3 c => andR (fVi l most i3) sx0 fun i4 L => andR (gL (fHl most) most l i4) sx0 fun i5 H => andR (gL (fDn most) most l i5) sx0 fun i6 D => (0, i6, ⟨a, b, c, L, H, D⟩) := rfl
theorem fSt_state (l : List UInt8) (most : Nat) (s : Nat × Nat) (h0 : s.1 = 0) : ((fSt most l s.2).1, (fSt most l s.2).2.1) = sS l most s := by
  unfold sS
  rw [fSt_eq]
  by_cases e1 : (fIn l s.2).1 = 0
  case neg => rw [andR_no e1, sI_ok h0, sI_no (s := (_, _)) e1, sI_no (s := (_, _)) e1, sV_no (s := (_, _)) e1, sG_no (s := (_, _)) e1, sG_no (s := (_, _)) e1]
  rw [andR_ok e1, sI_ok h0]
  generalize (fIn l s.2).2.1 = i1
  generalize (fIn l s.2).2.2 = a1
  by_cases e2 : (fIn l i1).1 = 0
  case neg => rw [andR_no e2, sI_ok (s := (_, _)) e1, sI_no (s := (_, _)) e2, sV_no (s := (_, _)) e2, sG_no (s := (_, _)) e2, sG_no (s := (_, _)) e2]
  rw [andR_ok e2, sI_ok (s := (_, _)) e1]
  show _ = sG (fDn most) l most (sG (fHl most) l most (sV l most (sI l ((fIn l i1).1, (fIn l i1).2.1))))
  generalize (fIn l i1).2.1 = i2
  generalize (fIn l i1).2.2 = a2
  by_cases e3 : (fIn l i2).1 = 0
  case neg => rw [andR_no e3, sI_ok (s := (_, _)) e2, sV_no (s := (_, _)) e3, sG_no (s := (_, _)) e3, sG_no (s := (_, _)) e3]
  rw [andR_ok e3, sI_ok (s := (_, _)) e2]
  show _ = sG (fDn most) l most (sG (fHl most) l most (sV l most ((fIn l i2).1, (fIn l i2).2.1)))
  generalize (fIn l i2).2.1 = i3
  generalize (fIn l i2).2.2 = a3
  by_cases e4 : (fVi l most i3).1 = 0
  case neg => rw [andR_no e4, sV_ok (s := (_, _)) e3, sG_no (s := (_, _)) e4, sG_no (s := (_, _)) e4]
  rw [andR_ok e4, sV_ok (s := (_, _)) e3]
  show _ = sG (fDn most) l most (sG (fHl most) l most ((fVi l most i3).1, (fVi l most i3).2.1))
  generalize (fVi l most i3).2.1 = i4
  generalize (fVi l most i3).2.2 = a4
  by_cases e5 : (gL (fHl most) most l i4).1 = 0
  case neg => rw [andR_no e5, sG_ok (s := (_, _)) e4, sG_no (s := (_, _)) e5]
  rw [andR_ok e5, sG_ok (s := (_, _)) e4]
  show _ = sG (fDn most) l most ((gL (fHl most) most l i4).1, (gL (fHl most) most l i4).2.1)
  generalize (gL (fHl most) most l i4).2.1 = i5
  generalize (gL (fHl most) most l i4).2.2 = a5
  by_cases e6 : (gL (fDn most) most l i5).1 = 0
  case neg => rw [andR_no e6, sG_ok (s := (_, _)) e5]
  rw [andR_ok e6, sG_ok (s := (_, _)) e5]
  exact Prod.ext e6.symm rfl
theorem fSt_val (l : List UInt8) (most : Nat) (s : Nat × Nat) (h : (sS l most s).1 = 0) :
    (fSt most l s.2).2.2 = ⟨vI l s, vI l (sI l s), vI l (sI l (sI l s)), (fVi l most (sI l (sI l (sI l s))).2).2.2, (gL (fHl most) most l (sV l most (sI l (sI l (sI l s)))).2).2.2, (gL (fDn most) most l (sG (fHl most) l most (sV l most (sI l (sI l (sI l s))))).2).2.2⟩ := by
  unfold sS at h
  obtain ⟨e6, p6⟩ := sG_val h
  have h5 := sG_up h
  obtain ⟨e5, p5⟩ := sG_val h5
  have h4 := sG_up h5
  obtain ⟨e4, p4⟩ := sV_val h4
  have h3 := sV_up h4
  obtain ⟨e3, p3, v3⟩ := sI_val h3
  have h2 := sI_up h3
  obtain ⟨e2, p2, v2⟩ := sI_val h2
  have h1 := sI_up h2
  obtain ⟨e1, p1, v1⟩ := sI_val h1
  rw [v1, v2, v3]
  rw [p5] at e6 ⊢
  rw [p4] at e5 e6 ⊢
  rw [p3] at e4 e5 e6 ⊢
  rw [p2] at e3 e4 e5 e6 ⊢
  rw [p1] at e2 e3 e4 e5 e6 ⊢
  rw [fSt_eq, andR_ok e1, andR_ok e2, andR_ok e3, andR_ok e4, andR_ok e5, andR_ok e6]
theorem sS_no {l : List UInt8} {most : Nat} {s : Nat × Nat} (h : s.1 ≠ 0) : sS l most s = s := by
  unfold sS
  rw [sI_no h, sI_no h, sI_no h, sV_no h, sG_no h, sG_no h]
theorem rss_state (l : List UInt8) : (eE l (sS l 131072 (bS 84 l 131072)) ≠ 0 → rss l = (eE l (sS l 131072 (bS 84 l 131072)), eP l (sS l 131072 (bS 84 l 131072)), sx0)) ∧ (eE l (sS l 131072 (bS 84 l 131072)) = 0 → rss l = (0, 0, (fSt 131072 l (bS 84 l 131072).2).2.2) ∧ eP l (sS l 131072 (bS 84 l 131072)) = 0 ∧ (sS l 131072 (bS 84 l 131072)).1 = 0) := by
  unfold rss
  by_cases h1 : 131072 < l.length
  · have e : bS 84 l 131072 = (1, 0) := if_pos h1
    rw [e, sS_no (show ((1, 0) : Nat × Nat).1 ≠ 0 by decide), if_pos h1]
    exact ⟨fun _ => rfl, fun e => by cases e⟩
  rw [if_neg h1]
  by_cases h2 : l.length = 0
  · obtain rfl := List.eq_nil_of_length_eq_zero h2
    exact ⟨fun _ => rfl, fun e => by cases e⟩
  have h0 : 0 < l.length := by omega
  have eg : l.getD 0 0 = l[0] := by simp [h0]
  by_cases h3 : l[0] = 84
  case neg =>
    have e : bS 84 l 131072 = (90, 0) := (if_neg h1).trans ((if_neg h2).trans (if_pos (by rw [eg]; exact h3)))
    rw [e, sS_no (show ((90, 0) : Nat × Nat).1 ≠ 0 by decide), fKs_no h0 h3]
    exact ⟨fun _ => rfl, fun e => by cases e⟩
  have e : bS 84 l 131072 = (0, 1) := (if_neg h1).trans ((if_neg h2).trans (if_neg (by rw [eg]; exact fun e => e h3)))
  have eK : fKs l 131072 = fSt 131072 l 1 := fKs_ok h0 h3
  rw [e, ← fSt_state l 131072 (0, 1) rfl, eK]
  show _ ∧ _
  by_cases h4 : (fSt 131072 l 1).1 = 0
  · rw [if_neg (fun e => e h4)]
    have e5 : eE l ((fSt 131072 l (0, 1).2).1, (fSt 131072 l (0, 1).2).2.1) = if (fSt 131072 l 1).2.1 < l.length then 4 else 0 := if_neg (fun e => e h4)
    have e6 : eP l ((fSt 131072 l (0, 1).2).1, (fSt 131072 l (0, 1).2).2.1) = if (fSt 131072 l 1).2.1 < l.length then (fSt 131072 l 1).2.1 else 0 := if_neg (fun e => e h4)
    rw [e5, e6]
    by_cases h5 : (fSt 131072 l 1).2.1 < l.length
    · rw [if_pos h5, if_pos h5, if_pos h5]
      exact ⟨fun _ => rfl, fun e => by cases e⟩
    · rw [if_neg h5, if_neg h5, if_neg h5]
      exact ⟨fun e => (e rfl).elim, fun _ => ⟨rfl, rfl, h4⟩⟩
  · rw [if_pos h4]
    have e5 : eE l ((fSt 131072 l (0, 1).2).1, (fSt 131072 l (0, 1).2).2.1) = (fSt 131072 l 1).1 := if_pos h4
    have e6 : eP l ((fSt 131072 l (0, 1).2).1, (fSt 131072 l (0, 1).2).2.1) = (fSt 131072 l 1).2.1 := if_pos h4
    rw [e5, e6]
    exact ⟨fun _ => rfl, fun e => (h4 e).elim⟩
end Go.Proofs.Ytfhicemfhkhjaab
