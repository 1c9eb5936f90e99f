/-
  SheetParses: the law's own walk.
-/
import Derived.Test.YtedgdgaobgkffaaDoorSsd
import Derived.Test.YtedgdgaobgkffaaDoorDsf
import Derived.Test.YtedgdgaobgkffaaDoorSqe
namespace Go.Proofs.YtedgdgaobgkffaaDoor
open Go.RowKit
set_option maxRecDepth 100000
set_option linter.unusedVariables false
set_option linter.unusedSimpArgs false

theorem Rw.nil (w : World) : Rw w (.slice none 0 0) [] := ⟨none, 0, rfl, by simp, by omega, fun i hi => absurd hi (by simp)⟩
attribute [local go_sem ↓] fLd_op fSt_op
set_option maxHeartbeats 4000000 in
theorem parses_law (A : Nat → Addr) (s : ByteArray) (w : World) (hA : Sn A w) (hT : ErT w) (hP : HasPw w) (hs : s.size ≤ 140737488355328) :
    Calls Tryd.prog 4 #[.string s] w fun e w' => e = .returned (.bool true) ∧ Below w.heap.size w w' := by
  have HP1 := hid (parse_any A s w hA.he)
  have HP2 := hid (fun w => dParse_any s w hs)
  have hds : s.data.toList.length = s.size := by rw [Array.length_toList]; rfl
  have hat : (rdA s.data.toList).2.2.1 ≠ 0 → (rdA s.data.toList).2.2.2 ≤ s.size := fun hne => by
    rcases parse_one s.data.toList with ⟨h, _⟩ | ⟨_, _, _, _, h⟩
    · exact absurd h hne
    · omega
  have HA := hid (And.intro hA (And.intro hT hP))
  have HAt := hid hat
  clear hA hT hP hds hat
  go_enter Tryd.func4, Tryd.ntmps4
  go_wp2_with fail
  refine Calls.mono HP1.out ?_
  rintro e w1 ⟨rv, ev, rfl, hp, hb1⟩
  unfold PaR at hp
  obtain ⟨⟨R, n, c, f⟩, hq⟩ : ∃ q, q = rdA s.data.toList := ⟨_, rfl⟩
  have HP2' := HP2.out
  unfold PdR at HP2'
  have HAt' := HAt.out
  rw [← hq] at hp HP2' HAt'
  simp only [] at hp HP2' HAt'
  have HPd := hid HP2'
  have HAt2 := hid HAt'
  have HB1 := hid hb1
  clear HP1 HP2 HP2' HAt' HAt hq hb1
  obtain ⟨ra, rn, rc, hrv⟩ : ∃ ra rn rc, rv = .slice ra rn rc := by
    rcases hp with ⟨_, _, V, ht⟩ | ⟨_, _, rfl, _⟩
    · obtain ⟨a, b, e⟩ := own_slice ht.own
      exact ⟨a, _, b, e⟩
    · exact ⟨none, 0, 0, rfl⟩
  have HPa := hid hp
  subst hrv
  clear hp
  go_wp2_with fail
  refine Calls.mono (HPd.out _) ?_
  rintro e w2 ⟨v, rfl, hrw, hb2⟩
  obtain ⟨va, vc, hv⟩ := hrw.form
  generalize hvl : (if c = 0 then R else []).length = vl at hv
  clear hvl
  subst hv
  rw [fQ_is]
  obtain ⟨W1, ES1, hW1, hbW, hzW⟩ := run_fStN w2 c (fP s.data.toList c f).1 (fP s.data.toList c f).2.1 (fP s.data.toList c f).2.2
  have EL1 := run_fLd hW1
  have hbB : Below w1.heap.size w1 W1 := hb2.trans (hbW.mono hb2.size)
  have HB := hid (HB1.out.trans (hbB.mono HB1.out.size))
  have HRw := hid (hrw.below hbW)
  have HBB := hid hbB
  obtain ⟨fv, hfv⟩ : ∃ fv, fv = fV c (fP s.data.toList c f).1 (fP s.data.toList c f).2.1 (fP s.data.toList c f).2.2 := ⟨_, rfl⟩
  have HFv := hid hfv
  rw [← hfv] at ES1 EL1 ⊢
  have key : (Calls Tryd.prog 10 #[ev, fv] W1 fun e w' => e = .returned (.bool true) ∧ Below W1.heap.size W1 w') ∧ Rw W1 (.slice ra rn rc) (if c = 0 then R else []) := by
    rw [hfv]
    rcases HPa.out with ⟨h0, rfl, V, ht⟩ | ⟨hne, hcc, hrv, hf⟩
    · subst h0
      exact ⟨said_none _ _ _ W1, by rw [if_pos rfl]; exact ht.rw.below hbB⟩
    · rcases hf with ⟨h0, _⟩ | ⟨_, g, rfl, hf⟩
      · exact absurd h0 hne
      · have hfp : fP s.data.toList c f = ((plc s.data.toList f).1, (plc s.data.toList f).2, f) := by unfold fP; rw [if_neg hne]
        rw [hfp, if_neg hne]
        have hle := plc_le s.data.toList f
        have hfs := HAt2.out hne
        refine ⟨said_is A g c _ _ f W1 (by simp only []; omega) (by simp only []; omega) (HA.out.2.1.below HB.out) (HA.out.2.2.below HB.out) ?_ (HA.out.1.below HB.out) (by omega) (by omega), by rw [hrv]; exact Rw.nil _⟩
        exact (hbB.block g (Array.getElem?_eq_some_iff.1 hf).1).trans hf
  have HK := hid key
  clear hW1 hbW hfv key hrw hb2 hbB HPa HPd
  go_wp2_with fail
  refine Calls.mono HK.out.1 ?_
  rintro e w3 ⟨rfl, hb3⟩
  have HB3 := hid (HB.out.trans (hb3.mono HB.out.size))
  have HS := hid (sameRows_is _ _ _ w3 (HK.out.2.below hb3) (HRw.out.below hb3))
  clear hb3
  go_wp2_with fail
  refine Calls.mono HS.out ?_
  rintro e w4 ⟨rfl, hb4⟩
  have HB4 := hid (HB3.out.trans (hb4.mono HB3.out.size))
  clear hb4
  go_wp2
  go_ret
  exact ⟨rfl, HB4.out⟩
end Go.Proofs.YtedgdgaobgkffaaDoor
