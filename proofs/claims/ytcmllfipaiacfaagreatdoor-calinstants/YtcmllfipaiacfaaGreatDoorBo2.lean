/-
  CalInstants: both sides, and the law's own walk.
-/
import Derived.Test.YtcmllfipaiacfaaGreatDoorBo1
namespace Go.Proofs.YtcmllfipaiacfaaGreatDoor
open Go.RowKit
set_option maxRecDepth 100000
set_option linter.unusedSimpArgs false
set_option linter.unusedVariables false

theorem fnd_zero (l cs : List UInt8) : fnd l cs 0 = l.findIdx (cs.contains ·) := by unfold fnd; simp
theorem noAny_all (l : List UInt8) (h : ∀ c ∈ l, ([90, 43, 45] : List UInt8).contains c = false) : Lib.NoAny l [90, 43, 45] l.length := fun j b hj hb => h b (List.mem_of_getElem? hb)
theorem instants_both (t : ByteArray) : ∃ v, PrIn t v ∧ RIn t v := by
  by_cases h64 : 64 < t.size
  · exact ⟨_, fun w _ => pin_long t h64 w, rin_long t h64⟩
  have ht : t.size ≤ 64 := by omega
  have lt : t.data.toList.length = t.size := Array.length_toList
  obtain ⟨i, hi⟩ : ∃ i, fnd t.data.toList [84] 0 = i := ⟨_, rfl⟩
  have hi0 : t.data.toList.findIdx (([84] : List UInt8).contains ·) = i := by rw [← fnd_zero]; exact hi
  rcases fi_split (([84] : List UInt8).contains ·) t.data.toList with ⟨h1, h2⟩ | ⟨c, B, h1, h2, h3, h4⟩
  · rw [hi0, lt] at h1
    have hn : Lib.indexByte t.data.toList 84 = -1 := ib_none (fun hm => by have := h2 84 hm; simp at this)
    obtain ⟨y, m, d, e, p, P, Q, hv⟩ := reads_both' t
    have Q' : RPd (t.extract 0 i) (rT y m d e p) := by rw [h1, ext_all]; exact Q
    by_cases he : e = 0
    · refine ⟨(0, 32, (t.size : Int)), fun w hA => ?_, rin_noT t ht i hi (by omega) y m d e p Q' he h1⟩
      have h := pin_date t t ⟨#[]⟩ false ht (fun w => cut_no t 84 hn w) y m d e p P (.inr ⟨he, rfl⟩) w hA
      rw [if_pos he] at h
      exact h
    · refine ⟨(0, e, p), fun w hA => ?_, rin_date t ht i hi (by omega) y m d e p Q' he⟩
      have h := pin_date t t ⟨#[]⟩ false ht (fun w => cut_no t 84 hn w) y m d e p P (.inl he) w hA
      rw [if_neg he] at h
      exact h
  · rw [hi0] at h1 h3 h4
    rw [lt] at h4
    have ec : c = 84 := by have := h2; simp at this; exact this
    subst ec
    have hn84 : (84 : UInt8) ∉ t.data.toList.take i := fun hm => by have := h3 84 hm; simp at this
    have hix : Lib.indexByte t.data.toList 84 = (i : Int) := by
      have e : (t.data.toList.take i).length = i := by rw [List.length_take, lt]; omega
      have h := ib_app (c := 84) (A := t.data.toList.take i) (B := B) hn84
      rw [← h1, e] at h
      exact h
    have CY := fun w => cut_yes t 84 i h4 ht hix w
    obtain ⟨y, m, d, e, p, P, Q, hv⟩ := reads_both' (t.extract 0 i)
    by_cases he : e = 0
    case neg =>
      refine ⟨(0, e, p), fun w hA => ?_, rin_date t ht i hi (by omega) y m d e p Q he⟩
      have h := pin_date t _ _ true ht CY y m d e p P (.inl he) w hA
      rw [if_neg he] at h
      exact h
    obtain ⟨hvd, hp0⟩ := hv he
    subst he
    subst hp0
    obtain ⟨j, hj⟩ : ∃ j, fnd (t.extract 0 i).data.toList [45] 0 = j := ⟨_, rfl⟩
    obtain ⟨z, hz⟩ : ∃ z, fnd t.data.toList [90, 43, 45] (i + 1) = z := ⟨_, rfl⟩
    obtain ⟨f, hf⟩ : ∃ f, (t.data.toList.drop (i + 1)).findIdx (([90, 43, 45] : List UInt8).contains ·) = f := ⟨_, rfl⟩
    have hzf : z = i + 1 + f := by rw [← hz]; unfold fnd; rw [hf]
    have sD : (t.extract 0 i).size = i := by rw [ByteArray.size_extract]; omega
    have lD : (t.extract 0 i).data.toList.length = i := by rw [Array.length_toList]; exact sD
    have lR : (t.extract (i + 1) t.size).data.toList = t.data.toList.drop (i + 1) := by
      rw [ext_list]
      exact List.take_of_length_le (by rw [List.length_drop, lt]; exact Nat.le_refl _)
    have sR : (t.extract (i + 1) t.size).size ≤ 64 := by rw [ByteArray.size_extract]; omega
    have ldr : (t.data.toList.drop (i + 1)).length = t.size - (i + 1) := by rw [List.length_drop, lt]
    have hxx : (decide (0 ≤ Lib.indexByte (t.extract 0 i).data.toList 45) = true ∧ j < i) ∨ (decide (0 ≤ Lib.indexByte (t.extract 0 i).data.toList 45) = false ∧ ¬ j < i) := by
      have hj0 : (t.extract 0 i).data.toList.findIdx (([45] : List UInt8).contains ·) = j := by rw [← fnd_zero]; exact hj
      rcases fi_split (([45] : List UInt8).contains ·) (t.extract 0 i).data.toList with ⟨g1, g2⟩ | ⟨c', B', g1, g2, g3, g4⟩
      · refine .inr ⟨?_, by rw [hj0, lD] at g1; omega⟩
        rw [ib_none (fun hm => by have := g2 45 hm; simp at this)]
        decide
      · refine .inl ⟨decide_eq_true (ib_in ?_), by rw [hj0, lD] at g4; exact g4⟩
        have ec : c' = 45 := by have := g2; simp at this; exact this
        rw [g1, ec]
        simp
    have IA := fun w => iany (t.extract (i + 1) t.size) sR w
    rw [lR] at IA
    rcases fi_split (([90, 43, 45] : List UInt8).contains ·) (t.data.toList.drop (i + 1)) with ⟨g1, g2⟩ | ⟨c', B', g1, g2, g3, g4⟩
    · rw [hf, ldr] at g1
      have hze : z = t.size := by omega
      rw [Lib.indexAny_none (noAny_all _ g2)] at IA
      have er : t.extract (i + 1) t.size = t.extract (i + 1) z := by rw [hze]
      rcases hxx with ⟨hx1, hx2⟩ | ⟨hx1, hx2⟩
      · exact bothN_E t ht i hi h4 y m d hvd P Q j hj hx2 z hz (by omega) (by omega) hze ⟨ht, by omega, by rw [← er]; exact CY, hx1, by rw [← er]; exact IA⟩
      · exact bothN_P t ht i hi h4 y m d hvd P Q j hj hx2 z hz (by omega) (by omega) hze ⟨ht, by omega, by rw [← er]; exact CY, hx1, by rw [← er]; exact IA⟩
    · rw [hf] at g1 g3 g4
      rw [ldr] at g4
      have ei : Lib.indexAny (t.data.toList.drop (i + 1)) [90, 43, 45] = (f : Int) := by
        have e : ((t.data.toList.drop (i + 1)).take f).length = f := by rw [List.length_take, ldr]; omega
        have h := ia_app (z := c') g2 (A := (t.data.toList.drop (i + 1)).take f) (B := B') g3
        rw [← g1, e] at h
        exact h
      rw [ei] at IA
      have hfs : f ≤ (t.extract (i + 1) t.size).size := by rw [ByteArray.size_extract]; omega
      rcases hxx with ⟨hx1, hx2⟩ | ⟨hx1, hx2⟩
      · exact bothZ_E t ht i hi h4 y m d hvd P Q j hj hx2 z hz (by omega) (by omega) (by omega) f hzf ⟨ht, by omega, CY, hx1, IA, hfs⟩
      · exact bothZ_P t ht i hi h4 y m d hvd P Q j hj hx2 z hz (by omega) (by omega) (by omega) f hzf ⟨ht, by omega, CY, hx1, IA, hfs⟩
theorem instants_any (t : ByteArray) (w : World) (hA : HasAh w) :
    Calls Tryz.prog 3 #[.string t] w fun e w' => e = .returned (.bool true) ∧ Below w.heap.size w w' := by
  obtain ⟨⟨a, e, p⟩, P0, Q0⟩ := instants_both t
  have P := hid (P0 w hA)
  have Q := hid Q0
  unfold RIn at Q
  unfold tup at P Q
  clear P0 Q0 hA
  go_enter Tryz.func3, Tryz.ntmps3
  go_wp2_with fail
  refine P.out.mono ?_
  rintro _ w1 ⟨rfl, hb1⟩
  have B1 := hid hb1
  clear hb1 P
  go_wp2_with fail
  refine (Q.out _).mono ?_
  rintro _ w2 ⟨rfl, hb2⟩
  have B2 := hid (B1.out.trans (hb2.mono B1.out.size))
  clear hb2 B1 Q
  go_wp2
  go_ret
  exact ⟨rfl, B2.out⟩
end Go.Proofs.YtcmllfipaiacfaaGreatDoor
