/-
  CalClock: what its texts are.
-/
import Derived.Test.YtcmllfipaiacfaaGreatDoorTk1
namespace Go.Proofs.YtcmllfipaiacfaaGreatDoor
open Go.RowKit
set_option maxRecDepth 100000
set_option linter.unusedSimpArgs false
set_option linter.unusedVariables false

/-- the pieces of an instant's text that are in its basic writing too -/
def bsT (t : ByteArray) : ByteArray := t.extract 0 4 ++ t.extract 5 7 ++ t.extract 8 13 ++ t.extract 14 16 ++ t.extract 17 19
theorem clk_all (s z : Int) (bs : 86400 ≤ s ∧ s ≤ 315569433599) (bz : -1439 ≤ z ∧ z ≤ 1439) (t u : ByteArray) (ht : t.data.toList = piL (s + 60 * z) z) (hu : u.data.toList = piL (s + 60 * z) 0) :
    (t.size = if z = 0 then 20 else 25) ∧ u.size = 20 ∧ t.extract 0 19 = u.extract 0 19 ∧ PrI t (s, 0, 0) ∧ PrI u (s + 60 * z, 0, 0) ∧ (bsT t).size = 15 ∧ (z = 0 → PrI (bsT t ++ ⟨#[90]⟩) (s, 0, 0)) ∧ (z ≠ 0 → PrI (bsT t ++ t.extract 19 22 ++ t.extract 23 t.size) (s, 0, 0)) := by
  obtain ⟨X, hX⟩ : ∃ X, s + 60 * z = X := ⟨_, rfl⟩
  rw [hX] at ht hu ⊢
  have hn : 0 ≤ X / 86400 ∧ X / 86400 ≤ 3652424 := by omega
  obtain ⟨hv, hnb⟩ := dt_is (X / 86400) hn
  have e1 : 86400 * nb (dY (X / 86400)) (dM (X / 86400)) (dD (X / 86400)) + (3600 * (X % 86400 / 3600) + 60 * (X % 86400 / 60 % 60) + X % 86400 % 60) - 60 * z = s := by rw [hnb]; omega
  have e2 : 86400 * nb (dY (X / 86400)) (dM (X / 86400)) (dD (X / 86400)) + (3600 * (X % 86400 / 3600) + 60 * (X % 86400 / 60 % 60) + X % 86400 % 60) - 60 * 0 = X := by rw [hnb]; omega
  have PE : ∀ v : ByteArray, v.data.toList = piL X z → PrI v (s, 0, 0) := fun v h => by
    have := clk_E _ _ _ (X % 86400 / 3600) (X % 86400 / 60 % 60) (X % 86400 % 60) z hv (by omega) (by omega) (by omega) bz v h (by rw [e1]; exact ⟨by omega, by omega⟩)
    rw [e1] at this
    exact this
  have PU : ∀ v : ByteArray, v.data.toList = piL X 0 → PrI v (X, 0, 0) := fun v h => by
    have := clk_E _ _ _ (X % 86400 / 3600) (X % 86400 / 60 % 60) (X % 86400 % 60) 0 hv (by omega) (by omega) (by omega) (by omega) v h (by rw [e2]; exact ⟨by omega, by omega⟩)
    rw [e2] at this
    exact this
  have PP : ∀ v : ByteArray, v.data.toList = pdL 1 (dY (X / 86400)) (dM (X / 86400)) (dD (X / 86400)) ++ [84] ++ ckP (X % 86400 / 3600) (X % 86400 / 60 % 60) (X % 86400 % 60) ++ zP z → PrI v (s, 0, 0) := fun v h => by
    have := clk_P _ _ _ (X % 86400 / 3600) (X % 86400 / 60 % 60) (X % 86400 % 60) z hv (by omega) (by omega) (by omega) bz v h (by rw [e1]; exact ⟨by omega, by omega⟩)
    rw [e1] at this
    exact this
  refine ⟨?_, ?_, ?_, PE t ht, PU u hu, ?_⟩
  all_goals
    clear PE PU e1 e2
    unfold piL at ht hu
    have hl := lg_le (dY (X / 86400)) (dM (X / 86400))
    obtain ⟨v0, v1, v2, v3, v4, v5⟩ := hv
    generalize dY (X / 86400) = y at *
    generalize dM (X / 86400) = m at *
    generalize dD (X / 86400) = d at *
    obtain ⟨ya, yb, yc, yd, ey, _, _, _, _, _⟩ := pad_4 y (by omega) (by show y.toNat < 10000; omega)
    obtain ⟨ma, mb, em, _, _, _⟩ := pad_2 m (by omega) (by show m.toNat < 100; omega)
    obtain ⟨da, db, ed, _, _, _⟩ := pad_2 d (by omega) (by show d.toNat < 100; omega)
    obtain ⟨ha, hb, eh, _, _, _⟩ := pad_2 (X % 86400 / 3600) (by omega) (by show (X % 86400 / 3600).toNat < 100; omega)
    obtain ⟨ia, ib, ei, _, _, _⟩ := pad_2 (X % 86400 / 60 % 60) (by omega) (by show (X % 86400 / 60 % 60).toNat < 100; omega)
    obtain ⟨sa, sb, es, _, _, _⟩ := pad_2 (X % 86400 % 60) (by omega) (by show (X % 86400 % 60).toNat < 100; omega)
    have p0 : pdL 0 y m d = [ya, yb, yc, yd, 45, ma, mb, 45, da, db] := by unfold pdL; simp only [ey, em, ed]; rfl
    have p1 : pdL 1 y m d = [ya, yb, yc, yd, ma, mb, da, db] := by unfold pdL; simp only [ey, em, ed]; rfl
    have p2 : ckL (X % 86400 / 3600) (X % 86400 / 60 % 60) (X % 86400 % 60) = [ha, hb, 58, ia, ib, 58, sa, sb] := by unfold ckL; rw [eh, ei, es]; rfl
    have p3 : ckP (X % 86400 / 3600) (X % 86400 / 60 % 60) (X % 86400 % 60) = [ha, hb, ia, ib, sa, sb] := by unfold ckP; rw [eh, ei, es]; rfl
    rw [p0, p2] at ht hu
    rw [p1, p3] at PP
    have zz : (z = 0 ∧ zL z = [90] ∧ zP z = [90]) ∨ (z ≠ 0 ∧ ∃ g a b c e, zL z = [g, a, b, 58, c, e] ∧ zP z = [g, a, b, c, e]) := by
      by_cases z0 : z = 0
      · exact .inl ⟨z0, by rw [z0]; rfl, by rw [z0]; rfl⟩
      · refine .inr ⟨z0, ?_⟩
        unfold zL zP znL
        rw [if_neg z0, if_neg z0]
        by_cases zn : z < 0
        · obtain ⟨a, b, ea, _, _, _⟩ := pad_2 (-z / 60) (by omega) (by show (-z / 60).toNat < 100; omega)
          obtain ⟨c, e, ec, _, _, _⟩ := pad_2 (-z % 60) (by omega) (by show (-z % 60).toNat < 100; omega)
          rw [if_pos zn, if_pos zn, ea, ec]
          exact ⟨_, _, _, _, _, rfl, rfl⟩
        · obtain ⟨a, b, ea, _, _, _⟩ := pad_2 (z / 60) (by omega) (by show (z / 60).toNat < 100; omega)
          obtain ⟨c, e, ec, _, _, _⟩ := pad_2 (z % 60) (by omega) (by show (z % 60).toNat < 100; omega)
          rw [if_neg zn, if_neg zn, ea, ec]
          exact ⟨_, _, _, _, _, rfl, rfl⟩
    have z00 : zL 0 = [90] := rfl
    rw [z00] at hu
    have tsz : t.size = t.data.toList.length := rfl
    have usz : u.size = u.data.toList.length := rfl
  · rw [tsz, ht]
    rcases zz with ⟨z0, ez, _⟩ | ⟨z0, g, a, b, c, e, ez, _⟩
    · rw [if_pos z0, ez]; rfl
    · rw [if_neg z0, ez]; rfl
  · rw [usz, hu]; rfl
  · refine ba_ext ?_
    rw [ext_list, ext_list, ht, hu]
    rfl
  · have hB : (bsT t).data.toList = [ya, yb, yc, yd, ma, mb, da, db, 84, ha, hb, ia, ib, sa, sb] := by
      unfold bsT
      rw [ba_app, ba_app, ba_app, ba_app, ext_list, ext_list, ext_list, ext_list, ext_list, ht]
      rfl
    refine ⟨(show (bsT t).size = (bsT t).data.toList.length from rfl).trans (by rw [hB]; rfl), fun h0 => PP _ ?_, fun h0 => PP _ ?_⟩
    · rcases zz with ⟨z0, _, ez⟩ | ⟨z0, _⟩
      · rw [ba_app, hB, ez]; rfl
      · exact absurd h0 z0
    · rcases zz with ⟨z0, _⟩ | ⟨z0, g, a, b, c, e, ez, ep⟩
      · exact absurd z0 h0
      · rw [ez] at ht
        have h25 : t.size = 25 := by rw [tsz, ht]; rfl
        rw [ba_app, ba_app, hB, ext_list, ext_list, ht, ep, h25]
        rfl
end Go.Proofs.YtcmllfipaiacfaaGreatDoor
