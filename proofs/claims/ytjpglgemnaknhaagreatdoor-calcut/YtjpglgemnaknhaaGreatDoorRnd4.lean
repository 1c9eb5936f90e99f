/-
  CalRound: what the law's walk asks.
-/
import Derived.Test.YtjpglgemnaknhaaGreatDoorFrm
import Derived.Test.YtjpglgemnaknhaaGreatDoorRnd3
namespace Go.Proofs.YtjpglgemnaknhaaGreatDoor
open Go.RowKit
set_option maxRecDepth 100000

theorem wk_pos (n : Int) (h : 2 ≤ n) (h2 : n ≤ 3652424) : VD (dY n) (dM n) (dD n) ∧ nb (dY n) (dM n) (dD n) = n ∧ 0 ≤ wkY (dY n) (nb (dY n) (dM n) (dD n)) := by
  obtain ⟨hv, hn⟩ := dt_is n (by omega)
  refine ⟨hv, hn, ?_⟩
  rw [hn]
  have hy := hv.1
  have ht : 0 ≤ thu n := by unfold thu wd; omega
  unfold wkY
  split
  · rename_i q
    have : dY n ≠ 0 := fun e => by rw [e, ys_zero] at q; omega
    omega
  · split <;> omega

theorem psd_any (y m d : Int) (hv : VD y m d) (hw : 0 ≤ wkY y (nb y m d)) (k : Nat) (hk : k < 6) (w : World) (hA : HasAh w) :
    Calls Tryz.prog 7 #[.string (pdT k y m d)] w fun e w' => e = .returned (rT y m d 0 0) ∧ Below w.heap.size w w' := by
  match k, hk with
  | 0, _ =>
    obtain ⟨h1, h2, h3⟩ := rnd_0 y m d hv hw (pdT 0 y m d) (pdT_list 0 y m d)
    rw [← h3]; exact parse_0 _ h1 h2 w hA
  | 1, _ =>
    obtain ⟨h1, h2, h3⟩ := rnd_1 y m d hv hw (pdT 1 y m d) (pdT_list 1 y m d)
    rw [← h3]; exact parse_1 _ h1 h2 w hA
  | 2, _ =>
    obtain ⟨h1, h2, h3⟩ := rnd_2 y m d hv hw (pdT 2 y m d) (pdT_list 2 y m d)
    rw [← h3]; exact parse_2 _ h1 h2 w hA
  | 3, _ =>
    obtain ⟨h1, h2, h3⟩ := rnd_3 y m d hv hw (pdT 3 y m d) (pdT_list 3 y m d)
    rw [← h3]; exact parse_3 _ h1 h2 w hA
  | 4, _ =>
    obtain ⟨h1, h2, h3⟩ := rnd_4 y m d hv hw (pdT 4 y m d) (pdT_list 4 y m d)
    rw [← h3]; exact parse_4 _ h1 h2 w hA
  | 5, _ =>
    obtain ⟨h1, h2, h3⟩ := rnd_5 y m d hv hw (pdT 5 y m d) (pdT_list 5 y m d)
    rw [← h3]; exact parse_5 _ h1 h2 w hA

theorem ext_take (t : ByteArray) (a b : Nat) : (t.extract a b).data.toList = (t.data.toList.drop a).take (b - a) := by
  rw [ByteArray.data_extract, Array.toList_extract, List.extract_eq_take_drop]

/-- the pieces of a text, and the text without its strokes -/
theorem cut_0 (y m d : Int) (hv : VD y m d) : (pdT 0 y m d).size = 10 ∧ ((pdT 0 y m d).extract 0 4 ++ (pdT 0 y m d).extract 5 7 ++ (pdT 0 y m d).extract 8 10) = pdT 1 y m d := by
  have hl := lg_le y m
  obtain ⟨v0, v1, v2, v3, v4, v5⟩ := hv
  obtain ⟨a, b, c, e, e0, _, _, _, _, _⟩ := pad_4 y (by omega) (by show y.toNat < 10000; omega)
  obtain ⟨f, g, e1, _, _, _⟩ := pad_2 m (by omega) (by show m.toNat < 100; omega)
  obtain ⟨h, i, e2, _, _, _⟩ := pad_2 d (by omega) (by show d.toNat < 100; omega)
  have h0 : (pdT 0 y m d).data.toList = [a, b, c, e, 45, f, g, 45, h, i] := by rw [pdT_list]; unfold pdL; simp only [e0, e1, e2]; rfl
  have h1 : (pdT 1 y m d).data.toList = [a, b, c, e, f, g, h, i] := by rw [pdT_list]; unfold pdL; simp only [e0, e1, e2]; rfl
  refine ⟨by rw [← len_ba, h0]; rfl, ba_ext ?_⟩
  rw [ba_app, ba_app, ext_take, ext_take, ext_take, h0, h1]
  rfl
theorem cut_2 (y m d : Int) (hv : VD y m d) : (pdT 2 y m d).size = 8 ∧ ((pdT 2 y m d).extract 0 4 ++ (pdT 2 y m d).extract 5 8) = pdT 3 y m d := by
  have hy := yd_in y m d hv
  obtain ⟨v0, v1, v2, v3, v4, v5⟩ := hv
  obtain ⟨a, b, c, e, e0, _, _, _, _, _⟩ := pad_4 y (by omega) (by show y.toNat < 10000; omega)
  obtain ⟨f, g, h, e1, _, _, _, _⟩ := pad_3 (yd y m d) (by omega) (by show (yd y m d).toNat < 1000; omega)
  have h0 : (pdT 2 y m d).data.toList = [a, b, c, e, 45, f, g, h] := by rw [pdT_list]; unfold pdL; simp only [e0, e1]; rfl
  have h1 : (pdT 3 y m d).data.toList = [a, b, c, e, f, g, h] := by rw [pdT_list]; unfold pdL; simp only [e0, e1]; rfl
  refine ⟨by rw [← len_ba, h0]; rfl, ba_ext ?_⟩
  rw [ba_app, ext_take, ext_take, h0, h1]
  rfl
theorem cut_4 (y m d : Int) (hv : VD y m d) (hw : 0 ≤ wkY y (nb y m d)) : (pdT 4 y m d).size = 10 ∧ ((pdT 4 y m d).extract 0 4 ++ (pdT 4 y m d).extract 5 8 ++ (pdT 4 y m d).extract 9 10) = pdT 5 y m d := by
  have hwb := week_bounds y m d hv
  have hw9 := wkY_le y m d hv
  have hwd := wd_lt (nb y m d)
  obtain ⟨a, b, c, e, e0, _, _, _, _, _⟩ := pad_4 (wkY y (nb y m d)) (by omega) (by show (wkY y (nb y m d)).toNat < 10000; omega)
  obtain ⟨f, g, e1, _, _, _⟩ := pad_2 (wkW y (nb y m d)) (by omega) (by show (wkW y (nb y m d)).toNat < 100; omega)
  obtain ⟨h, e2, _, _⟩ := pad_1 (wd (nb y m d) + 1) (by omega) (by show (wd (nb y m d) + 1).toNat < 10; omega)
  have h0 : (pdT 4 y m d).data.toList = [a, b, c, e, 45, 87, f, g, 45, h] := by rw [pdT_list]; unfold pdL wtL; simp only [e0, e1, e2]; rfl
  have h1 : (pdT 5 y m d).data.toList = [a, b, c, e, 87, f, g, h] := by rw [pdT_list]; unfold pdL wtL; simp only [e0, e1, e2]; rfl
  refine ⟨by rw [← len_ba, h0]; rfl, ba_ext ?_⟩
  rw [ba_app, ba_app, ext_take, ext_take, ext_take, h0, h1]
  rfl

/-- the order of the texts -/
theorem less_any (y m d y' m' d' : Int) (hv : VD y m d) (hv' : VD y' m' d') (hw : 0 ≤ wkY y (nb y m d)) (hw' : 0 ≤ wkY y' (nb y' m' d')) (k : Nat) (hk : k = 0 ∨ k = 1 ∨ k = 2 ∨ k = 4) :
    Op.bytesLess (pdT k y m d).toList (pdT k y' m' d').toList = decide (nb y m d < nb y' m' d') := by
  rw [ByteArray.toList_eq, ByteArray.toList_eq, pdT_list, pdT_list]
  rcases hk with rfl | rfl | rfl | rfl
  · exact lex_0 y m d y' m' d' hv hv' hw hw'
  · exact lex_1 y m d y' m' d' hv hv' hw hw'
  · exact lex_2 y m d y' m' d' hv hv' hw hw'
  · exact lex_4 y m d y' m' d' hv hv' hw hw'
end Go.Proofs.YtjpglgemnaknhaaGreatDoor
