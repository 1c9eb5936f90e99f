/-
  wheel: turn(5) with one name at 5.
-/
import Derived.Test.YtffmlnocednehaaWha
namespace Go.Proofs.Ytffmlnocednehaa
open Go.RowKit Go.Maps Go.WideMaps
set_option maxRecDepth 100000

/-- the names' map with the one name -/
def m1 (t : Nat) : ByteArray → Value := updN (fun _ => .pointer none) ⟨#[97, 97, 97]⟩ (.pointer (some ⟨t, 0, none⟩))
/-- a wheel at 5 with nothing in its rings, the name still in the map -/
def Emp (g t mb : Nat) (w : World) : Prop := mb ≠ g ∧ w.heap[g]? = some (.cells (whR 5 noR (.map (some mb))) 63 (0, 0)) ∧ NP w mb 1 (m1 t)
theorem no5 (p : Value) (k : Nat) (hk : k < 5) : (noR.set 5 p)[k]? = some (.pointer none) := by
  rw [List.getElem?_set_ne (by omega)]
  unfold noR
  rw [List.getElem?_replicate, if_pos (by omega)]
theorem no5_set (p : Value) (k : Nat) (hk : k < 5) : (noR.set 5 p).set k (.pointer none) = noR.set 5 p := by
  apply List.ext_getElem?
  intro j
  by_cases h : k = j
  · subst h
    rw [List.getElem?_set_self (by simp [noR]; omega), no5 p k hk]
  · rw [List.getElem?_set_ne h]
theorem no5_at (p : Value) : (noR.set 5 p)[5]? = some p := by
  rw [List.getElem?_set_self (by simp [noR])]
theorem no5_drop (p : Value) : (noR.set 5 p).set 5 (.pointer none) = noR := by
  rw [List.set_set]
  apply List.ext_getElem?
  intro j
  by_cases h : 5 = j
  · subst h
    rw [List.getElem?_set_self (by simp [noR])]
    unfold noR
    rw [List.getElem?_replicate, if_pos (by omega)]
  · rw [List.getElem?_set_ne h]
theorem One.step {g t mb k : Nat} {w : World} (h : One 5 g t mb w) (hk : k < 5) : One 5 g t mb (w.setCell ⟨g, 1 + k, none⟩ (.pointer none)) := by
  obtain ⟨h1, h2, h3, h4, h5, h6⟩ := h
  refine ⟨h1, h2, h3, ?_, (heap_setCell_other w ⟨g, 1 + k, none⟩ t _ h1).trans h5, h6.kept (gb_setCell w ⟨g, 1 + k, none⟩ _) (by simp; exact h2)⟩
  have := heap_setCell_same w g (1 + k) _ _ (.pointer none) h4
  rw [whR_set_s (by simp [noR]; omega), no5_set _ k hk] at this
  exact this
theorem One.drop {g t mb : Nat} {w : World} (h : One 5 g t mb w) : Emp g t mb (w.setCell ⟨g, 1 + 5, none⟩ (.pointer none)) := by
  obtain ⟨h1, h2, h3, h4, h5, h6⟩ := h
  refine ⟨h2, ?_, h6.kept (gb_setCell w ⟨g, 1 + 5, none⟩ _) (by simp; exact h2)⟩
  have := heap_setCell_same w g (1 + 5) _ _ (.pointer none) h4
  rw [whR_set_s (by simp [noR]), no5_drop] at this
  exact this
theorem Emp.grown {g t mb : Nat} {w w' : World} {o : Option Nat} (h : Emp g t mb w) (hg : w.grownBy w' o) (h1 : o ≠ some g) (h2 : o ≠ some mb) (hl : g < w.heap.size) : Emp g t mb w' :=
  ⟨h.1, (hg.block g hl (fun e => h1 e.symm)).trans h.2.1, h.2.2.kept hg (fun e => h2 e.symm)⟩
theorem One.lt {now : Int} {g t mb : Nat} {w : World} (h : One now g t mb w) : g < w.heap.size := (Array.getElem?_eq_some_iff.1 h.2.2.2.1).1
theorem whR_set_0 {now n : Int} {R : List Value} {m : Value} : (whR now R m).setIfInBounds 0 (.int .i64 n) = whR n R m := by simp [whR]
set_option maxHeartbeats 4000000 in
theorem turn_five (g t mb : Nat) (w : World) (h : One 0 g t mb w) :
    Calls Try.prog 27 #[.pointer (some ⟨g, 0, none⟩), .int .i64 5] w fun e w' => ∃ v, e = .returned v ∧ OD w' w.heap.size v ∧ Emp g t mb w' ∧ Below g w w' := by
  have hl := h.lt
  obtain ⟨B, hB0⟩ : ∃ B, w.heap.size = B := ⟨_, rfl⟩
  obtain ⟨h1, h2, h3, h4, h5, h6⟩ := h
  have c0 : w.cell? ⟨g, 0, none⟩ = some (.int .i64 0) := by rw [Lib.cell_of_heap h4]; exact whR_0 _ _ _
  have f0 : w.frozen? ⟨g, 0, none⟩ = false := Lib.frozen_of_heap h4 0
  obtain ⟨W, hW⟩ : ∃ W, w.setCell ⟨g, 0, none⟩ (.int .i64 5) = W := ⟨_, rfl⟩
  have zW : W.heap.size = B := by rw [← hW, ← hB0]; simp
  rw [hB0] at hl ⊢
  have ZW := hid zW
  have HO := hid (show One 5 g t mb W from ⟨h1, h2, h3, by
    have := heap_setCell_same w g 0 _ _ (.int .i64 5) h4
    rw [whR_set_0, hW] at this
    exact this, by rw [← hW]; exact (heap_setCell_other w ⟨g, 0, none⟩ t _ h1).trans h5, by rw [← hW]; exact h6.kept (gb_setCell w ⟨g, 0, none⟩ _) (by simp; exact h2)⟩)
  have BW := hid (show Below g w W by rw [← hW]; exact (Below.refl _ _).setCell (p := ⟨g, 0, none⟩) (Nat.le_refl _) _)
  have HW := hid hW
  clear h1 h2 h3 h4 h5 h6 hW hB0 zW
  go_enter Try.func27, Try.ntmps27
  go_wp2_with (first
    | (go_at_call 37; refine (apart_05 _).mono ?_; rintro e w' ⟨rfl, rfl⟩))
  refine wp_loop_rounds 1 ?_
  rw [rounds_succ]
  go_wp2_with (first
    | (go_at_call 39; refine (digit_five _).mono ?_; rintro e w' ⟨rfl, rfl⟩))
  rw [HW.out]
  clear c0 f0
  go_loopw [5, 39] (fun l i wx => ∃ k : Nat, k ≤ 6 ∧ i = .int .i64 (k : Int) ∧ (k ≤ 5 → l = .slice none 0 0 ∧ One 5 g t mb wx) ∧ (k = 6 → OD wx B l ∧ Emp g t mb wx) ∧ Below g W wx) (fun _ i _ => 6 - (intOf i).toNat)
  case atStart => exact ⟨0, by omega, rfl, fun _ => ⟨rfl, HO.out⟩, fun h => by omega, Below.refl _ _⟩
  case round =>
    obtain ⟨k, hk, rfl, ha, hb, hB⟩ := hrel
    have hz := hB.size
    rw [ZW.out] at hz
    by_cases h5 : k < 5
    · obtain ⟨rfl, ho⟩ := ha (by omega)
      have hI : (k : Int) < 6 := by omega
      have HF := hid (fall_none g k wr (by omega) (by rw [Lib.cell_of_heap ho.2.2.2.1]; exact whR_s (no5 _ k h5)) (Lib.frozen_of_heap ho.2.2.2.1 (1 + k)))
      have H1 := hid (ho.step h5)
      have B1 := hid (hB.setCell (p := ⟨g, 1 + k, none⟩) (Nat.le_refl _) (.pointer none))
      clear ha hb ho hB
      go_wp2_with fail
      refine Calls.mono HF.out ?_
      rintro e w3 ⟨rfl, hw3⟩
      rw [← hw3] at H1 B1
      clear hw3 HF
      go_wp2_with fail
      go_roundw
      case rel => exact ⟨k + 1, by omega, by go_num, fun _ => ⟨rfl, H1.out⟩, fun h => by omega, B1.out⟩
      case measure => simp [intOf]; omega
    · by_cases h6 : k = 5
      · subst h6
        obtain ⟨rfl, ho⟩ := ha (by omega)
        have HF := hid (fall_one g t wr (by rw [Lib.cell_of_heap ho.2.2.2.1]; exact whR_s (no5_at _)) (Lib.frozen_of_heap ho.2.2.2.1 (1 + 5)) (by rw [Lib.cell_of_heap ho.2.2.2.1]; exact whR_0 _ _ _) ho.2.2.2.2.1 ho.1)
        have H1 := hid ho.drop
        have hgl := ho.lt
        have hmb := ho.2.2.2.2.2.lt
        have B1 := hid (hB.setCell (p := ⟨g, 1 + 5, none⟩) (Nat.le_refl _) (.pointer none))
        have z1 : (wr.setCell ⟨g, 1 + 5, none⟩ (.pointer none)).heap.size = wr.heap.size := by simp
        generalize wr.setCell ⟨g, 1 + 5, none⟩ (.pointer none) = wc at *
        clear ha hb ho hB
        go_wp2_with fail
        refine Calls.mono HF.out ?_
        rintro e w3 ⟨v3, rfl, ho3, hb3⟩
        have hb3' : Below wc.heap.size wc w3 := hb3.mono (by omega)
        have z3 := hb3'.size
        have H2 := hid (H1.out.grown (Below.grew hb3') (by simp) (by simp) (by omega))
        have B2 := hid (B1.out.trans (hb3.mono (by omega)))
        have hcs := fun g hg => World.ownsRow.cells ho3 (g := g) hg
        rcases ho3.2 with ⟨_, h0⟩ | ⟨gb, cap, cur, rfl, _⟩
        · omega
        have hn := hcs gb rfl
        have HN := hid hn
        clear HF hb3 hb3' ho3 hcs hn
        go_wp2_with (at_builtin; refine wpList_appD rfl (.tmp 42) (.tmp 46) rfl B rfl ⟨gb, 0, none⟩ cap rfl HN.out (by omega) ?hnext)
        case hnext =>
        intro v4 w4 ho4 hg4
        have H4 := hid ho4
        have E4 := hid (H2.out.grown hg4 (by simp) (by simp) (by omega))
        have B4 := hid (B2.out.grown hg4 (by omega) (fun k hk => by cases hk))
        clear ho4 hg4
        go_wp2_with fail
        go_roundw
        case rel => exact ⟨6, by omega, by go_num, fun h => by omega, fun _ => ⟨H4.out, E4.out⟩, B4.out⟩
        case measure => simp [intOf]
      · obtain rfl : k = 6 := by omega
        obtain ⟨h7, h8⟩ := hb rfl
        have H7 := hid h7
        have H8 := hid h8
        have HB := hid hB
        clear ha hb h7 h8 hB
        go_wp2
        go_ret
        exact ⟨_, rfl, H7.out, H8.out, BW.out.trans HB.out⟩
end Go.Proofs.Ytffmlnocednehaa
