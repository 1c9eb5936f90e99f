/-
  A string that is being read: the scan in memory; passEnder.
-/
import Derived.Test.YtpplkoilpblpkaaDoorVeK
namespace Go.Proofs.YtpplkoilpblpkaaDoor
open Go.RowKit
set_option maxRecDepth 100000

/-- numbers in a block of the call's own -/
def OG (w : World) (base : Nat) (v : Value) (G : List Nat) : Prop := w.ownsRow base 3 1 v G.length (G.map fun n : Nat => Value.int .i64 (n : Int))
theorem OG.nil (w : World) (base : Nat) : OG w base (.slice none 0 0) [] := World.ownsRow_nil _ _ _ _
theorem OG.later {w w' : World} {base : Nat} {v : Value} {G : List Nat} (h : OG w base v G) (hb : Below w.heap.size w w') : OG w' base v G := by
  refine World.ownsRow.kept h (row := none) ⟨hb.os, hb.tape, hb.output, hb.size, fun k hk _ => hb.block k hk⟩ ?_
  cases v.ownBlock <;> simp
/-- the scan in block b: its text, its place, its list and where the list's elements begin -/
def SB (w : World) (b : Nat) (s : ByteArray) (p : Nat) (lv gv : Value) : Prop := w.heap[b]? = some (.cells #[.string s, .int .i64 (p : Int), lv, gv] 60 (0, 0))
theorem SB.facts {w : World} {b p : Nat} {s : ByteArray} {lv gv : Value} (h : SB w b s p lv gv) : w.cell? ⟨b, 0, none⟩ = some (.string s) ∧ w.cell? ⟨b, 1, none⟩ = some (.int .i64 (p : Int)) ∧ w.cell? ⟨b, 2, none⟩ = some lv ∧ w.cell? ⟨b, 3, none⟩ = some gv ∧ b < w.heap.size :=
  ⟨by rw [Lib.cell_of_heap h]; rfl, by rw [Lib.cell_of_heap h]; rfl, by rw [Lib.cell_of_heap h]; rfl, by rw [Lib.cell_of_heap h]; rfl, (Array.getElem?_eq_some_iff.1 h).1⟩
theorem SB.frozen {w : World} {b p : Nat} {s : ByteArray} {lv gv : Value} (h : SB w b s p lv gv) (j : Nat) : w.frozen? ⟨b, j, none⟩ = false := Lib.frozen_of_heap h j
theorem SB.later {w w' : World} {b p : Nat} {s : ByteArray} {lv gv : Value} (h : SB w b s p lv gv) (hb : Below w.heap.size w w') : SB w' b s p lv gv := (hb.block b h.facts.2.2.2.2).trans h
theorem SB.put1 {w : World} {b p : Nat} {s : ByteArray} {lv gv : Value} (h : SB w b s p lv gv) (q : Nat) (z : Int) (hz : z = (q : Int)) : SB (w.setCell ⟨b, 1, none⟩ (.int .i64 z)) b s q lv gv := by
  subst hz
  exact Lib.heap_setCell_same h _
theorem SB.put2 {w : World} {b p : Nat} {s : ByteArray} {lv gv : Value} (h : SB w b s p lv gv) (v : Value) : SB (w.setCell ⟨b, 2, none⟩ v) b s p v gv := Lib.heap_setCell_same h _
theorem SB.put3 {w : World} {b p : Nat} {s : ByteArray} {lv gv : Value} (h : SB w b s p lv gv) (v : Value) : SB (w.setCell ⟨b, 3, none⟩ v) b s p lv v := Lib.heap_setCell_same h _
theorem owns_set {w : World} {base e size n b j : Nat} {v : Value} {xs : List Value} (h : w.ownsRow base e size v n xs) (hb : b < base) (u : Value) : (w.setCell ⟨b, j, none⟩ u).ownsRow base e size v n xs := by
  have hs := (Below.refl b w).setCell (p := ⟨b, j, none⟩) (Nat.le_refl _) u
  refine World.ownsRow.kept h (row := some b) ⟨hs.os, hs.tape, hs.output, hs.size, fun k hk hne => Below.heap_setCell _ _ _ _ (by show k ≠ b; intro e; exact hne (by rw [e]))⟩ ?_
  cases hv : v.ownBlock with
  | none => simp
  | some k =>
    have := (World.ownsRow.lt h k hv).1
    simp
    omega

set_option maxHeartbeats 2000000 in
theorem passEnder_any (b p : Nat) (s : ByteArray) (lv gv : Value) (w : World) (h : SB w b s p lv gv) (hs : s.size ≤ 1000000) (hp : p ≤ s.size) :
    Calls Tryd.prog 36 #[.pointer (some ⟨b, 0, none⟩)] w fun e w' =>
      (p = s.size ∧ e = .returned (.tuple #[.int .i64 0, .int .i64 0]) ∧ SB w' b s p lv gv ∨ p + 1 = s.size ∧ e = .returned (.tuple #[.int .i64 4, .int .i64 (p : Int)]) ∨ p + 1 < s.size ∧ e = .returned (.tuple #[.int .i64 0, .int .i64 0]) ∧ SB w' b s (p + 1) lv gv) ∧ (∃ wd, Below w.heap.size w wd ∧ (w' = wd ∨ w' = wd.setCell ⟨b, 1, none⟩ (.int .i64 ((p : Int) + 1)))) := by
  have HS := hid h
  obtain ⟨c0, c1, _, _, _⟩ := h.facts
  clear h
  have DN := hid (fun n => below_drewN (Below.refl w.heap.size w) n)
  have CN := hid (fun n => And.intro (below_cells (DN.out n) _ _ c0) (below_cells (DN.out n) _ _ c1))
  by_cases he : p = s.size
  · have hb1 : ((p : Int) == (s.size : Int)) = true := by rw [beq_iff_eq]; omega
    have HE := hid he
    clear he
    go_enter Tryd.func36, Tryd.ntmps36
    go_wp2_with fail
    go_quiet (fail)
    go_wp2
    go_ret2
    exact ⟨.inl ⟨HE.out, rfl, HS.out.later (DN.out _)⟩, _, DN.out _, .inl rfl⟩
  · have hb1 : ((p : Int) == (s.size : Int)) = false := by rw [beq_eq_false_iff_ne]; omega
    by_cases hl : p + 1 = s.size
    · have hb2 : ((p : Int) == (s.size : Int) - 1) = true := by rw [beq_iff_eq]; omega
      have HE := hid hl
      clear he hl
      go_enter Tryd.func36, Tryd.ntmps36
      go_wp2_with fail
      go_quiet (fail)
      obtain ⟨d0, d1⟩ := CN.out nq
      have B1 := hid (DN.out nq)
      clear c0 c1 CN DN
      generalize w.drewN nq = wa at *
      go_wp2_with fail
      go_quiet (fail)
      have B2 := hid (B1.out.trans ((below_drewN (Below.refl wa.heap.size wa) nq).mono B1.out.size))
      have e0 := below_cells (below_drewN (Below.refl wa.heap.size wa) nq) _ _ d0
      have e1 := below_cells (below_drewN (Below.refl wa.heap.size wa) nq) _ _ d1
      clear d0 d1 B1
      generalize wa.drewN nq = wb at *
      go_wp2_with fail
      go_quiet (fail)
      have B3 := hid (B2.out.trans ((below_drewN (Below.refl wb.heap.size wb) nq).mono B2.out.size))
      go_wp2
      go_ret2
      exact ⟨.inr (.inl ⟨HE.out, rfl⟩), _, B3.out, .inl rfl⟩
    · have hb2 : ((p : Int) == (s.size : Int) - 1) = false := by rw [beq_eq_false_iff_ne]; omega
      have HL := hid (show p + 1 < s.size by omega)
      go_enter Tryd.func36, Tryd.ntmps36
      go_wp2_with fail
      go_quiet (fail)
      obtain ⟨d0, d1⟩ := CN.out nq
      have B1 := hid (DN.out nq)
      clear c0 c1 CN DN
      generalize w.drewN nq = wa at *
      go_wp2_with fail
      go_quiet (fail)
      have B2 := hid (B1.out.trans ((below_drewN (Below.refl wa.heap.size wa) nq).mono B1.out.size))
      have e0 := below_cells (below_drewN (Below.refl wa.heap.size wa) nq) _ _ d0
      have e1 := below_cells (below_drewN (Below.refl wa.heap.size wa) nq) _ _ d1
      clear d0 d1 B1
      generalize wa.drewN nq = wb at *
      have f1 : wb.frozen? ⟨b, 1, none⟩ = false := (HS.out.later B2.out).frozen 1
      go_wp2
      go_ret2
      exact ⟨.inr (.inr ⟨HL.out, rfl, (HS.out.later B2.out).put1 (p + 1) _ (by omega)⟩), _, B2.out, .inr rfl⟩
end Go.Proofs.YtpplkoilpblpkaaDoor
