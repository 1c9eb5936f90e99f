/-
  The table of turns as it is laid; a list of bytes that came in.
-/
import Derived.Test.YtgnnopjkbmbjbaaDoorLawPWh
import Derived.Test.YtgnnopjkbmbjbaaDoorGIn
namespace Go.Proofs.YtgnnopjkbmbjbaaDoor
open Go.ChangeShapes Go.WideShapes Go.ChangeAt Go.RowKit
set_option maxRecDepth 100000

theorem byte_cells {H : Type} {enc : TypeId × Value → H} {W : World} {b2 : Nat} {sp : Nat → Bool} {held : Bool} {fuel : Nat} {cs : List Value} {x : DataW H × List MemPlace} (h : DataW.trod enc Tryd.prog W b2 sp held fuel 5 cs = some x) :
    ∃ y : Int, cs = eB y ∧ (0 ≤ y ∧ y ≤ 255) := by
  obtain ⟨z, e0, _, hw⟩ := DataW.trod_int Tryd.underlying5 h
  have := bounds_u8 hw
  exact ⟨z, e0, by omega⟩
theorem eB_len (x : Int) : (eB x).length = 1 := rfl
theorem pair_cells {H : Type} {enc : TypeId × Value → H} {W : World} {b2 : Nat} {sp : Nat → Bool} {held : Bool} {fuel : Nat} {cs : List Value} {q : List MemPlace} {a b : Int} (h : DataW.trod enc Tryd.prog W b2 sp held fuel 42 cs = some (.agg [.lit (.int .i64 a), .lit (.int .i64 b)], q)) : cs = [.int .i64 a, .int .i64 b] := by
  obtain ⟨xs, m, _, hx, hl, hlen, hel⟩ := DataW.trod_array Tryd.underlying42 h
  have hc : Tryd.prog.cellsOf 3 = 1 := by kernel_rfl
  have hc2 : Tryd.prog.cellsOf 42 = 2 := by kernel_rfl
  rw [hc2] at hl
  match xs, hlen with
  | [y0, y1], _ =>
    have g0 := hel 0 (by omega)
    have g1 := hel 1 (by omega)
    simp only [List.getElem?_cons_zero, List.getElem?_cons_succ] at g0 g1
    rw [hc] at g0 g1
    obtain ⟨z0, e0, d0, _⟩ := DataW.trod_int Tryd.underlying3 g0
    obtain ⟨z1, e1, d1, _⟩ := DataW.trod_int Tryd.underlying3 g1
    subst d0 d1
    have hd := (Prod.mk.inj hx).1
    simp at hd
    obtain ⟨rfl, rfl⟩ := hd
    match cs, hl with
    | [u0, u1], _ =>
      simp at e0 e1
      rw [e0, e1]
theorem hasTu_of {n : String} {rest : List (String × DataW Unit)} {w : World} (hn : Tryd.prog.globalNamed n = some 0) (h : laidMet Tryd.prog ((n, Rows.laid_larder_plan_turns) :: rest) w) : HasTu w := by
  obtain ⟨ps, ⟨g, t, cs, fuel, p, q, e1, e2, e3, e4, _⟩, _⟩ := h
  obtain rfl : g = 0 := (Option.some.inj (hn.symm.trans e1)).symm
  have hty : (Tryd.prog.globals[(0 : Nat)]?).map (·.type) = some 43 := by kernel_rfl
  obtain rfl : t = 43 := (Option.some.inj (hty.symm.trans e2)).symm
  obtain ⟨xs, m, _, hx, hl, hlen, hel⟩ := DataW.trod_array Tryd.underlying43 e4
  have hc : Tryd.prog.cellsOf 42 = 2 := by kernel_rfl
  have hc2 : Tryd.prog.cellsOf 43 = 8 := by kernel_rfl
  rw [hc2] at hl
  match xs, hlen with
  | [y0, y1, y2, y3], _ =>
    have g0 := hel 0 (by omega)
    have g1 := hel 1 (by omega)
    have g2 := hel 2 (by omega)
    have g3 := hel 3 (by omega)
    simp only [List.getElem?_cons_zero, List.getElem?_cons_succ] at g0 g1 g2 g3
    rw [hc] at g0 g1 g2 g3
    have hd := (Prod.mk.inj hx).1
    simp [Rows.laid_larder_plan_turns] at hd
    obtain ⟨k0, k1, k2, k3⟩ := hd
    obtain ⟨a0, b0⟩ := y0
    obtain ⟨a1, b1⟩ := y1
    obtain ⟨a2, b2⟩ := y2
    obtain ⟨a3, b3⟩ := y3
    simp only at k0 k1 k2 k3
    subst k0 k1 k2 k3
    have f0 := pair_cells g0
    have f1 := pair_cells g1
    have f2 := pair_cells g2
    have f3 := pair_cells g3
    obtain ⟨l, hl0⟩ : ∃ l, cs.toList = l := ⟨_, rfl⟩
    rw [hl0] at hl f0 f1 f2 f3
    clear g0 g1 g2 g3 hel hx e4
    match l, hl with
    | [u0, u1, u2, u3, u4, u5, u6, u7], _ =>
      simp at f0 f1 f2 f3
      obtain ⟨rfl, rfl⟩ := f0
      obtain ⟨rfl, rfl⟩ := f1
      obtain ⟨rfl, rfl⟩ := f2
      obtain ⟨rfl, rfl⟩ := f3
      unfold World.var? at e3
      rw [hn] at e3
      simp only [Option.bind_some] at e3
      split at e3
      · next cc t fr hh =>
        have hc := Option.some.inj e3
        intro j hj
        rw [Lib.cell_of_heap hh, Lib.cell_of_heap hh, ← Array.getElem?_toList, ← Array.getElem?_toList, hc, hl0]
        rcases (show j = 0 ∨ j = 1 ∨ j = 2 ∨ j = 3 by omega) with rfl | rfl | rfl | rfl <;> exact ⟨rfl, rfl⟩
      · cases e3
end Go.Proofs.YtgnnopjkbmbjbaaDoor
