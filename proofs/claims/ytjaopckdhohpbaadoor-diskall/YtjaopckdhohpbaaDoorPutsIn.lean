/-
  A list of puts that came in; the variable flush.
-/
import Derived.Test.YtjaopckdhohpbaaDoorDkc
import Derived.Test.YtjaopckdhohpbaaDoorRows
import Derived.ProofKit
import Derived.OpenShut
import Derived.ChangeSame
import Derived.ChangeArms
import Derived.DataReads
import Derived.WalkKit
import Derived.Lib.LaidTab
namespace Go.Proofs.YtjaopckdhohpbaaDoor
open Go.ChangeShapes Go.WideShapes Go.ChangeAt Go.RowKit
set_option maxRecDepth 100000

theorem pt_struct : ∃ f0 f1 f2 : Field, Tryd.prog.underlying 48 = some (.struct #[f0, f1, f2]) ∧ (f0.type = 3 ∧ f0.offset = 0) ∧ (f1.type = 5 ∧ f1.offset = 1) ∧ (f2.type = 4 ∧ f2.offset = 2) :=
  ⟨_, _, _, Tryd.underlying48, ⟨rfl, rfl⟩, ⟨rfl, rfl⟩, ⟨rfl, rfl⟩⟩
theorem put_cells {H : Type} {enc : TypeId × Value → H} {W : World} {b2 : Nat} {sp : Nat → Bool} {held : Bool} {fuel : Nat} {cs : List Value} {x : DataW H × List MemPlace} (h : DataW.trod enc Tryd.prog W b2 sp held fuel 48 cs = some x) :
    ∃ (z : Int) (b : UInt8) (fl : Bool), cs = [.int .i64 z, .int .u8 (b.toNat : Int), .bool fl] ∧ -9223372036854775808 ≤ z ∧ z ≤ 9223372036854775807 := by
  obtain ⟨f0, f1, f2, hst, h0, h1, h2⟩ := pt_struct
  obtain ⟨xs, n, _, rfl, hl, hlen, hf⟩ := DataW.trod_struct hst h
  have hc : Tryd.prog.cellsOf 3 = 1 := by kernel_rfl
  have hcb : Tryd.prog.cellsOf 5 = 1 := by kernel_rfl
  have hcB : Tryd.prog.cellsOf 4 = 1 := by kernel_rfl
  have hc3 : Tryd.prog.cellsOf 48 = 3 := by kernel_rfl
  match xs, hlen with
  | [y0, y1, y2], _ =>
    have g0 := hf 0 f0 rfl
    have g1 := hf 1 f1 rfl
    have g2 := hf 2 f2 rfl
    simp only [List.getElem?_cons_zero, List.getElem?_cons_succ] at g0 g1 g2
    rw [h0.1, h0.2, hc] at g0
    rw [h1.1, h1.2, hcb] at g1
    rw [h2.1, h2.2, hcB] at g2
    obtain ⟨z, e0, _, hw⟩ := DataW.trod_int Tryd.underlying3 g0
    obtain ⟨u, e1, _, hwu⟩ := DataW.trod_int Tryd.underlying5 g1
    obtain ⟨fl, e2, _⟩ := DataW.trod_bool Tryd.underlying4 g2
    rw [hc3] at hl
    match cs, hl with
    | [u0, u1, u2], _ =>
      simp at e0 e1 e2
      subst e0 e1 e2
      have hb := bounds_u8 hwu
      have hz := bounds_i64 hw
      refine ⟨z, UInt8.ofNat u.toNat, fl, ?_, hz.1, by omega⟩
      rw [UInt8.toNat_ofNat']
      congr 3
      omega
theorem puts_open {H : Type} {enc : TypeId × Value → H} {W : World} {b2 : Nat} {sp : Nat → Bool} {held : Bool} {v : Value} {d : DataW H} {p : List MemPlace} (hvs : ∃ a len cap, v = .slice a len cap) (h : ∃ fuel, DataW.trod enc Tryd.prog W b2 sp held fuel 22 v.cells.toList = some (d, p)) :
    ∃ P : List Pt, PT W v P ∧ P.length ≤ maxLen := by
  obtain ⟨ao, len0, cap0, rfl⟩ := hvs
  obtain ⟨fuel, hf⟩ := h
  have hce : Tryd.prog.cellsOf 48 = 3 := by kernel_rfl
  rcases DataW.trod_slice Tryd.underlying22 hf with ⟨hcs, hx⟩ | ⟨a, len, cap, elems, rest, n, _, hcs, hx, hb, hl, hm, hlen, hel, _, _⟩
  · simp [Value.cells] at hcs
    obtain ⟨rfl, rfl, rfl⟩ := hcs
    exact ⟨[], ⟨none, 0, rfl, Nat.le_refl _, fun _ => rfl, fun i hi => by simp at hi⟩, by simp⟩
  · simp [Value.cells] at hcs
    obtain ⟨rfl, rfl, rfl⟩ := hcs
    rw [hce] at hel
    have each : ∀ j : Fin len0, ∃ q : Pt, (-9223372036854775808 ≤ q.1 ∧ q.1 ≤ 9223372036854775807) ∧ W.cell? ((a.add (j.1 * 3)).add 0) = some (.int .i64 q.1) ∧ W.cell? ((a.add (j.1 * 3)).add 1) = some (.int .u8 (q.2.1.toNat : Int)) ∧ W.cell? ((a.add (j.1 * 3)).add 2) = some (.bool q.2.2) := by
      intro j
      have h1 := hel j.1 j.2
      rw [List.getElem?_eq_getElem (by have := j.2; omega)] at h1
      obtain ⟨cs, hc, ht⟩ := Option.bind_eq_some_iff.1 h1
      obtain ⟨z, b, fl, rfl, hz0, hz1⟩ := put_cells ht
      have h2 := World.cells?_some hc
      exact ⟨(z, b, fl), ⟨hz0, hz1⟩, by simpa using h2.2.2 0 (by omega), by simpa using h2.2.2 1 (by omega), by simpa using h2.2.2 2 (by omega)⟩
    obtain ⟨fn, hfn⟩ := Classical.axiomOfChoice each
    have hpl : (List.ofFn fn).length = len0 := List.length_ofFn
    refine ⟨List.ofFn fn, ⟨some a, cap0, by rw [hpl], by rw [hpl]; exact hl, (fun h => by cases h), fun i hi => ?_⟩, by rw [hpl]; omega⟩
    rw [hpl] at hi
    obtain ⟨_, c00, _⟩ := hfn ⟨0, by omega⟩
    obtain ⟨b, off, spot⟩ := a
    have hspot : spot = none := by simpa [Addr.add] using World.cell?_spot c00
    subst hspot
    obtain ⟨k0, k1, k2, k3⟩ := hfn ⟨i, hi⟩
    rw [Addr.add_lit, Addr.add_lit] at k1 k2 k3
    rw [List.getElem_ofFn]
    exact ⟨k0, b, off, rfl, k1, k2, k3⟩
theorem fl_datum {H : Type} : (Rows.laid_larder_disk_flush : DataW H) = .agg [.lit (.int .i64 (-1)), .agg (List.replicate 128 (.lit (.int .u8 0)))] := rfl
theorem op_struct : ∃ f0 f1 : Field, Tryd.prog.underlying 75 = some (.struct #[f0, f1]) ∧ (f0.type = 3 ∧ f0.offset = 0) ∧ (f1.type = 73 ∧ f1.offset = 1) :=
  ⟨_, _, Tryd.underlying75, ⟨rfl, rfl⟩, ⟨rfl, rfl⟩⟩
theorem arr_cells {H : Type} {enc : TypeId × Value → H} {W : World} {b2 : Nat} {sp : Nat → Bool} {held : Bool} {fuel : Nat} {cs : List Value} {p : List MemPlace} (h : DataW.trod enc Tryd.prog W b2 sp held fuel 73 cs = some (.agg (List.replicate 128 (.lit (.int .u8 0))), p)) : cs = bc zer := by
  have hce : Tryd.prog.cellsOf 5 = 1 := by kernel_rfl
  have hct : Tryd.prog.cellsOf 73 = 128 := by kernel_rfl
  cases fuel with
  | zero => simp [DataW.trod] at h
  | succ fuel =>
    simp only [DataW.trod, Tryd.underlying73, hce, hct] at h
    split at h
    · rename_i hl
      obtain ⟨xs, hm, hx⟩ := Option.map_eq_some_iff.1 h
      have hxs : xs.map (·.1) = List.replicate 128 (.lit (.int .u8 0)) := by
        have := congrArg Prod.fst hx
        simpa using this
      apply List.ext_getElem?
      intro j
      by_cases hj : j < 128
      · obtain ⟨b, hb, hf⟩ := Lib.mapM_at hm j j (by simp [hj])
        obtain ⟨z, e0, rfl, _⟩ := DataW.trod_int Tryd.underlying5 hf
        have h2 : (xs.map (·.1))[j]? = some (.lit (.int .u8 z)) := by rw [List.getElem?_map, hb]; rfl
        rw [hxs, List.getElem?_replicate, if_pos hj] at h2
        simp only [Option.some.injEq, DataW.lit.injEq, Lit.int.injEq, true_and] at h2
        have c0 := congrArg (·[0]?) e0
        simp [List.getElem?_drop] at c0
        have ez : zer[j]'(by simp [zer]; exact hj) = 0 := by unfold zer; rw [List.getElem_replicate]
        rw [c0, bc_at zer j (by simp [zer]; exact hj), ← h2, ez]
        rfl
      · rw [List.getElem?_eq_none (by omega), List.getElem?_eq_none (by rw [bc_length]; simp [zer]; omega)]
    · cases h
theorem hasFl_of {n : String} {w : World} (hn : Tryd.prog.globalNamed n = some 0) (h : laidMet Tryd.prog [(n, Rows.laid_larder_disk_flush)] w) : HasFl w := by
  obtain ⟨ps, ⟨g, t, cs, fuel, p, q, e1, e2, e3, e4, _⟩, _⟩ := h
  obtain rfl : g = 0 := (Option.some.inj (hn.symm.trans e1)).symm
  have hty : (Tryd.prog.globals[(0 : Nat)]?).map (·.type) = some 75 := by kernel_rfl
  obtain rfl : t = 75 := (Option.some.inj (hty.symm.trans e2)).symm
  rw [fl_datum] at e4
  obtain ⟨f0, f1, hst, h0, h1⟩ := op_struct
  obtain ⟨y0, y1, m, hx, hlen, g0, g1⟩ := trod_struct2 hst e4
  have hc : Tryd.prog.cellsOf 3 = 1 := by kernel_rfl
  have hca : Tryd.prog.cellsOf 73 = 128 := by kernel_rfl
  have hco : Tryd.prog.cellsOf 75 = 129 := by kernel_rfl
  rw [h0.1, h0.2, hc] at g0
  rw [h1.1, h1.2, hca] at g1
  have hx1 := congrArg Prod.fst hx
  simp only [DataW.agg.injEq, List.cons.injEq, and_true] at hx1
  obtain ⟨z, c0, hy0, _⟩ := DataW.trod_int Tryd.underlying3 g0
  rw [hy0] at hx1
  simp only [DataW.lit.injEq, Lit.int.injEq, true_and] at hx1
  obtain ⟨hz, hy1⟩ := hx1
  obtain ⟨y1a, y1b⟩ := y1
  simp only at hy1
  subst hy1
  have c1 := arr_cells g1
  have hcs : cs.toList = opc flO := by
    rw [hco] at hlen
    generalize cs.toList = L at *
    cases L with
    | nil => simp at hlen
    | cons u t =>
      simp only [List.drop_zero, List.take_succ_cons, List.take_zero, List.cons.injEq, and_true, List.drop_succ_cons] at c0 c1
      rw [List.take_of_length_le (by simp at hlen; omega)] at c1
      unfold opc
      rw [c0, ← hz, c1]
      rfl
  unfold World.var? at e3
  rw [hn] at e3
  simp only [Option.bind_some] at e3
  split at e3
  · next c t fr hh => exact ⟨t, fr, by rw [hh, ← hcs, Option.some.inj e3]⟩
  · cases e3
end Go.Proofs.YtjaopckdhohpbaaDoor
