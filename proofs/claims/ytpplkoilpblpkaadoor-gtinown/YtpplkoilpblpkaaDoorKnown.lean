/-
  The table of Ais that the program holds: what it says, and how it is read.
-/
import Derived.Test.YtpplkoilpblpkaaDoorRows
import Derived.Test.YtpplkoilpblpkaaDoorSums
import Derived.Lib.LaidTab
import Derived.ChangeSame
import Derived.WalkKit
import Derived.ProofKit
namespace Go.Proofs.YtpplkoilpblpkaaDoor
open Go.RowKit Go.ChangeShapes
set_option maxRecDepth 100000

/-- an Ai and its kind, as two cells -/
def knC (x : List UInt8 × Int) : List Value := [.string ⟨x.1.toArray⟩, .int .i64 x.2]
def knD {H : Type} (x : List UInt8 × Int) : DataW H := .agg [.lit (.string x.1), .lit (.int .i64 x.2)]

/-- the Ais and their kinds, in the table's order -/
def knl : List (List UInt8 × Int) := [
  ([48, 48], 0), ([48, 49], 1), ([48, 50], 1), ([49, 48], 9), ([50, 49], 9), ([49, 49], 3),
  ([49, 51], 3), ([49, 53], 3), ([49, 55], 3), ([50, 48], 4), ([51, 48], 5), ([51, 55], 5),
  ([51, 49, 48, 48], 6), ([51, 49, 48, 49], 6), ([51, 49, 48, 50], 6), ([51, 49, 48, 51], 6), ([51, 49, 48, 52], 6), ([51, 49, 48, 53], 6),
  ([51, 57, 50, 48], 7), ([51, 57, 50, 49], 7), ([51, 57, 50, 50], 7), ([51, 57, 50, 51], 7), ([52, 48, 48], 11), ([52, 49, 48], 2),
  ([52, 49, 49], 2), ([52, 49, 52], 2), ([52, 50, 48], 9), ([56, 48, 48, 53], 8), ([56, 48, 50, 48], 10), ([57, 48], 11),
  ([57, 49], 12), ([57, 50], 12), ([57, 51], 12), ([57, 52], 12), ([57, 53], 12), ([57, 54], 12),
  ([57, 55], 12), ([57, 56], 12), ([57, 57], 12)]

theorem knl_datum : (Rows.laid_larder_gtin_knowns : DataW Unit) = .agg (knl.map knD) := by rfl

theorem flat_get (l : List (List UInt8 × Int)) (i : Nat) (hi : i < l.length) : (l.flatMap knC)[2 * i]? = some (.string ⟨l[i].1.toArray⟩) ∧ (l.flatMap knC)[2 * i + 1]? = some (.int .i64 l[i].2) := by
  induction l generalizing i with
  | nil => simp at hi
  | cons x t ih =>
    cases i with
    | zero => exact ⟨rfl, rfl⟩
    | succ i =>
      have h := ih i (by simpa using hi)
      rw [show 2 * (i + 1) = 2 * i + 1 + 1 by omega]
      exact ⟨h.1, h.2⟩

theorem flat_len (l : List (List UInt8 × Int)) : (l.flatMap knC).length = 2 * l.length := by
  induction l with
  | nil => rfl
  | cons x t ih =>
    rw [List.flatMap_cons, List.length_append, ih]
    show 2 + 2 * t.length = 2 * (t.length + 1)
    omega

/-- an array of rows of a text and a number that reads as the table holds it, cell for cell -/
theorem cells_of_pairs {H : Type} {enc : TypeId × Value → H} {P : Program} {w : World} {base : Nat} {sp : Nat → Bool} {held : Bool} {fuel : Nat} {t e ts ti : TypeId} {f0 f1 : Field} {n : Nat} {cs : List Value} {tab : List (List UInt8 × Int)} {p : List MemPlace}
    (ht : P.underlying t = some (.array n e)) (he : P.underlying e = some (.struct #[f0, f1])) (h0 : f0.type = ts ∧ f0.offset = 0) (h1 : f1.type = ti ∧ f1.offset = 1) (hs : P.underlying ts = some .string) (hi : P.underlying ti = some (.int .i64))
    (hce : P.cellsOf e = 2) (hct : P.cellsOf t = 2 * n) (hcs : P.cellsOf ts = 1) (hci : P.cellsOf ti = 1)
    (h : DataW.trod enc P w base sp held fuel t cs = some (.agg (tab.map knD), p)) : cs = tab.flatMap knC := by
  cases fuel with
  | zero => simp [DataW.trod] at h
  | succ fuel =>
    simp only [DataW.trod, ht, hce, hct] at h
    split at h
    · rename_i hl
      obtain ⟨xs, hm, hx⟩ := Option.map_eq_some_iff.1 h
      have hxs : xs.map (·.1) = tab.map knD := by
        have := congrArg Prod.fst hx
        simpa using this
      have hxl : xs.length = n := by simpa using Lib.mapM_length hm
      have htl : tab.length = n := by
        have := congrArg List.length hxs
        simp at this
        omega
      have key : ∀ i (hi : i < n), cs[2 * i]? = some (.string ⟨(tab[i]'(by omega)).1.toArray⟩) ∧ cs[2 * i + 1]? = some (.int .i64 (tab[i]'(by omega)).2) := by
        intro i hin
        obtain ⟨b, hb, hf⟩ := Lib.mapM_at hm i i (by simp [hin])
        obtain ⟨y0, y1, m, rfl, hlen, g0, g1⟩ := trod_struct2 he hf
        rw [h0.1, h0.2, hcs] at g0
        rw [h1.1, h1.2, hci] at g1
        obtain ⟨s, e0, rfl, _⟩ := DataW.trod_string hs g0
        obtain ⟨z, e1, rfl, _⟩ := DataW.trod_int hi g1
        have h2 : (xs.map (·.1))[i]? = some (DataW.agg [.lit (.string s.data.toList), .lit (.int .i64 z)] : DataW H) := by simp [hb]
        rw [hxs, List.getElem?_map, List.getElem?_eq_getElem (by omega)] at h2
        simp only [Option.map_some, Option.some.injEq, knD, DataW.agg.injEq, List.cons.injEq, DataW.lit.injEq, Lit.string.injEq, Lit.int.injEq, and_true, true_and] at h2
        have c0 : cs[2 * i]? = some (.string s) := by
          have := congrArg (·[0]?) e0
          simpa [List.getElem?_take, List.getElem?_drop, Nat.mul_comm] using this
        have c1 : cs[2 * i + 1]? = some (.int .i64 z) := by
          have := congrArg (·[0]?) e1
          simpa [List.getElem?_take, List.getElem?_drop, Nat.mul_comm] using this
        refine ⟨?_, ?_⟩
        · rw [c0, h2.1]
        · rw [c1, h2.2]
      apply List.ext_getElem?
      intro j
      by_cases hj : j < 2 * n
      · obtain ⟨i, hi2⟩ : ∃ i, j = 2 * i ∨ j = 2 * i + 1 := ⟨j / 2, by omega⟩
        have hin : i < n := by omega
        have k1 := key i hin
        have k2 := flat_get tab i (by omega)
        rcases hi2 with rfl | rfl
        · rw [k1.1, k2.1]
        · rw [k1.2, k2.2]
      · rw [List.getElem?_eq_none (by omega), List.getElem?_eq_none (by rw [flat_len]; omega)]
    · cases h

/-- the table lies there -/
def HasKn (w : World) : Prop := ∃ c t fr, w.heap[(0 : Nat)]? = some (.cells c t fr) ∧ c.toList = knl.flatMap knC

theorem kn_struct : ∃ f0 f1 : Field, Tryd.prog.underlying 86 = some (.struct #[f0, f1]) ∧ (f0.type = 9 ∧ f0.offset = 0) ∧ (f1.type = 72 ∧ f1.offset = 1) :=
  ⟨_, _, Tryd.underlying86, ⟨rfl, rfl⟩, ⟨rfl, rfl⟩⟩

theorem hasKn_of {n : String} {w : World} (hn : Tryd.prog.globalNamed n = some 0) (h : laidMet Tryd.prog [(n, Rows.laid_larder_gtin_knowns)] w) : HasKn w := by
  obtain ⟨ps, ⟨g, t, cs, fuel, p, q, e1, e2, e3, e4, _⟩, _⟩ := h
  obtain rfl : g = 0 := (Option.some.inj (hn.symm.trans e1)).symm
  have hty : (Tryd.prog.globals[(0 : Nat)]?).map (·.type) = some 96 := by kernel_rfl
  obtain rfl : t = 96 := (Option.some.inj (hty.symm.trans e2)).symm
  rw [knl_datum] at e4
  obtain ⟨f0, f1, hst, hf0, hf1⟩ := kn_struct
  have hc := cells_of_pairs Tryd.underlying96 hst hf0 hf1 Tryd.underlying9 Tryd.underlying72 (by kernel_rfl) (by kernel_rfl) (by kernel_rfl) (by kernel_rfl) e4
  unfold World.var? at e3
  rw [hn] at e3
  simp only [Option.bind_some] at e3
  split at e3
  · next c t fr hh => exact ⟨c, t, fr, hh, by rw [Option.some.inj e3]; exact hc⟩
  · cases e3

theorem HasKn.below {w w' : World} (h : HasKn w) (hb : Below w.heap.size w w') : HasKn w' := by
  obtain ⟨c, t, fr, hh, hc⟩ := h
  exact ⟨c, t, fr, (hb.block _ (Array.getElem?_eq_some_iff.1 hh).1).trans hh, hc⟩

/-- an Ai's kind -/
def kfind (l : List UInt8) : Option Int := (knl.find? fun x => x.1 == l).map (·.2)

theorem kn_load {w : World} (h : HasKn w) : ∃ K : Array Value, K.toList = knl.flatMap knC ∧ (Instr.loadAt 96 (.pointer (some ⟨0, 0, none⟩))).run Tryd.prog w = .ok (.agg K) w := by
  obtain ⟨c, t, fr, hh, hc⟩ := h
  refine ⟨c, hc, ?_⟩
  simp only [Instr.loadAt, Instr.sureAddr, Sem.run_bind, Sem.run_pure, Result.andThen_ok]
  have hi : (Tryd.prog.info? 96).map (·.size) = some 78 := by kernel_rfl
  refine run_loadVar_row w _ _ 96 c _ _ hh Tryd.underlying96 rfl ?_
  rw [hi, ← Array.length_toList, hc, flat_len]
  rfl

theorem kn_index (K : Array Value) (hK : K.toList = knl.flatMap knC) (k : Nat) (hk : k < 39) (w : World) :
    (Instr.index 96 (.agg K) (.int .i64 (k : Int))).run Tryd.prog w = .ok (.agg #[.string ⟨(knl[k]'hk).1.toArray⟩, .int .i64 (knl[k]'hk).2]) w := by
  have h := flat_get knl k hk
  rw [← hK] at h
  simp only [Array.getElem?_toList] at h
  have hsz : K.size = 78 := by rw [← Array.length_toList, hK, flat_len]; rfl
  have hex : K.extract (k * 2) (k * 2 + 2) = #[.string ⟨(knl[k]'hk).1.toArray⟩, .int .i64 (knl[k]'hk).2] := by
    apply Array.ext
    · rw [Array.size_extract, hsz]
      show min (k * 2 + 2) 78 - k * 2 = 2
      omega
    · intro i h1 h2
      rw [Array.getElem_extract]
      have hi2 : i < 2 := h2
      have hv : i = 0 ∨ i = 1 := by omega
      rcases hv with rfl | rfl
      · have := (Array.getElem?_eq_some_iff.1 h.1).2
        simp only [Nat.add_zero, show k * 2 = 2 * k by omega]
        exact this
      · have := (Array.getElem?_eq_some_iff.1 h.2).2
        simp only [show k * 2 = 2 * k by omega]
        exact this
  have hlt : (0 : Int) ≤ (k : Int) ∧ (k : Int) < ((39 : Nat) : Int) := by omega
  simp only [Instr.index, asIntOf, Sem.run_bind, Sem.run_pure, Result.andThen_ok, run_underlying Tryd.underlying96]
  rw [if_pos hlt]
  simp only [Sem.run_bind, Sem.run_pure, Result.andThen_ok, Tryd.sizeOf86, part, Tryd.isAgg86, if_true, Int.toNat_natCast, hex]

end Go.Proofs.YtpplkoilpblpkaaDoor
