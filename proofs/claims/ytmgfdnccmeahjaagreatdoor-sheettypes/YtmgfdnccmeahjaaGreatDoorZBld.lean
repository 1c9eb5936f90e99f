/-
  Bld: A row's builder that hands on the world's shape; the table of tens, whatever it holds.
-/
import Derived.Test.YtmgfdnccmeahjaaGreatDoorRows
import Derived.Handed
import Derived.WalkKit
import Derived.ProofKit
import Derived.RowKit
import Derived.Below
namespace Go.Proofs.YtmgfdnccmeahjaaGreatDoor
open Go.RowKit
set_option maxRecDepth 100000
set_option linter.unusedVariables false

/-- the table of tens lies there, whatever its numbers -/
def TabU (w : World) : Prop := ∀ k, k < 20 → ∃ z : Int, w.cell? ⟨21, k, none⟩ = some (.int .u64 z) ∧ 0 ≤ z ∧ z < 18446744073709551616
theorem TabU.below {w w' : World} (h : TabU w) (hb : Below w.heap.size w w') : TabU w' := fun k hk => by
  obtain ⟨z, h1, h2⟩ := h k hk
  exact ⟨z, (hb.cell (p := ⟨21, k, none⟩) (World.block_lt_of_cell? _ _ h1)).trans h1, h2⟩
theorem tab_zero : ((begin Tryz.prog (fun _ _ => 0) default).world.heap[(21 : Nat)]?).bind Obj.row? = some (Array.replicate 20 (.int .u64 0), 273) := by kernel_rfl
theorem tab_types : Tryz.prog.cellTypes Tryz.prog.depth 273 = some (List.replicate 20 182) := by kernel_rfl
theorem tab_build : Tryz.prog.buildable 273 = true := by kernel_rfl
theorem tab_of {w : World} (h : w.ShapedOpen Tryz.prog) : TabU w := by
  obtain ⟨cs, h1, h2, h3⟩ := h.1 21 _ _ (by rw [show Tryz.prog.globals.size = 35 by kernel_rfl]; decide) tab_zero
  obtain ⟨ts, e1, _, h4⟩ := h3 tab_build
  rw [tab_types] at e1
  cases e1
  have h2' : cs.size = 20 := h2
  intro k hk
  obtain ⟨u, e2, h5⟩ := h4 k cs[k] (by rw [Array.getElem?_eq_getElem (by omega)])
  have hu : u = 182 := by
    have := List.mem_of_getElem? e2
    exact (List.mem_replicate.1 this).2
  subst hu
  unfold Cell.ok at h5
  rw [Tryz.underlying182] at h5
  have hc : w.cell? ⟨21, k, none⟩ = some cs[k] := by
    simp [World.cell?, h1, show k < cs.size by omega]
  rw [hc]
  generalize cs[k] = v at h5
  cases v with
  | int q n =>
    obtain ⟨rfl, hn⟩ := h5
    have hb : (0 : Int) ≤ n ∧ n ≤ 18446744073709551615 := hn
    exact ⟨n, rfl, hb.1, by omega⟩
  | _ => exact h5.elim
/-- a row that is changed by nothing, the world's shape handed on -/
theorem handed_shaped {H : Type} {enc : TypeId × Value → H} {a : Assume} {C : Checked} {os : Os} {f : FuncId} {fn : Func} {s : ChangeSpec} {conds : List PathCond} {apart fresh handsOn again : Bool} {X : World → Array Value → Prop}
    (hX : ∀ (w w' : World) (args : Array Value), w.heap = w'.heap → X w args → X w' args)
    (own : ownKnob C.prog.godebug = none) (started : os.Started) (noInit : C.prog.inits.idxOf? f = none) (hfn : C.prog.funcs[f]? = some fn)
    (witness : ∃ (w : World) (tape : Tape) (i : Input), w.os = os ∧ (w.forCall tape i).Shaped C.prog ∧ i.vars = [] ∧ Input.okWide C.prog (w.forCall tape i) .any w.heap.size f i ∧
      ((s.pre enc C.prog fn conds apart (w.forCall tape i).memory i.args ∧ X (w.forCall tape i).memory i.args) ∧ sizedMet enc C.prog fn (OpenSpec.ofChange s) apart (w.forCall tape i).memory i.args) ∧ a.holds C.prog (lone (Frame.enter C.prog f i.args .normal) [] (w.forCall tape i)))
    (contract : ∀ (W : World) (base : Nat) (args : Array Value) (ds gs : List (DataW H)) (before : List MemPlace), W.ShapedOpen C.prog →
      (∀ (j : Nat) t v, fn.params[j]? = some t → args[j]? = some v → Value.okWide C.prog W .any base t v) →
      DataW.Whole enc C.prog fn.params.toList s.vars apart W args.toList ds gs before →
      conds.all (PathCond.test C.prog ⟨fn.params.toList, ds, s.plain.varTypes C.prog, gs⟩) = true →
      (DataW.weightsEach C.prog (fn.params.toList ++ s.plain.varTypes C.prog) (ds ++ gs)).all (· ≤ reachBytes) = true → X W args →
      a.holds C.prog (lone (Frame.enter C.prog f args .normal) [] W) →
      Calls C.prog f args W fun e W' => ∃ v, e = .returned v ∧ s.post enc C.prog fn apart fresh handsOn again W args v W') :
    ReturnsInHanded a C os f .any (fun w args => (s.pre enc C.prog fn conds apart w args ∧ X w args) ∧ sizedMet enc C.prog fn (OpenSpec.ofChange s) apart w args) (s.post enc C.prog fn apart fresh handsOn again) := by
  refine returnsInHanded_of_calls own started noInit witness fun w tape i _ hsh _ hok hpre hholds => ?_
  obtain ⟨_, _, _, fn', hfn', _, _, _, _, hval⟩ := hok
  cases Option.some.inj (hfn'.symm.trans hfn)
  obtain ⟨⟨⟨ds, gs, before, hw, hc⟩, hx⟩, hz⟩ := hpre
  refine (contract (w.forCall tape i) w.heap.size i.args ds gs before hsh hval (DataW.Whole.of_heap (w' := w.forCall tape i) (by rfl) hw) hc (hz.weights hw) (hX _ _ _ (by rfl) hx) hholds).mono fun e W' h => ?_
  obtain ⟨v, rfl, hp⟩ := h
  exact ChangeSpec.post_blind hp
end Go.Proofs.YtmgfdnccmeahjaaGreatDoor
