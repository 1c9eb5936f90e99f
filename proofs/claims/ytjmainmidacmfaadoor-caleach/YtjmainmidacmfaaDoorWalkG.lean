/-
  Days as cells, a date's block, a func that is not nil.
-/
import Derived.Maps.AppendAt
import Derived.Test.YtjmainmidacmfaaDoorEachI
namespace Go.Proofs.YtjmainmidacmfaaDoor
open Go.RowKit Go.Shelf
set_option maxRecDepth 100000
attribute [local go_sem] Oper.semAt_some

/-- days as cells -/
def dcE (x : Int) : List Value := [.int .i64 (dY x), .int .i64 (dM x), .int .i64 (dD x)]
def dc : List Int → List Value
  | [] => []
  | x :: t => dcE x ++ dc t
theorem dc_snoc (L : List Int) (x : Int) : dc (L ++ [x]) = dc L ++ dcE x := by
  induction L with
  | nil => simp [dc]
  | cons y t ih => simp [dc, ih, List.append_assoc]
theorem dc_len (L : List Int) : (dc L).length = L.length * 3 := by
  induction L with
  | nil => rfl
  | cons y t ih => simp [dc, dcE, ih]; omega

theorem dateinfo : (Tryd.prog.info? 36).map (fun i => (i.zero, i.size, i.bytes)) = some (some (.agg #[.int .i64 0, .int .i64 0, .int .i64 0]), 3, 24) := by kernel_rfl

theorem Box.own {B : Nat} {y m d : Int} {X Y : World} {row : Option Nat} (hs : Box X B y m d) (hg : X.grownBy Y row) (hr : ∀ r, row = some r → ∃ o : Obj, X.heap[r]? = some o ∧ o.isCells = false) : Box Y B y m d :=
  (hg.block B hs.facts.2.2.2.2.2.2 (fun e => by obtain ⟨o, ho, hc⟩ := hr B e.symm; rw [show X.heap[B]? = _ from hs] at ho; cases ho; cases hc)).trans hs

theorem three_new (w : World) (x : Int) : ∀ j u, (dcE x)[j]? = some u → (w.alloc (.cells #[.int .i64 (dY x), .int .i64 (dM x), .int .i64 (dD x)] 36)).cell? ((⟨w.heap.size, 0, none⟩ : Addr).add j) = some u := by
  intro j u hj
  match j, hj with
  | 0, hj => simp [dcE] at hj; subst hj; simp [Addr.add]
  | 1, hj => simp [dcE] at hj; subst hj; simp [Addr.add]
  | 2, hj => simp [dcE] at hj; subst hj; simp [Addr.add]
  | n + 3, hj => simp [dcE] at hj
theorem three_one (x : Int) : ∀ u ∈ dcE x, u.oneCell' = true := by
  intro u hu
  simp [dcE] at hu
  rcases hu with rfl | rfl | rfl <;> rfl

theorem equalIn_func_nil {P : Program} (w : World) (n : Nat) {t : TypeId} {ps rs : Array TypeId} {vd : Bool} (h : P.underlying t = some (.func ps rs vd)) (fn : Fn) (fi ca : Array Value) :
    (Op.equalIn (n + 1) t (.func fn fi ca) .nilFunc).run P w = .ok false w := by
  simp [Op.equalIn, run_underlying h]
theorem eql_func_nil {P : Program} (w : World) {t : TypeId} {ps rs : Array TypeId} {vd : Bool} (h : P.underlying t = some (.func ps rs vd)) (fn : Fn) (fi ca : Array Value) :
    (binOp .eql t (.func fn fi ca) .nilFunc).run P w = .ok (.bool false) w := by
  simp only [binOp]
  simp [Op.equal, Op.maxDepth, equalIn_func_nil w 9999 h fn fi ca]
theorem each_notnil (fn : Fn) (fi ca : Array Value) (w : World) : (binOp .eql 48 (.func fn fi ca) .nilFunc).run Tryd.prog w = .ok (.bool false) w := eql_func_nil w Tryd.underlying48 fn fi ca

end Go.Proofs.YtjmainmidacmfaaDoor
