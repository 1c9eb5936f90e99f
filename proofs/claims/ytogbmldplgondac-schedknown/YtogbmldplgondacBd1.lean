/-
  A board's memory: the map of those that wait, told by a function from things to slices; the handlers' row.
-/
import Derived.Maps.OwnSet
import Derived.Maps.Views
import Derived.ArgAppend
import Derived.Test.YtogbmldplgondacSc1
namespace Go.Proofs.Ytogbmldplgondac
open Go.RowKit Go.Maps
set_option maxRecDepth 100000

/-- a map's element, held as it lies -/
def RV (v : Value) : Option (DataW Value × List MemPlace) := some (.held v, [])
theorem keyI : Keyed Try.prog 3 := int_keyed Try.underlying3
def i64 (k : Int) : Prop := -9223372036854775808 ≤ k ∧ k ≤ 9223372036854775807
theorem i64.wf {k : Int} (h : i64 k) : (Lit.int .i64 k).wf = true := by
  have e1 : IntKind.i64.min = -9223372036854775808 := rfl
  have e2 : IntKind.i64.max = 9223372036854775807 := rfl
  simp [Lit.wf, e1, e2, h.1, h.2]
/-- the map in block b holds M -/
def MP (w : World) (b n : Nat) (M : Int → Value) : Prop := ∃ D, w.ownsMap Try.prog 3 RV b n D ∧ ∀ k : Int, D.atKey (.int .i64 k) (.held (.slice none 0 0)) = .held (M k)
theorem MP.made (w : World) : MP (w.alloc (.map #[] 0)) w.heap.size 0 (fun _ => .slice none 0 0) := ⟨_, World.ownsMap_made _ _ _ _, fun _ => rfl⟩
theorem MP.kept {w w' : World} {b n : Nat} {M : Int → Value} {row : Option Nat} (h : MP w b n M) (hg : w.grownBy w' row) (hne : some b ≠ row) : MP w' b n M := by
  obtain ⟨D, hD, hM⟩ := h
  exact ⟨D, hD.kept hg hne, hM⟩
theorem MP.lt {w : World} {b n : Nat} {M : Int → Value} (h : MP w b n M) : b < w.heap.size := by
  obtain ⟨D, hD, _⟩ := h
  exact hD.lt
theorem MP.later {w w' : World} {b n : Nat} {M : Int → Value} (h : MP w b n M) (hb : Below w.heap.size w w') : MP w' b n M := h.kept (Below.grew hb) (by simp)
theorem zeroL (w : World) : (zeroValue 22).run Try.prog w = .ok (.slice none 0 0) w := by kernel_rfl
theorem MP.look {w : World} {b n : Nat} {M : Int → Value} (h : MP w b n M) {k : Int} (hk : i64 k) : (Instr.lookup 90 (.map (some b)) (.int .i64 k) false).run Try.prog w = .ok (M k) w := by
  obtain ⟨D, hD, hM⟩ := h
  obtain ⟨v, ps, hrun, hv⟩ := hD.lookup keyI Try.underlying90 (zeroL w) (zd := .held (.slice none 0 0)) (zp := []) rfl (keyOf_int_mk Try.underlying3 hk.wf)
  rw [hM k] at hv
  simp only [RV, Option.some.injEq, Prod.mk.injEq, DataW.held.injEq] at hv
  rw [hrun, hv.1]
/-- M, but v at k -/
def upd (M : Int → Value) (k : Int) (v : Value) : Int → Value := fun x => if x = k then v else M x
theorem MP.put {w : World} {b n : Nat} {M : Int → Value} (h : MP w b n M) {k : Int} (hk : i64 k) (hn : n < maxLen) (v : Value) :
    ∃ w', (Instr.mapUpdate 90 (.map (some b)) (.int .i64 k) v).run Try.prog w = .ok () w' ∧ MP w' b (n + 1) (upd M k v) ∧ w.grownBy w' (some b) := by
  obtain ⟨D, hD, hM⟩ := h
  have hkey := keyOf_int_mk Try.underlying3 hk.wf
  obtain ⟨w', hrun, hD', hg⟩ := hD.update keyI Try.underlying90 hn hkey (show RV v = some (.held v, []) from rfl)
  refine ⟨w', hrun, ⟨_, hD', fun x => ?_⟩, hg⟩
  unfold upd
  split
  · rename_i e
    subst e
    exact atKey_put_same hD.isMap (keyI.key hkey) _ _
  · rename_i e
    rw [atKey_put_other (fun e' => e (by cases e'; rfl)), hM x]
theorem MP.del {w : World} {b n : Nat} {M : Int → Value} (h : MP w b n M) {k : Int} (hk : i64 k) (ty : TypeId) :
    ∃ w', (Builtin.delete_ #[90, 3] ty #[.map (some b), .int .i64 k]).run Try.prog w = .ok (.tuple #[]) w' ∧ MP w' b n (upd M k (.slice none 0 0)) ∧ w.grownBy w' (some b) := by
  obtain ⟨D, hD, hM⟩ := h
  have hkey := keyOf_int_mk Try.underlying3 hk.wf
  obtain ⟨w', hrun, hD', ht⟩ := hD.drop keyI Try.underlying90 hkey ty
  refine ⟨w', hrun, ⟨_, hD', fun x => ?_⟩, ht.grown⟩
  unfold upd
  split
  · rename_i e
    subst e
    exact atKey_del_same _
  · rename_i e
    rw [atKey_del_other (fun e' => e (by cases e'; rfl)), hM x]

/-- a handler: its state, the thing that it waits for, since when -/
abbrev Hd := Int × Int × Int
def hc (S : List Hd) : List Value := S.flatMap fun h => [.int .i64 h.1, .int .i64 h.2.1, .int .i64 h.2.2]
theorem hc_len (S : List Hd) : (hc S).length = S.length * 3 := by
  induction S with
  | nil => rfl
  | cons x t ih => simp [hc] at ih ⊢; omega
theorem hc_at (S : List Hd) : ∀ (i : Nat) (h : i < S.length), (hc S)[i * 3]? = some (.int .i64 S[i].1) ∧ (hc S)[i * 3 + 1]? = some (.int .i64 S[i].2.1) ∧ (hc S)[i * 3 + 2]? = some (.int .i64 S[i].2.2) := by
  induction S with
  | nil => intro i h; simp at h
  | cons x t ih =>
    intro i h
    have e : hc (x :: t) = .int .i64 x.1 :: .int .i64 x.2.1 :: .int .i64 x.2.2 :: hc t := rfl
    rw [e]
    cases i with
    | zero => simp
    | succ j =>
      have := ih j (by simpa using h)
      have e3 : (j + 1) * 3 = j * 3 + 3 := by omega
      rw [e3]
      simpa [List.getElem_cons_succ] using this
theorem hc_set (S : List Hd) (x : Hd) : ∀ (i : Nat), i < S.length → (((hc S).set (i * 3) (.int .i64 x.1)).set (i * 3 + 1) (.int .i64 x.2.1)).set (i * 3 + 2) (.int .i64 x.2.2) = hc (S.set i x) := by
  induction S with
  | nil => intro i h; simp at h
  | cons y t ih =>
    intro i h
    have e : hc (y :: t) = .int .i64 y.1 :: .int .i64 y.2.1 :: .int .i64 y.2.2 :: hc t := rfl
    cases i with
    | zero => rw [e]; simp [hc]
    | succ j =>
      have := ih j (by simpa using h)
      have e3 : (j + 1) * 3 = j * 3 + 3 := by omega
      rw [e, e3]
      simp only [List.set_cons_succ, show j * 3 + 3 + 1 = (j * 3 + 1) + 3 from by omega, show j * 3 + 3 + 2 = (j * 3 + 2) + 3 from by omega]
      rw [this]
      rfl
end Go.Proofs.Ytogbmldplgondac
