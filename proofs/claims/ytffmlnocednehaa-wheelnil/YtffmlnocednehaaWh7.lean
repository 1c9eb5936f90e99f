/-
  wheel: the map of names, told by a function from names to values; what is not there is nil.
-/
import Derived.Maps.OwnSet
import Derived.Maps.Views
import Derived.StringKeys
import Derived.Test.YtffmlnocednehaaWh6
namespace Go.Proofs.Ytffmlnocednehaa
open Go.RowKit Go.Maps Go.WideMaps
set_option maxRecDepth 100000

/-- a map's element, held as it lies -/
def RV (v : Value) : Option (DataW Value × List MemPlace) := some (.held v, [])
theorem keyS : Keyed Try.prog 9 := string_keyed Try.underlying9
/-- the map in block b holds M -/
def NP (w : World) (b n : Nat) (M : ByteArray → Value) : Prop := ∃ D, w.ownsMap Try.prog 9 RV b n D ∧ ∀ s : ByteArray, D.atKey (.string s.data.toList) (.held (.pointer none)) = .held (M s)
theorem NP.made (w : World) : NP (w.alloc (.map #[] 0)) w.heap.size 0 (fun _ => .pointer none) := ⟨_, World.ownsMap_made _ _ _ _, fun _ => rfl⟩
theorem NP.kept {w w' : World} {b n : Nat} {M : ByteArray → Value} {row : Option Nat} (h : NP w b n M) (hg : w.grownBy w' row) (hne : some b ≠ row) : NP w' b n M := by
  obtain ⟨D, hD, hM⟩ := h
  exact ⟨D, hD.kept hg hne, hM⟩
theorem NP.lt {w : World} {b n : Nat} {M : ByteArray → Value} (h : NP w b n M) : b < w.heap.size := by
  obtain ⟨D, hD, _⟩ := h
  exact hD.lt
/-- M, but v at k -/
def updN (M : ByteArray → Value) (k : ByteArray) (v : Value) : ByteArray → Value := fun x => if x = k then v else M x
theorem bytes_eq {a b : ByteArray} (h : a.data.toList = b.data.toList) : a = b := by
  cases a; cases b
  simp only at h
  congr
  exact Array.toList_inj.1 h
theorem NP.put {w : World} {b n : Nat} {M : ByteArray → Value} (h : NP w b n M) {k : ByteArray} (hk : k.size ≤ maxLen) (hn : n < maxLen) (v : Value) :
    ∃ w', (Instr.mapUpdate 61 (.map (some b)) (.string k) v).run Try.prog w = .ok () w' ∧ NP w' b (n + 1) (updN M k v) ∧ w.grownBy w' (some b) := by
  obtain ⟨D, hD, hM⟩ := h
  have hkey := keyOf_string_mk Try.underlying9 hk
  obtain ⟨w', hrun, hD', hg⟩ := hD.update keyS Try.underlying61 hn hkey (show RV v = some (.held v, []) from rfl)
  refine ⟨w', hrun, ⟨_, hD', fun x => ?_⟩, hg⟩
  unfold updN
  split
  · rename_i e
    subst e
    exact atKey_put_same hD.isMap (keyS.key hkey) _ _
  · rename_i e
    rw [atKey_put_other (fun e' => e (bytes_eq (by injection e'))), hM x]
theorem NP.del {w : World} {b n : Nat} {M : ByteArray → Value} (h : NP w b n M) {k : ByteArray} (hk : k.size ≤ maxLen) (ty : TypeId) :
    ∃ w', (Builtin.delete_ #[61, 9] ty #[.map (some b), .string k]).run Try.prog w = .ok (.tuple #[]) w' ∧ NP w' b n (updN M k (.pointer none)) ∧ w.grownBy w' (some b) := by
  obtain ⟨D, hD, hM⟩ := h
  have hkey := keyOf_string_mk Try.underlying9 hk
  obtain ⟨w', hrun, hD', ht⟩ := hD.drop keyS Try.underlying61 hkey ty
  refine ⟨w', hrun, ⟨_, hD', fun x => ?_⟩, ht.grown⟩
  unfold updN
  split
  · rename_i e
    subst e
    exact atKey_del_same _
  · rename_i e
    rw [atKey_del_other (fun e' => e (bytes_eq (by injection e'))), hM x]
end Go.Proofs.Ytffmlnocednehaa
