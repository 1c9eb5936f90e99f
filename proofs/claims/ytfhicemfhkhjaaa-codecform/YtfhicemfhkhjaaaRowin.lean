/-
  From a slice of bytes that came in to the bytes that it reads as.
-/
import Derived.Test.YtfhicemfhkhjaaaBytes
namespace Go.Proofs.Ytfhicemfhkhjaaa
open Go.RowKit

/-- what is told of a slice of integers that came in: it is nil, or it leads to a row of 'cap' cells -/
def IsRow (k : IntKind) (w : World) (a : Option Addr) (len cap : Nat) (zs : List Int) : Prop :=
  (a = none ∧ len = 0 ∧ cap = 0 ∧ zs = []) ∨
  ∃ x, a = some x ∧ len ≤ cap ∧ cap ≤ maxLen ∧ zs.length = cap ∧ (∀ i, i < zs.length → w.cell? (x.add i) = some (.int k (zs.getD i 0))) ∧ ∀ n ∈ zs, (Lit.int k n).wf = true

theorem IsRow.reads {w : World} {a : Option Addr} {len cap : Nat} {zs : List Int} (h : IsRow .u8 w a len cap zs) : ∃ l : List UInt8, l.length = len ∧ Reads w (.slice a len cap) l := by
  rcases h with ⟨rfl, rfl, rfl, rfl⟩ | ⟨x, rfl, hl, hm, hz, hcell, hwz⟩
  · exact ⟨[], rfl, Reads.nil w⟩
  · by_cases h0 : len = 0
    · subst h0
      exact ⟨[], rfl, .inl ⟨rfl, _, cap, rfl, fun h => by cases h⟩⟩
    · obtain ⟨b, off, spot⟩ := x
      have hc := hcell 0 (by omega)
      have hspot : spot = none := by simpa [Addr.add] using World.cell?_spot hc
      subst hspot
      have hlen : ((zs.take len).map fun z => UInt8.ofNat z.toNat).length = len := by simp; omega
      refine ⟨(zs.take len).map fun z => UInt8.ofNat z.toNat, hlen, .inr ⟨b, off, cap, by rw [hlen], by omega, fun j hj => ?_⟩⟩
      rw [hlen] at hj
      have hj' : j < zs.length := by omega
      have h1 := hcell j hj'
      rw [Addr.add_lit] at h1
      rw [h1]
      have e1 : zs.getD j 0 = zs[j] := by simp [hj']
      have h2 := bounds_u8 (hwz _ (List.getElem_mem hj'))
      have e2 : (((zs.take len).map fun z => UInt8.ofNat z.toNat)[j]'(by rw [hlen]; exact hj)).toNat = zs[j].toNat := by
        simp only [List.getElem_map, List.getElem_take]
        rw [UInt8.toNat_ofNat']
        omega
      rw [e1, e2]
      congr 2
      omega

end Go.Proofs.Ytfhicemfhkhjaaa
