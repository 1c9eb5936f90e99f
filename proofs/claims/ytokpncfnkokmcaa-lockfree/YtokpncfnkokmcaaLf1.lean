/-
  LockFree: what its loops read.
-/
import Derived.Test.YtokpncfnkokmcaaBh1
import Derived.Test.YtokpncfnkokmcaaSetsIn
namespace Go.Proofs.Ytokpncfnkokmcaa
open Go.RowKit
set_option maxRecDepth 100000

theorem ptinfo : (Try.prog.info? 32).map (fun i => (i.zero, i.size, i.bytes)) = some (some (.pointer none), 1, 8) := by kernel_rfl
theorem pone_new (w : World) (p : Value) : ∀ j u, ([p] : List Value)[j]? = some u → (w.alloc (.cells #[p] 32)).cell? ((⟨w.heap.size, 0, none⟩ : Addr).add j) = some u := by
  intro j u hj
  match j, hj with
  | 0, hj => simp at hj; subst hj; simp [Addr.add]
  | n + 1, hj => simp at hj
theorem pone_one (a : Option Addr) : ∀ u ∈ ([.pointer a] : List Value), u.oneCell' = true := by
  intro u hu
  simp at hu
  subst hu
  rfl
theorem pc_app (B : List Nat) (b : Nat) : pc (B ++ [b]) = pc B ++ [.pointer (some ⟨b, 0, none⟩)] := by simp [pc]
theorem pc_len (B : List Nat) : (pc B).length = B.length := by simp [pc]
theorem PO.sl {w : World} {base : Nat} {v : Value} {B : List Nat} (h : PO w base v B) : ∃ ao cap, v = .slice ao B.length cap := by
  rcases h.2 with ⟨rfl, h0⟩ | ⟨g, cap, cur, rfl, _⟩
  · exact ⟨none, 0, by rw [h0]⟩
  · exact ⟨_, _, rfl⟩
theorem HM.ptrAt {w : World} {base len cap : Nat} {ao : Option Addr} {M : List Mh} {H : List Hn} (hm : HM w base (.slice ao len cap) M H) {i : Nat} {m : Mh} (h1 : M[i]? = some m) : ∃ r, ao = some ⟨r, 0, none⟩ ∧ w.cell? ⟨r, i, none⟩ = some (.pointer (some ⟨m.1, 0, none⟩)) := by
  have hc := fun g hg => World.ownsRow.cells hm.ptr (g := g) hg
  have hl := (List.getElem?_eq_some_iff.1 h1).1
  have hp : (pc (M.map (·.1)))[i]? = some (.pointer (some ⟨m.1, 0, none⟩)) := by
    unfold pc
    rw [List.map_map, List.getElem?_map, h1]
    rfl
  rcases hm.ptr.2 with ⟨_, h0⟩ | ⟨g, cap', cur, hv, _⟩
  · rw [List.length_map] at h0; omega
  · injection hv with e1 e2 e3
    refine ⟨g, e1, ?_⟩
    have := hc g (by rw [e1]; rfl) i _ hp
    rw [Addr.add_lit, Nat.zero_add] at this
    exact this
/-- a handler's stripes in memory -/
theorem HM.setAt {w : World} {base : Nat} {v : Value} {M : List Mh} {H : List Hn} (hm : HM w base v M H) {i : Nat} {m : Mh} {h : Hn} (h1 : M[i]? = some m) (h2 : H[i]? = some h) : ∃ ao cap, w.cell? ⟨m.1, 0, none⟩ = some (.slice ao h.1.length cap) ∧ ∀ k, k < h.1.length → ∃ g off, ao = some ⟨g, off, none⟩ ∧ w.cell? ⟨g, off + k, none⟩ = some (.int .i64 (ss h k)) := by
  obtain ⟨c0, _⟩ := hm.cells h1 h2
  obtain ⟨_, _, c3, _⟩ := hm.cell i m h h1 h2
  obtain ⟨ao, cap, hv, _, _, hr⟩ := c3.reads
  rw [hv] at c0
  refine ⟨ao, cap, c0, fun k hk => ?_⟩
  obtain ⟨g, off, e, e2⟩ := hr k hk
  exact ⟨g, off, e, by rw [e2, ss_at hk]⟩
theorem tmod_nat {a b l : Nat} : ((a : Int) + (b : Int)).tmod (l : Int) = (((a + b) % l : Nat) : Int) := by
  rw [Int.tmod_eq_emod_of_nonneg (by omega)]
  push_cast
  rfl
theorem all_none {n : Nat} {H : List Hn} {T : List Hd} (F : FI n H T) (f : Nat) (hf : f < H.length) (hd : ∃ (i : Nat) (h : Hn), H[i]? = some h ∧ aa h < 5 * nn h) (hc : ∀ i, i < H.length → ∀ h, H[(f + i) % H.length]? = some h → can T h = false) : False := by
  obtain ⟨i, h, e1, e2⟩ := hd
  obtain ⟨j, g, e3, e4⟩ := F.goes e1 e2
  have hj := (List.getElem?_eq_some_iff.1 e3).1
  have key : (f + (j + H.length - f) % H.length) % H.length = j := by
    by_cases c : f ≤ j
    · rw [show j + H.length - f = (j - f) + H.length by omega, Nat.add_mod_right, Nat.mod_eq_of_lt (show j - f < H.length by omega), show f + (j - f) = j by omega, Nat.mod_eq_of_lt hj]
    · rw [Nat.mod_eq_of_lt (show j + H.length - f < H.length by omega), show f + (j + H.length - f) = j + H.length by omega, Nat.add_mod_right, Nat.mod_eq_of_lt hj]
  have := hc ((j + H.length - f) % H.length) (Nat.mod_lt _ (by omega)) g (by rw [key]; exact e3)
  rw [this] at e4
  cases e4
end Go.Proofs.Ytokpncfnkokmcaa
