/-
  CodecRequests: the law's own walk. Laid by mkcrq.py.
-/
import Derived.Test.YtfhicemfhkhjaabKx3
namespace Go.Proofs.Ytfhicemfhkhjaab
open Go.RowKit
set_option maxRecDepth 100000

/-- each line may be -/
def LnOk (L : List Ln) : Prop := ∀ i (h : i < L.length), L[i].1.size ≤ 1000000000000 ∧ -9223372036854775808 ≤ L[i].2 ∧ L[i].2 ≤ 9223372036854775807
theorem RLn.ll {w : World} {ao : Option Addr} {n cap : Nat} {L : List Ln} (h : RLn w (.slice ao n cap) L) (hk : LnOk L) : LL w w.heap.size ao L := by
  intro i hi
  rcases h with ⟨rfl, _⟩ | ⟨b, off, cp, hv, hl, hc⟩
  · simp at hi
  · cases hv
    exact ⟨hk i hi, b, off, rfl, World.block_lt_of_cell? _ _ (hc i hi).1, (hc i hi).1, (hc i hi).2⟩
theorem lnB_len (L : List Ln) (hk : LnOk L) : (lnB L).length ≤ wl L + 20 * L.length := by
  induction L with
  | nil => simp [lnB]
  | cons x t ih =>
    have h0 := hk 0 (by simp)
    have hk' : LnOk t := fun i hi => by
      have := hk (i + 1) (by simpa using hi)
      simpa using this
    have h1 := ih hk'
    have e1 : lnB (x :: t) = ln1 x ++ lnB t := rfl
    have e2 : wl (x :: t) = 2 + x.1.size + wl t := by simp [wl]
    have g1 := grp_le x.1.size (by simp at h0; omega)
    have g2 := grp_le (foldI x.2) (foldI_lt x.2 (by simp at h0; omega) (by simp at h0; omega))
    have e3 : (ln1 x).length = (grp x.1.size).length + x.1.size + (grp (foldI x.2)).length := by
      unfold ln1
      simp only [List.length_append]
      rfl
    rw [e1, List.length_append, e2, List.length_cons, e3]
    omega
theorem rqB_len (r : Rq) (ho : RqOk r) (hk : LnOk r.lines) : (rqB r).length ≤ r.id.size + r.hold.size + wl r.lines + 20 * r.lines.length + 100 := by
  have g1 := grp_le r.id.size (by have := ho.b0; omega)
  have g2 := grp_le r.hold.size (by have := ho.b0; omega)
  have g3 := grp_le r.lines.length (by have := ho.b0; omega)
  have g4 := grp_le (foldI r.kind) (foldI_lt _ ho.b1.1 ho.b1.2)
  have g5 := grp_le (foldI r.ttl) (foldI_lt _ ho.b2.1 ho.b2.2)
  have g6 := grp_le (foldI r.now) (foldI_lt _ ho.b3.1 ho.b3.2)
  have g7 := lnB_len r.lines hk
  have e1 : r.id.data.toList.length = r.id.size := rfl
  have e2 : r.hold.data.toList.length = r.hold.size := rfl
  unfold rqB txB
  simp only [List.length_append]
  omega
theorem text_run {w : World} {v : Value} {l : List UInt8} (h : Reads w v l) : (convert 47 9 v).run Try.prog w = .ok (.string ⟨l.toArray⟩) w :=
  run_text 47 9 Try.underlying47 Try.underlying5 Try.underlying9 h
theorem fLi_len {l : List UInt8} {most i : Nat} (h : (fLi l most i).1 = 0) : (fLi l most i).2.2.length ≤ most := by
  unfold fLi at h ⊢
  split
  · rename_i h1
    rw [if_pos h1] at h
    exact (h1 h).elim
  · rename_i h1
    rw [if_neg h1] at h
    rw [fLs_len _ _ _ _ h]
    exact ct_most (Classical.byContradiction h1)
theorem rqs_lines (l : List UInt8) : (rqs l).2.2.lines.length ≤ 4096 := by
  obtain ⟨m1, m2⟩ := rqs_state l
  by_cases h : eE l (sQ l 4096 (bS 81 l 4096)) = 0
  · obtain ⟨e1, _, e3⟩ := m2 h
    rw [e1]
    show ((fRq l 4096 (bS 81 l 4096).2).2.2).lines.length ≤ 4096
    rw [fRq_val l 4096 _ e3]
    unfold sQ at e3
    exact fLi_len (sL_val (sT_up (sI_up (sI_up e3)))).1
  · rw [m1 h]
    exact Nat.zero_le _
end Go.Proofs.Ytfhicemfhkhjaab
