/-
  codec: a request with a reader.
-/
import Derived.Test.YtfhicemfhkhjaabCr4
namespace Go.Proofs.Ytfhicemfhkhjaab
open Go.RowKit
set_option maxRecDepth 100000

/-- a request's bytes behind its first byte k: the error, its place or where it ends, the request -/
def fKq (k : UInt8) (l : List UInt8) (most : Nat) : Nat × Nat × Rq :=
  match l with
  | [] => (3, 0, rq0)
  | c :: _ => if c ≠ k then (90, 0, rq0) else fRq l most 1
theorem fKq_nil (k : UInt8) (most : Nat) : fKq k [] most = (3, 0, rq0) := rfl
theorem fKq_no {k : UInt8} {l : List UInt8} {most : Nat} (h0 : 0 < l.length) (h : l[0] ≠ k) : fKq k l most = (90, 0, rq0) := by
  match l, h0, h with
  | c :: t, _, h => exact if_pos h
theorem fKq_ok {k : UInt8} {l : List UInt8} {most : Nat} (h0 : 0 < l.length) (h : l[0] = k) : fKq k l most = fRq l most 1 := by
  match l, h0, h with
  | c :: t, _, h => exact if_neg (fun e => e h)
/-- behind a request that is read into block qb -/
def Dq (rb b off cap : Nat) (l : List UInt8) (most qb : Nat) (w : World) (e : Ending) (w' : World) : Prop :=
  Tb rb qb w w' ∧ (((fKq 81 l most).1 = 0 ∧ e = .returned (.tuple #[]) ∧ RD w' rb b off cap l (fKq 81 l most).2.1 most ∧ ∃ v', w'.heap[qb]? = some (.cells (rqC (fKq 81 l most).2.2 v') 24 (0, 0)) ∧ OLn w' w.heap.size v' (fKq 81 l most).2.2.lines)
  ∨ ((fKq 81 l most).1 ≠ 0 ∧ e = flt ((fKq 81 l most).1 : Int) ((fKq 81 l most).2.1 : Int) ∧ AnyQ qb w'))
set_option maxHeartbeats 1000000 in
theorem drequest_nil (ao : Option Addr) (cap rb most qb b off : Nat) (w : World) (h : RN w rb (.slice ao 0 cap) most) (hq : w.heap[qb]? = some (.cells (rqC rq0 (.slice none 0 0)) 24 (0, 0))) :
    Calls Try.prog 32 #[ir rb, .pointer (some ⟨qb, 0, none⟩)] w fun e w' => Dq rb b off cap [] most qb w e w' := by
  have hme := mr_key
  have HK := hid (show Calls Try.prog 122 #[.pointer (some ⟨rb, 0, none⟩), .int .u8 81] w fun e w' => e = flt 3 0 ∧ w' = w from dkey_nil 81 ao cap rb most w h)
  have HQ := hid hq
  clear h hq
  go_enter Try.func32, Try.ntmps32
  go_wp2_with fail
  refine Calls.mono HK.out ?_
  rintro e w1 ⟨rfl, rfl⟩
  have HF := hid (show Dq rb b off cap [] most qb w1 (flt 3 0) w1 from ⟨Tb.drewN rb qb w1 0, .inr ⟨by rw [fKq_nil]; decide, by rw [fKq_nil]; rfl, _, _, _, _, _, _, _, _, HQ.out⟩⟩)
  go_wp2_with fail
  exact ⟨rfl, HF.out⟩
set_option maxHeartbeats 1000000 in
theorem drequest_any (qb rb b off cap most : Nat) (l : List UInt8) (w : World) (h : RN w rb (.slice (some ⟨b, off, none⟩) l.length cap) most) (hc : l.length ≤ cap) (h0 : 0 < l.length) (hne : b ≠ rb) (hb : ∀ j (hj : j < l.length), w.cell? ⟨b, off + j, none⟩ = some (.int .u8 (l[j].toNat : Int)))
    (hcp : l.length ≤ 100000000000000) (hm : most ≤ 1000000000) (hq : w.heap[qb]? = some (.cells (rqC rq0 (.slice none 0 0)) 24 (0, 0))) (hqb : qb ≠ rb ∧ qb ≠ b) :
    Calls Try.prog 32 #[ir rb, .pointer (some ⟨qb, 0, none⟩)] w fun e w' => Dq rb b off cap l most qb w e w' := by
  have hme := mr_key
  have HK := hid (show Calls Try.prog 122 #[.pointer (some ⟨rb, 0, none⟩), .int .u8 81] w fun e w' => (l[0] = 81 ∧ e = .returned (.tuple #[]) ∧ RD w' rb b off cap l 1 most ∧ w' = w.setCell ⟨rb, 1, none⟩ (.int .i64 1)) ∨ (l[0] ≠ 81 ∧ e = flt 90 0 ∧ w' = w) from dkey_any 81 rb b off cap most l w h hc h0 hne hb)
  have hbw : b < w.heap.size := World.block_lt_of_cell? _ _ (hb 0 h0)
  have HQ := hid hq
  clear h hb hq
  go_enter Try.func32, Try.ntmps32
  go_wp2_with fail
  refine Calls.mono HK.out ?_
  rintro e w1 (⟨hk, rfl, hR, hw⟩ | ⟨hk, rfl, rfl⟩)
  · have hT : Tb rb qb w w1 := by rw [hw]; exact Tb.set _ ⟨rb, 1, none⟩ _ (.inl rfl)
    have hq1 : w1.heap[qb]? = some (.cells (rqC rq0 (.slice none 0 0)) 24 (0, 0)) := by rw [hw, heap_setCell_other w ⟨rb, 1, none⟩ qb _ hqb.1]; exact HQ.out
    have HFi := hid (dfields_any qb w1 hR hcp hm hq1 hqb (by have := hT.size; omega))
    have HT := hid hT
    have HKk := hid (fKq_ok (most := most) h0 hk)
    clear hT hq1 hw hR hk HK
    go_wp2_with fail
    refine Calls.mono HFi.out ?_
    rintro e w2 ⟨ht, ⟨he, rfl, hr, v', hq2, ho⟩ | ⟨he, rfl, hq9⟩⟩
    · have HF := hid (show Dq rb b off cap l most qb w (.returned (.tuple #[])) w2 by
        unfold Dq
        rw [HKk.out]
        refine ⟨HT.out.trans ht, .inl ⟨he, rfl, hr, v', hq2, ho.1, ?_⟩⟩
        rcases ho.2 with g | ⟨x, y, z, g1, g2, g3⟩
        · exact .inl g
        · exact .inr ⟨x, y, z, g1, by have := HT.out.size; omega, g3⟩)
      clear ht hr hq2 ho
      go_wp2_with fail
      go_end0
      exact HF.out
    · have HF := hid (show Dq rb b off cap l most qb w (flt ((fRq l most 1).1 : Int) ((fRq l most 1).2.1 : Int)) w2 by
        unfold Dq
        rw [HKk.out]
        exact ⟨HT.out.trans ht, .inr ⟨he, rfl, hq9⟩⟩)
      clear ht hq9
      go_wp2_with fail
      exact ⟨rfl, HF.out⟩
  · have HF := hid (show Dq rb b off cap l most qb w1 (flt 90 0) w1 from ⟨Tb.drewN rb qb w1 0, .inr ⟨by rw [fKq_no h0 hk]; decide, by rw [fKq_no h0 hk]; rfl, _, _, _, _, _, _, _, _, HQ.out⟩⟩)
    go_wp2_with fail
    exact ⟨rfl, HF.out⟩
end Go.Proofs.Ytfhicemfhkhjaab
