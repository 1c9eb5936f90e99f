/-
  Sqc: Sheets: Feed of a new Reader.
-/
import Derived.Test.YtmgfdnccmeahjaaGreatDoorYI
namespace Go.Proofs.YtmgfdnccmeahjaaGreatDoor
open Go.RowKit
set_option maxRecDepth 100000
set_option linter.unusedVariables false
set_option linter.unusedSimpArgs false

theorem take_sz (s : Rs) (c : UInt8) (h : s.sz ≤ 262144) (hc : s.cur.length ≤ 4096) : (s.take c).sz ≤ 262144 := by
  unfold Rs.take
  split
  · exact h
  · show (s.next (some c)).sz + 1 ≤ 262144
    rw [(nxt_any s (some c) hc).sz]
    omega
theorem s0_bdd : Bdd s0 := ⟨by decide, by decide, by decide, by decide, by decide, by decide⟩
/-- bytes that lie there -/
def BsA (w : World) (g off : Nat) (L : List UInt8) : Prop := ∀ i (hi : i < L.length), w.cell? ⟨g, off + i, none⟩ = some (.int .u8 (L[i].toNat : Int))

set_option maxHeartbeats 4000000 in
theorem feed_new (A : Nat → Addr) (G : Nat → Prop) (b g cap : Nat) (L : List UInt8) (w : World) (hE : Lea A G w) (h : RZ w b) (hG : ∀ k, G k → k < w.heap.size) (hb : ¬ G b) (hg : G g) (hL : BsA w g 0 L) (hc : L.length ≤ cap) (hlen : L.length ≤ 1000000) :
    Calls Tryz.prog 50 #[.pointer (some ⟨b, 0, none⟩), .slice (some ⟨g, 0, none⟩) L.length cap] w fun e w' => ∃ tv V ev, e = .returned (.tuple #[tv, ev]) ∧ TR w' tv V (feed L s0 0).td ∧ RX A (Gs G tv V) w' b { feed L s0 0 with td := [] } ∧ Kg G w w' ∧ ∀ g, tv.ownBlock = some g → ¬ G g := by
  have c17 := h.c17
  have HB := hid (begin_new A G b w h hG hb)
  have HE := hid hE
  have HLc := hid hL
  have Hg := hid hg
  clear hE h hG hb hg hL
  go_enter Tryz.func50, Tryz.ntmps50
  go_wp2_with fail
  refine Calls.mono HB.out ?_
  rintro e w1 ⟨rfl, hx1, hk1⟩
  go_wp2_with fail
  go_loopw [6] (fun i wr => ∃ (k : Nat) (s : Rs), k ≤ L.length ∧ i = .int .i64 (k : Int) ∧ RX A G wr b s ∧ Bdd s ∧ s.sz ≤ 262144 ∧ feed L s0 0 = feed L s k ∧ Kg G w wr) (fun i _ => L.length - (intOf i).toNat)
  case atStart => exact ⟨0, s0, Nat.zero_le _, rfl, hx1, s0_bdd, by decide, rfl, hk1⟩
  case round =>
    obtain ⟨k, s, hk, rfl, hx, hbd, hsz, hfd, hkr⟩ := hrel
    have c16 : wr.cell? ⟨b, 16, none⟩ = some (erV A s.er) := by
      obtain ⟨bp, bv, cv, tv, V, hM⟩ := hx
      exact hM.top.c16
    by_cases hlt : k < L.length
    · have hI : (k : Int) < (L.length : Int) := by omega
      have hdI : decide (k < L.length) = true := by simp; exact hlt
      by_cases her : s.er = 0
      · rw [her, erV_zero] at c16
        have hcell : wr.cell? ⟨g, k, none⟩ = some (.int .u8 (L[k].toNat : Int)) := by
          have := hkr.cell (p := ⟨g, 0 + k, none⟩) Hg.out (HLc.out k hlt)
          rwa [Nat.zero_add] at this
        have hbt : bt L k = L[k] := by unfold bt; rw [List.getD_eq_getElem?_getD, List.getElem?_eq_getElem hlt]; rfl
        have HTk := hid (take_any A G b s L[k] wr (HE.out.kept hkr) hx hsz hbd)
        have HFd := hid (show feed L s0 0 = feed L (s.take L[k]) (k + 1) by rw [hfd, feed_go L s k hlt her, hbt])
        have HBd := hid (hbd.take L[k])
        have HSz := hid (take_sz s L[k] hsz hbd.cur)
        generalize L[k]'hlt = x at hcell HTk HFd HBd HSz
        clear hx hbd hsz hfd hbt
        go_wp2_with fail
        refine Calls.mono HTk.out ?_
        rintro e w2 ⟨rfl, hx2, hk2⟩
        go_wp2
        go_roundw
        case rel => exact ⟨k + 1, _, by omega, by go_num, hx2, HBd.out, HSz.out, HFd.out, hkr.trans hk2⟩
        case measure => simp [intOf]; omega
      · rw [erV_pos A her] at c16
        have HTl := hid (tell_any A G b s wr hx)
        have HFd := hid (hfd.trans (feed_er L s k her))
        clear hx hbd hsz hfd
        go_wp2_with fail
        refine Calls.mono HTl.out ?_
        rintro e w2 ⟨tv, V, ev, rfl, ht, _, hr, hk2, hnv⟩
        obtain ⟨a1, c1, rfl⟩ := own_slice ht.own
        go_wp2
        go_ret2
        rw [HFd.out]
        exact ⟨_, V, _, rfl, ht, hr, hkr.trans hk2, hnv.1⟩
    · have hI : ¬ (k : Int) < (L.length : Int) := by omega
      have hdI : decide (k < L.length) = false := by simp; omega
      have HTl := hid (tell_any A G b s wr hx)
      have HFd := hid (hfd.trans (feed_end L s k (by omega)))
      clear hx hbd hsz hfd
      go_wp2_with fail
      refine Calls.mono HTl.out ?_
      rintro e w2 ⟨tv, V, ev, rfl, ht, _, hr, hk2, hnv⟩
      obtain ⟨a1, c1, rfl⟩ := own_slice ht.own
      go_wp2
      go_ret2
      rw [HFd.out]
      exact ⟨_, V, _, rfl, ht, hr, hkr.trans hk2, hnv.1⟩
end Go.Proofs.YtmgfdnccmeahjaaGreatDoor
