/-
  Sheets: a Reader that has begun is moved, and fed.
-/
import Derived.Test.YtpgpeafmlijfkaaGreatDoorSqd9
import Derived.Test.YtpgpeafmlijfkaaGreatDoorSfg
namespace Go.Proofs.YtpgpeafmlijfkaaGreatDoor
open Go.RowKit
set_option maxRecDepth 100000
set_option linter.unusedVariables false
set_option linter.unusedSimpArgs false

/-- the Reader's own blocks lie outside of G: what turns within G, or is new, does not matter to it -/
theorem RX.move {A : Nat → Addr} {G G' : Nat → Prop} {w w' : World} {b : Nat} {s : Rs} (h : RX A G w b s) (ht : s.td = []) (hk : ∀ k, k < w.heap.size → ¬ G k → w'.heap[k]? = w.heap[k]?) (hG : ∀ k, G' k → k < w'.heap.size ∧ (G k ∨ w.heap.size ≤ k)) : RX A G' w' b s := by
  obtain ⟨bp, bv, cv, tv, V, h⟩ := h
  have hV : V = [] := List.eq_nil_of_length_eq_zero (by rw [h.rws.len, ht]; rfl)
  subst hV
  have hb : b < w.heap.size := h.top.lt
  have nw : ∀ {g : Nat}, g < w.heap.size → ¬ G g → ¬ G' g := fun hl hn hg => by
    rcases (hG _ hg).2 with h1 | h1
    · exact hn h1
    · omega
  exact ⟨bp, bv, cv, tv, [],
    { gs := fun k hk' => (hG k hk').1, nb := nw hb h.nb,
      nbv := fun g hg => nw (World.ownsRow.lt h.buf g hg).2 (h.nbv g hg),
      ncv := fun g hg => nw (World.ownsRow.lt h.cel g hg).2 (h.ncv g hg),
      ntv := fun g hg => nw (World.ownsRow.lt h.tol g hg).2 (h.ntv g hg),
      top := (hk b hb h.nb).trans h.top, bpo := h.bpo, bz := h.bz,
      buf := own_of h.buf fun g hg => hk g (World.ownsRow.lt h.buf g hg).2 (h.nbv g hg),
      cel := own_of h.cel fun g hg => hk g (World.ownsRow.lt h.cel g hg).2 (h.ncv g hg),
      tol := own_of h.tol fun g hg => hk g (World.ownsRow.lt h.tol g hg).2 (h.ntv g hg),
      rws := by rw [ht]; exact RwS.nil _, ap := by simp, vlt := by simp, dis := Dj.nil }⟩
/-- what Feed answers -/
def FeA (A : Nat → Addr) (G : Nat → Prop) (w : World) (b : Nat) (s : Rs) (e : Ending) (w' : World) : Prop :=
  ∃ tv V ev, e = .returned (.tuple #[tv, ev]) ∧ TR w' tv V s.td ∧ FT A w' ev s.er s.fp ∧ RX A (Gs G tv V) w' b { s with td := [] } ∧ Kg G w w' ∧ NvD G tv V ∧ Bdd { s with td := [] } ∧ s.sz ≤ 262144
set_option maxHeartbeats 4000000 in
theorem feed_old (A : Nat → Addr) (G : Nat → Prop) (b g cap : Nat) (s0' : Rs) (L : List UInt8) (w : World) (hE : Lea A G w) (h : RX A G w b s0') (hbd0 : Bdd s0') (hsz0 : s0'.sz ≤ 262144) (hg : G g) (hL : BsA w g 0 L) (hc : L.length ≤ cap) (hlen : L.length ≤ 140737488355328) :
    Calls Tryz.prog 13 #[.pointer (some ⟨b, 0, none⟩), .slice (some ⟨g, 0, none⟩) L.length cap] w fun e w' => FeA A G w b (feed L s0' 0) e w' := by
  have c17 := h.c17
  have HB := hid (begin_old A G b s0' w h)
  have HX := hid h
  have HE := hid hE
  have HLc := hid hL
  have Hg := hid hg
  clear hE h hg hL
  go_enter Tryz.func13, Tryz.ntmps13
  go_wp2_with fail
  refine Calls.mono HB.out ?_
  rintro e w1 ⟨rfl, hw⟩
  replace hw := hw.symm
  subst hw
  go_wp2_with fail
  go_loopw [6] (fun i wr => ∃ (k : Nat) (s : Rs), k ≤ L.length ∧ i = .int .i64 (k : Int) ∧ RX A G wr b s ∧ Bdd s ∧ s.sz ≤ 262144 ∧ feed L s0' 0 = feed L s k ∧ Kg G w wr) (fun i _ => L.length - (intOf i).toNat)
  case atStart => exact ⟨0, s0', Nat.zero_le _, rfl, HX.out, hbd0, hsz0, rfl, Kg.refl _ _⟩
  case round =>
    obtain ⟨k, s, hk, rfl, hx, hbd, hsz, hfd, hkr⟩ := hrel
    have c16 : wr.cell? ⟨b, 16, none⟩ = some (erV A s.er) := by
      obtain ⟨bp, bv, cv, tv, V, hM⟩ := hx
      exact hM.top.c16
    by_cases hlt : k < L.length
    · have hI : (k : Int) < (L.length : Int) := by omega
      have hdI : decide (k < L.length) = true := by simp; exact hlt
      by_cases her : s.er = 0
      · rw [her, erV_zero] at c16
        have hcell : wr.cell? ⟨g, k, none⟩ = some (.int .u8 (L[k].toNat : Int)) := by
          have := hkr.cell (p := ⟨g, 0 + k, none⟩) Hg.out (HLc.out k hlt)
          rwa [Nat.zero_add] at this
        have hbt : bt L k = L[k] := by unfold bt; rw [List.getD_eq_getElem?_getD, List.getElem?_eq_getElem hlt]; rfl
        have HTk := hid (take_any A G b s L[k] wr (HE.out.kept hkr) hx hsz hbd)
        have HFd := hid (show feed L s0' 0 = feed L (s.take L[k]) (k + 1) by rw [hfd, feed_go L s k hlt her, hbt])
        have HBd := hid (hbd.take L[k])
        have HSz := hid (take_sz s L[k] hsz hbd.cur)
        generalize L[k]'hlt = x at hcell HTk HFd HBd HSz
        clear hx hbd hsz hfd hbt hbd0 hsz0
        go_wp2_with fail
        refine Calls.mono HTk.out ?_
        rintro e w2 ⟨rfl, hx2, hk2⟩
        go_wp2
        go_roundw
        case rel => exact ⟨k + 1, _, by omega, by go_num, hx2, HBd.out, HSz.out, HFd.out, hkr.trans hk2⟩
        case measure => simp [intOf]; omega
      · rw [erV_pos A her] at c16
        have HTl := hid (tell_any A G b s wr hx)
        have HFd := hid (hfd.trans (feed_er L s k her))
        have HBd := hid (show Bdd { s with td := [] } from ⟨hbd.cur, hbd.cs, hbd.rw, Nat.zero_le _, hbd.l, hbd.c⟩)
        have HSz := hid hsz
        clear hx hbd hsz hfd hbd0 hsz0
        go_wp2_with fail
        refine Calls.mono HTl.out ?_
        rintro e w2 ⟨tv, V, ev, rfl, ht, hft, hr, hk2, hnv⟩
        obtain ⟨a1, c1, rfl⟩ := own_slice ht.own
        go_wp2
        go_ret2
        rw [HFd.out]
        unfold FeA
        exact ⟨_, V, _, rfl, ht, hft, hr, hkr.trans hk2, hnv, HBd.out, HSz.out⟩
    · have hI : ¬ (k : Int) < (L.length : Int) := by omega
      have hdI : decide (k < L.length) = false := by simp; omega
      have HTl := hid (tell_any A G b s wr hx)
      have HFd := hid (hfd.trans (feed_end L s k (by omega)))
      have HBd := hid (show Bdd { s with td := [] } from ⟨hbd.cur, hbd.cs, hbd.rw, Nat.zero_le _, hbd.l, hbd.c⟩)
      have HSz := hid hsz
      clear hx hbd hsz hfd hbd0 hsz0
      go_wp2_with fail
      refine Calls.mono HTl.out ?_
      rintro e w2 ⟨tv, V, ev, rfl, ht, hft, hr, hk2, hnv⟩
      obtain ⟨a1, c1, rfl⟩ := own_slice ht.own
      go_wp2
      go_ret2
      rw [HFd.out]
      unfold FeA
      exact ⟨_, V, _, rfl, ht, hft, hr, hkr.trans hk2, hnv, HBd.out, HSz.out⟩
end Go.Proofs.YtpgpeafmlijfkaaGreatDoor
