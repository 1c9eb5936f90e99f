/-
  Dx1: codec, the document's reader: fail, whole, text, many.
  Dx2: codec, the document's reader: text, many.
  Dx3: codec, the document's reader: where it stands; whole, text, many from any state.
  Dx4: codec, the document's reader: lines.
-/
import Derived.Test.YtfhicemfhkhjaabCr7
import Derived.Test.YtfhicemfhkhjaabCx1
import Derived.Deep.AppendLies
namespace Go.Proofs.Ytfhicemfhkhjaab
open Go.RowKit
set_option maxRecDepth 100000

/-- the document's reader in block rb -/
def RX (w : World) (rb : Nat) (v : Value) (i most er pl : Nat) : Prop :=
  w.heap[rb]? = some (.cells #[v, .int .i64 (i : Int), .int .i64 (most : Int), .int .i64 (er : Int), .int .i64 (pl : Int)] 120 (0, 0))
theorem RX.c {w : World} {rb i most er pl : Nat} {v : Value} (h : RX w rb v i most er pl) : w.cell? ⟨rb, 0, none⟩ = some v ∧ w.cell? ⟨rb, 1, none⟩ = some (.int .i64 (i : Int)) ∧ w.cell? ⟨rb, 2, none⟩ = some (.int .i64 (most : Int)) ∧ w.cell? ⟨rb, 3, none⟩ = some (.int .i64 (er : Int)) ∧ w.cell? ⟨rb, 4, none⟩ = some (.int .i64 (pl : Int)) :=
  ⟨by rw [Lib.cell_of_heap h]; rfl, by rw [Lib.cell_of_heap h]; rfl, by rw [Lib.cell_of_heap h]; rfl, by rw [Lib.cell_of_heap h]; rfl, by rw [Lib.cell_of_heap h]; rfl⟩
theorem RX.f {w : World} {rb i most er pl : Nat} {v : Value} (h : RX w rb v i most er pl) (j : Nat) : w.frozen? ⟨rb, j, none⟩ = false := Lib.frozen_of_heap h j
theorem RX.on {w : World} {rb i most er pl : Nat} {v : Value} (h : RX w rb v i most er pl) (k : Nat) : RX (w.setCell ⟨rb, 1, none⟩ (.int .i64 (k : Int))) rb v k most er pl := heap_setCell_same w rb 1 _ _ _ h
theorem RX.stop {w : World} {rb i most er pl : Nat} {v : Value} (h : RX w rb v i most er pl) (e p : Nat) : RX ((w.setCell ⟨rb, 3, none⟩ (.int .i64 (e : Int))).setCell ⟨rb, 4, none⟩ (.int .i64 (p : Int))) rb v i most e p := heap_setCell_same _ rb 4 _ _ _ (heap_setCell_same w rb 3 _ _ _ h)
theorem RX.drewN {w : World} {rb i most er pl : Nat} {v : Value} (h : RX w rb v i most er pl) (q : Nat) : RX (w.drewN q) rb v i most er pl := h
set_option maxHeartbeats 400000 in
theorem fail_new (e p : Nat) (w : World) {rb i most pl : Nat} {v : Value} (h : RX w rb v i most 0 pl) :
    Calls Try.prog 87 #[.pointer (some ⟨rb, 0, none⟩), .int .i64 (e : Int), .int .i64 (p : Int)] w fun e' w' => e' = .returned (.tuple #[]) ∧ w' = (w.setCell ⟨rb, 3, none⟩ (.int .i64 (e : Int))).setCell ⟨rb, 4, none⟩ (.int .i64 (p : Int)) := by
  obtain ⟨c0, c1, c2, c3, c4⟩ := h.c
  have f3 := h.f 3
  have f4 := h.f 4
  clear h
  go_enter Try.func87, Try.ntmps87
  go_wp2
  go_end0
  exact ⟨rfl, rfl⟩
set_option maxHeartbeats 400000 in
theorem fail_old (e p : Int) (w : World) {rb i most er pl : Nat} {v : Value} (h : RX w rb v i most er pl) (he : er ≠ 0) :
    Calls Try.prog 87 #[.pointer (some ⟨rb, 0, none⟩), .int .i64 e, .int .i64 p] w fun e' w' => e' = .returned (.tuple #[]) ∧ w' = w := by
  obtain ⟨c0, c1, c2, c3, c4⟩ := h.c
  have hb : ((er : Int) == 0) = false := by simp; omega
  clear h
  go_enter Try.func87, Try.ntmps87
  go_wp2
  go_end0
  exact ⟨rfl, rfl⟩
/-- the bytes that are read lie there, ahead of the reader -/
structure XB (w : World) (rb b off cap : Nat) (l : List UInt8) : Prop where
  room : l.length ≤ cap
  lt : b < rb
  few : l.length ≤ 100000000000000
  bytes : ∀ j (hj : j < l.length), w.cell? ⟨b, off + j, none⟩ = some (.int .u8 (l[j].toNat : Int))
/-- the value of the bytes -/
def bv (b off cap n : Nat) : Value := .slice (some ⟨b, off, none⟩) n cap
/-- behind a read of the document's: it went on, or stands -/
def Xp (rb i err took : Nat) (u z : Value) (w : World) (e : Ending) (w' : World) : Prop :=
  ∃ q, (err = 0 ∧ e = .returned u ∧ w' = (w.drewN q).setCell ⟨rb, 1, none⟩ (.int .i64 ((i + took : Nat) : Int))) ∨ (err ≠ 0 ∧ e = .returned z ∧ w' = ((w.drewN q).setCell ⟨rb, 3, none⟩ (.int .i64 (err : Int))).setCell ⟨rb, 4, none⟩ (.int .i64 ((i + took : Nat) : Int)))
theorem wrap_sum (i t : Nat) : ((i + t : Nat) : Int) = (i : Int) + (t : Int) := by omega
set_option maxHeartbeats 1000000 in
theorem xwhole_go (w : World) {rb b off cap i most : Nat} {l : List UInt8} (h : RX w rb (bv b off cap l.length) i most 0 0) (hx : XB w rb b off cap l) (hi : i ≤ l.length) :
    Calls Try.prog 65 #[.pointer (some ⟨rb, 0, none⟩)] w fun e w' => Xp rb i (rd (l.drop i) 0 0).2.2 (rd (l.drop i) 0 0).2.1 (.int .i64 (unfI (rd (l.drop i) 0 0).1)) (.int .i64 0) w e w' := by
  obtain ⟨c0, c1, c2, c3, c4⟩ := h.c
  have hle := rd_le (l.drop i) 0 0
  have hdl : (l.drop i).length ≤ l.length := by rw [List.length_drop]; omega
  have hfw := hx.few
  have HIn0 := hid (fun q => refInt_any (rv b off cap l.length i) (l.drop i) (w.drewN q) (drop_reads (w := w.drewN q) hi hx.room hx.bytes) (by omega))
  unfold intV at HIn0
  generalize rd (l.drop i) 0 0 = R at *
  obtain ⟨n0, t, er⟩ := R
  simp only at *
  generalize unfI n0 = n at *
  have H := hid h
  have h1 : (i : Int) ≤ (l.length : Int) := by omega
  have h2 : (l.length : Int) ≤ (cap : Int) := by have := hx.room; omega
  have h4 := hx.room
  have ht : t ≤ 100000000000000 := by omega
  have hi2 : i ≤ 100000000000000 := by omega
  have hsum := wrap_sum i t
  unfold rv at HIn0
  clear h c4 hdl hle hfw
  unfold bv at c0
  go_enter Try.func65, Try.ntmps65
  by_cases hci : cap = i
  · rw [if_pos hci] at HIn0
    subst hci
    rw [show l.length - cap = 0 by omega, Nat.sub_self] at HIn0
    go_wp2_with fail
    go_quiet (first | (go_at_call 88; exact Calls.quiet_of_same (HIn0.out _)))
    by_cases he : er = 0
    · subst he
      have c1' : (w.drewN nq).cell? ⟨rb, 1, none⟩ = some (.int .i64 (cap : Int)) := c1
      have f1 : (w.drewN nq).frozen? ⟨rb, 1, none⟩ = false := H.out.f 1
      clear c1 HIn0
      go_wp2_with fail
      go_ret
      exact ⟨nq, .inl ⟨rfl, rfl, by rw [hsum]⟩⟩
    · have hb : ((er : Int) == 0) = false := by simp; omega
      have HE := hid he
      have HF := hid (fail_new er (cap + t) (w.drewN nq) (H.out.drewN nq))
      rw [hsum] at HF
      have c1' : (w.drewN nq).cell? ⟨rb, 1, none⟩ = some (.int .i64 (cap : Int)) := c1
      clear c1 HIn0 he
      go_wp2_with fail
      refine Calls.mono HF.out ?_
      rintro e w3 ⟨rfl, rfl⟩
      go_wp2_with fail
      go_ret
      exact ⟨nq, .inr ⟨HE.out, rfl, by rw [hsum]⟩⟩
  · rw [if_neg hci] at HIn0
    go_wp2_with fail
    go_quiet (first | (go_at_call 88; exact Calls.quiet_of_same (HIn0.out _)))
    by_cases he : er = 0
    · subst he
      have c1' : (w.drewN nq).cell? ⟨rb, 1, none⟩ = some (.int .i64 (i : Int)) := c1
      have f1 : (w.drewN nq).frozen? ⟨rb, 1, none⟩ = false := H.out.f 1
      clear c1 HIn0
      go_wp2_with fail
      go_ret
      exact ⟨nq, .inl ⟨rfl, rfl, by rw [hsum]⟩⟩
    · have hb : ((er : Int) == 0) = false := by simp; omega
      have HE := hid he
      have HF := hid (fail_new er (i + t) (w.drewN nq) (H.out.drewN nq))
      rw [hsum] at HF
      have c1' : (w.drewN nq).cell? ⟨rb, 1, none⟩ = some (.int .i64 (i : Int)) := c1
      clear c1 HIn0 he
      go_wp2_with fail
      refine Calls.mono HF.out ?_
      rintro e w3 ⟨rfl, rfl⟩
      go_wp2_with fail
      go_ret
      exact ⟨nq, .inr ⟨HE.out, rfl, by rw [hsum]⟩⟩
end Go.Proofs.Ytfhicemfhkhjaab

namespace Go.Proofs.Ytfhicemfhkhjaab
open Go.RowKit
set_option maxRecDepth 100000

set_option maxHeartbeats 1000000 in
theorem xtext_go (w : World) {rb b off cap i most : Nat} {l : List UInt8} (h : RX w rb (bv b off cap l.length) i most 0 0) (hx : XB w rb b off cap l) (hi : i ≤ l.length) (hm : most ≤ 1000000000) :
    Calls Try.prog 68 #[.pointer (some ⟨rb, 0, none⟩)] w fun e w' => Xp rb i (tx (l.drop i) most).2.2 (tx (l.drop i) most).2.1 (.string ⟨(tx (l.drop i) most).1.toArray⟩) (.string ⟨#[]⟩) w e w' := by
  obtain ⟨c0, c1, c2, c3, c4⟩ := h.c
  have hle := tx_le (l.drop i) most
  have hdl : (l.drop i).length ≤ l.length := by rw [List.length_drop]; omega
  have hfw := hx.few
  have HIn0 := hid (fun q => refText_any (rv b off cap l.length i) (l.drop i) (most : Int) (w.drewN q) (drop_reads (w := w.drewN q) hi hx.room hx.bytes) (by omega) (by omega) (by omega))
  rw [txV_tx] at HIn0
  generalize tx (l.drop i) most = R at *
  obtain ⟨n0, t, er⟩ := R
  simp only at *
  have H := hid h
  have h1 : (i : Int) ≤ (l.length : Int) := by omega
  have h2 : (l.length : Int) ≤ (cap : Int) := by have := hx.room; omega
  have h4 := hx.room
  have ht : t ≤ 100000000000000 := by omega
  have hi2 : i ≤ 100000000000000 := by omega
  have hsum := wrap_sum i t
  unfold rv at HIn0
  clear h c4 hdl hle hfw
  unfold bv at c0
  go_enter Try.func68, Try.ntmps68
  by_cases hci : cap = i
  · rw [if_pos hci] at HIn0
    subst hci
    rw [show l.length - cap = 0 by omega, Nat.sub_self] at HIn0
    go_wp2_with fail
    go_quiet (first | (go_at_call 90; exact Calls.quiet_of_same (HIn0.out _)))
    by_cases he : er = 0
    · subst he
      have c1' : (w.drewN nq).cell? ⟨rb, 1, none⟩ = some (.int .i64 (cap : Int)) := c1
      have f1 : (w.drewN nq).frozen? ⟨rb, 1, none⟩ = false := H.out.f 1
      clear c1 HIn0
      go_wp2_with fail
      go_ret
      exact ⟨nq, .inl ⟨rfl, rfl, by rw [hsum]⟩⟩
    · have hb : ((er : Int) == 0) = false := by simp; omega
      have HE := hid he
      have HF := hid (fail_new er (cap + t) (w.drewN nq) (H.out.drewN nq))
      rw [hsum] at HF
      have c1' : (w.drewN nq).cell? ⟨rb, 1, none⟩ = some (.int .i64 (cap : Int)) := c1
      clear c1 HIn0 he
      go_wp2_with fail
      refine Calls.mono HF.out ?_
      rintro e w3 ⟨rfl, rfl⟩
      go_wp2_with fail
      go_ret
      exact ⟨nq, .inr ⟨HE.out, rfl, by rw [hsum]⟩⟩
  · rw [if_neg hci] at HIn0
    go_wp2_with fail
    go_quiet (first | (go_at_call 90; exact Calls.quiet_of_same (HIn0.out _)))
    by_cases he : er = 0
    · subst he
      have c1' : (w.drewN nq).cell? ⟨rb, 1, none⟩ = some (.int .i64 (i : Int)) := c1
      have f1 : (w.drewN nq).frozen? ⟨rb, 1, none⟩ = false := H.out.f 1
      clear c1 HIn0
      go_wp2_with fail
      go_ret
      exact ⟨nq, .inl ⟨rfl, rfl, by rw [hsum]⟩⟩
    · have hb : ((er : Int) == 0) = false := by simp; omega
      have HE := hid he
      have HF := hid (fail_new er (i + t) (w.drewN nq) (H.out.drewN nq))
      rw [hsum] at HF
      have c1' : (w.drewN nq).cell? ⟨rb, 1, none⟩ = some (.int .i64 (i : Int)) := c1
      clear c1 HIn0 he
      go_wp2_with fail
      refine Calls.mono HF.out ?_
      rintro e w3 ⟨rfl, rfl⟩
      go_wp2_with fail
      go_ret
      exact ⟨nq, .inr ⟨HE.out, rfl, by rw [hsum]⟩⟩
set_option maxHeartbeats 1000000 in
theorem xmany_go (w : World) {rb b off cap i most : Nat} {l : List UInt8} (h : RX w rb (bv b off cap l.length) i most 0 0) (hx : XB w rb b off cap l) (hi : i ≤ l.length) (hm : most ≤ 1000000000) :
    Calls Try.prog 67 #[.pointer (some ⟨rb, 0, none⟩)] w fun e w' => Xp rb i (ct (l.drop i) most).2.2 (ct (l.drop i) most).2.1 (.int .i64 ((ct (l.drop i) most).1 : Int)) (.int .i64 0) w e w' := by
  obtain ⟨c0, c1, c2, c3, c4⟩ := h.c
  have hle := rd_le (l.drop i) 0 0
  have hdl : (l.drop i).length ≤ l.length := by rw [List.length_drop]; omega
  have hfw := hx.few
  have HIn0 := hid (fun q => refUint_any (rv b off cap l.length i) (l.drop i) (w.drewN q) (drop_reads (w := w.drewN q) hi hx.room hx.bytes) (by omega))
  unfold rdV at HIn0
  have hzr := rd_zero (l.drop i) 0 0
  have hc1 : most < (rd (l.drop i) 0 0).1 → ct (l.drop i) most = ((rd (l.drop i) 0 0).1, 0, 91) := fun h => if_pos h
  have hc2 : ¬ most < (rd (l.drop i) 0 0).1 → ct (l.drop i) most = rd (l.drop i) 0 0 := fun h => if_neg h
  generalize ct (l.drop i) most = C at *
  generalize rd (l.drop i) 0 0 = R at *
  obtain ⟨n, t, er⟩ := R
  simp only at *
  have H := hid h
  have h1 : (i : Int) ≤ (l.length : Int) := by omega
  have h2 : (l.length : Int) ≤ (cap : Int) := by have := hx.room; omega
  have h4 := hx.room
  have ht : t ≤ 100000000000000 := by omega
  have hi2 : i ≤ 100000000000000 := by omega
  have hsum := wrap_sum i t
  have HZr := hid hzr
  have HC1 := hid hc1
  have HC2 := hid hc2
  clear hzr hc1 hc2
  unfold rv at HIn0
  clear h c4 hdl hle hfw
  unfold bv at c0
  go_enter Try.func67, Try.ntmps67
  by_cases hci : cap = i
  · rw [if_pos hci] at HIn0
    subst hci
    rw [show l.length - cap = 0 by omega, Nat.sub_self] at HIn0
    go_wp2_with fail
    go_quiet (first | (go_at_call 89; exact Calls.quiet_of_same (HIn0.out _)))
    by_cases he : er = 0
    · subst he
      have c1' : (w.drewN nq).cell? ⟨rb, 1, none⟩ = some (.int .i64 (cap : Int)) := c1
      have c2' : (w.drewN nq).cell? ⟨rb, 2, none⟩ = some (.int .i64 (most : Int)) := c2
      have f1 : (w.drewN nq).frozen? ⟨rb, 1, none⟩ = false := H.out.f 1
      by_cases hn : most < n
      · have HN := hid hn
        have hI : (most : Int) < (n : Int) := by omega
        have HF := hid (fail_new 91 (cap + 0) (w.drewN nq) (H.out.drewN nq))
        rw [Nat.add_zero] at HF
        clear c1 c2 HIn0 hn
        go_wp2_with fail
        refine Calls.mono HF.out ?_
        rintro e w3 ⟨rfl, rfl⟩
        go_wp2_with fail
        go_ret
        rw [HC1.out HN.out]
        exact ⟨nq, .inr ⟨show (91 : Nat) ≠ 0 by omega, rfl, rfl⟩⟩
      · have HN := hid hn
        have hI : ¬ (most : Int) < (n : Int) := by omega
        have hn2 : (n : Int) ≤ 1000000000 := by omega
        clear c1 c2 HIn0 hn
        go_wp2_with fail
        go_ret
        rw [HC2.out HN.out]
        exact ⟨nq, .inl ⟨rfl, rfl, by rw [hsum]⟩⟩
    · have hb : ((er : Int) == 0) = false := by simp; omega
      have HE := hid he
      have hn0 : ¬ most < n := by have := HZr.out he; omega
      have HN := hid hn0
      have HF := hid (fail_new er (cap + t) (w.drewN nq) (H.out.drewN nq))
      rw [hsum] at HF
      have c1' : (w.drewN nq).cell? ⟨rb, 1, none⟩ = some (.int .i64 (cap : Int)) := c1
      clear c1 c2 HIn0 he hn0
      go_wp2_with fail
      refine Calls.mono HF.out ?_
      rintro e w3 ⟨rfl, rfl⟩
      go_wp2_with fail
      go_ret
      rw [HC2.out HN.out]
      exact ⟨nq, .inr ⟨HE.out, rfl, by rw [hsum]⟩⟩
  · rw [if_neg hci] at HIn0
    go_wp2_with fail
    go_quiet (first | (go_at_call 89; exact Calls.quiet_of_same (HIn0.out _)))
    by_cases he : er = 0
    · subst he
      have c1' : (w.drewN nq).cell? ⟨rb, 1, none⟩ = some (.int .i64 (i : Int)) := c1
      have c2' : (w.drewN nq).cell? ⟨rb, 2, none⟩ = some (.int .i64 (most : Int)) := c2
      have f1 : (w.drewN nq).frozen? ⟨rb, 1, none⟩ = false := H.out.f 1
      by_cases hn : most < n
      · have HN := hid hn
        have hI : (most : Int) < (n : Int) := by omega
        have HF := hid (fail_new 91 (i + 0) (w.drewN nq) (H.out.drewN nq))
        rw [Nat.add_zero] at HF
        clear c1 c2 HIn0 hn
        go_wp2_with fail
        refine Calls.mono HF.out ?_
        rintro e w3 ⟨rfl, rfl⟩
        go_wp2_with fail
        go_ret
        rw [HC1.out HN.out]
        exact ⟨nq, .inr ⟨show (91 : Nat) ≠ 0 by omega, rfl, rfl⟩⟩
      · have HN := hid hn
        have hI : ¬ (most : Int) < (n : Int) := by omega
        have hn2 : (n : Int) ≤ 1000000000 := by omega
        clear c1 c2 HIn0 hn
        go_wp2_with fail
        go_ret
        rw [HC2.out HN.out]
        exact ⟨nq, .inl ⟨rfl, rfl, by rw [hsum]⟩⟩
    · have hb : ((er : Int) == 0) = false := by simp; omega
      have HE := hid he
      have hn0 : ¬ most < n := by have := HZr.out he; omega
      have HN := hid hn0
      have HF := hid (fail_new er (i + t) (w.drewN nq) (H.out.drewN nq))
      rw [hsum] at HF
      have c1' : (w.drewN nq).cell? ⟨rb, 1, none⟩ = some (.int .i64 (i : Int)) := c1
      clear c1 c2 HIn0 he hn0
      go_wp2_with fail
      refine Calls.mono HF.out ?_
      rintro e w3 ⟨rfl, rfl⟩
      go_wp2_with fail
      go_ret
      rw [HC2.out HN.out]
      exact ⟨nq, .inr ⟨HE.out, rfl, by rw [hsum]⟩⟩
end Go.Proofs.Ytfhicemfhkhjaab

namespace Go.Proofs.Ytfhicemfhkhjaab
open Go.RowKit
set_option maxRecDepth 100000

/-- the document's reader in state s: an error and its place, or no error and the next place -/
def XS (w : World) (rb : Nat) (v : Value) (l : List UInt8) (most : Nat) (s : Nat × Nat) : Prop :=
  (s.1 = 0 ∧ ∃ b off cap, v = bv b off cap l.length ∧ RX w rb v s.2 most 0 0 ∧ XB w rb b off cap l ∧ s.2 ≤ l.length) ∨
  (s.1 ≠ 0 ∧ ∃ i, RX w rb v i most s.1 s.2)
theorem XB.keep {w w' : World} {rb b off cap : Nat} {l : List UInt8} (h : XB w rb b off cap l) (hk : ∀ k, k < rb → w'.heap[k]? = w.heap[k]?) : XB w' rb b off cap l :=
  ⟨h.room, h.lt, h.few, fun j hj => (World.cell?_of_block (hk b h.lt)).trans (h.bytes j hj)⟩
theorem XS.keep {w w' : World} {rb most : Nat} {v : Value} {l : List UInt8} {s : Nat × Nat} (h : XS w rb v l most s) (hk : ∀ k, k ≤ rb → w'.heap[k]? = w.heap[k]?) : XS w' rb v l most s := by
  rcases h with ⟨h0, b, off, cap, hv, hr, hx, hi⟩ | ⟨h0, i, hr⟩
  · exact .inl ⟨h0, b, off, cap, hv, (hk rb (Nat.le_refl _)).trans hr, hx.keep (fun k hk2 => hk k (by omega)), hi⟩
  · exact .inr ⟨h0, i, (hk rb (Nat.le_refl _)).trans hr⟩
theorem XS.lt {w : World} {rb most : Nat} {v : Value} {l : List UInt8} {s : Nat × Nat} (h : XS w rb v l most s) : rb < w.heap.size := by
  rcases h with ⟨h0, b, off, cap, hv, hr, hx, hi⟩ | ⟨h0, i, hr⟩
  · exact (Array.getElem?_eq_some_iff.1 hr).1
  · exact (Array.getElem?_eq_some_iff.1 hr).1
theorem XS.e {w : World} {rb most : Nat} {v : Value} {l : List UInt8} {s : Nat × Nat} (h : XS w rb v l most s) : w.cell? ⟨rb, 3, none⟩ = some (.int .i64 (s.1 : Int)) := by
  rcases h with ⟨h0, b, off, cap, hv, hr, hx, hi⟩ | ⟨h0, i, hr⟩
  · rw [h0]; exact hr.c.2.2.2.1
  · exact hr.c.2.2.2.1
theorem XS.below {w w' : World} {rb most : Nat} {v : Value} {l : List UInt8} {s : Nat × Nat} (h : XS w rb v l most s) (hb : Below w.heap.size w w') : XS w' rb v l most s := h.keep (fun k hk => hb.block k (by have := h.lt; omega))
theorem XS.set {w : World} {rb most g j : Nat} {u : Value} {v : Value} {l : List UInt8} {s : Nat × Nat} (h : XS w rb v l most s) (hg : rb < g) : XS (w.setCell ⟨g, j, none⟩ u) rb v l most s := h.keep (fun k hk => heap_setCell_other w ⟨g, j, none⟩ k u (by show k ≠ g; omega))
theorem Xp.st {w w' : World} {rb b off cap i most err took : Nat} {u z : Value} {l : List UInt8} {e : Ending} (h : Xp rb i err took u z w e w') (hr : RX w rb (bv b off cap l.length) i most 0 0) (hx : XB w rb b off cap l) (hi : i + took ≤ l.length) :
    e = .returned (if err = 0 then u else z) ∧ XS w' rb (bv b off cap l.length) l most (err, i + took) ∧ Tb rb rb w w' := by
  obtain ⟨q, ⟨h0, rfl, rfl⟩ | ⟨h0, rfl, rfl⟩⟩ := h
  · refine ⟨by rw [if_pos h0], .inl ⟨h0, b, off, cap, rfl, (hr.drewN q).on (i + took), hx.keep (fun k hk => heap_setCell_other (w.drewN q) ⟨rb, 1, none⟩ k _ (by show k ≠ rb; omega)), hi⟩, (Tb.drewN rb rb w q).trans (Tb.set _ ⟨rb, 1, none⟩ _ (.inl rfl))⟩
  · refine ⟨by rw [if_neg h0], .inr ⟨h0, i, (hr.drewN q).stop err (i + took)⟩, ((Tb.drewN rb rb w q).trans (Tb.set _ ⟨rb, 3, none⟩ _ (.inl rfl))).trans (Tb.set _ ⟨rb, 4, none⟩ _ (.inl rfl))⟩
set_option maxHeartbeats 400000 in
theorem xwhole_no (w : World) {rb i most er pl : Nat} {v : Value} (h : RX w rb v i most er pl) (he : er ≠ 0) :
    Calls Try.prog 65 #[.pointer (some ⟨rb, 0, none⟩)] w fun e w' => e = .returned (.int .i64 0) ∧ w' = w := by
  obtain ⟨c0, c1, c2, c3, c4⟩ := h.c
  have hb : ((er : Int) == 0) = false := by simp; omega
  clear h
  go_enter Try.func65, Try.ntmps65
  go_wp2
  go_ret
  exact ⟨rfl, rfl⟩
set_option maxHeartbeats 400000 in
theorem xtext_no (w : World) {rb i most er pl : Nat} {v : Value} (h : RX w rb v i most er pl) (he : er ≠ 0) :
    Calls Try.prog 68 #[.pointer (some ⟨rb, 0, none⟩)] w fun e w' => e = .returned (.string ⟨#[]⟩) ∧ w' = w := by
  obtain ⟨c0, c1, c2, c3, c4⟩ := h.c
  have hb : ((er : Int) == 0) = false := by simp; omega
  clear h
  go_enter Try.func68, Try.ntmps68
  go_wp2
  go_ret
  exact ⟨rfl, rfl⟩
set_option maxHeartbeats 400000 in
theorem xmany_no (w : World) {rb i most er pl : Nat} {v : Value} (h : RX w rb v i most er pl) (he : er ≠ 0) :
    Calls Try.prog 67 #[.pointer (some ⟨rb, 0, none⟩)] w fun e w' => e = .returned (.int .i64 0) ∧ w' = w := by
  obtain ⟨c0, c1, c2, c3, c4⟩ := h.c
  have hb : ((er : Int) == 0) = false := by simp; omega
  clear h
  go_enter Try.func67, Try.ntmps67
  go_wp2
  go_ret
  exact ⟨rfl, rfl⟩
/-- the state behind an int, a text, a list's number; what is answered -/
def sI (l : List UInt8) (s : Nat × Nat) : Nat × Nat := if s.1 ≠ 0 then s else ((fIn l s.2).1, (fIn l s.2).2.1)
def vI (l : List UInt8) (s : Nat × Nat) : Int := if s.1 ≠ 0 then 0 else if (fIn l s.2).1 = 0 then (fIn l s.2).2.2 else 0
def sT (l : List UInt8) (most : Nat) (s : Nat × Nat) : Nat × Nat := if s.1 ≠ 0 then s else ((fTx l most s.2).1, (fTx l most s.2).2.1)
def vT (l : List UInt8) (most : Nat) (s : Nat × Nat) : ByteArray := if s.1 ≠ 0 then ⟨#[]⟩ else if (fTx l most s.2).1 = 0 then (fTx l most s.2).2.2 else ⟨#[]⟩
def sC (l : List UInt8) (most : Nat) (s : Nat × Nat) : Nat × Nat := if s.1 ≠ 0 then s else ((ct (l.drop s.2) most).2.2, s.2 + (ct (l.drop s.2) most).2.1)
def vC (l : List UInt8) (most : Nat) (s : Nat × Nat) : Nat := if s.1 ≠ 0 then 0 else if (ct (l.drop s.2) most).2.2 = 0 then (ct (l.drop s.2) most).1 else 0
theorem sI_ok {l : List UInt8} {s : Nat × Nat} (h : s.1 = 0) : sI l s = ((fIn l s.2).1, (fIn l s.2).2.1) := if_neg (fun e => e h)
theorem sI_no {l : List UInt8} {s : Nat × Nat} (h : s.1 ≠ 0) : sI l s = s := if_pos h
theorem vI_ok {l : List UInt8} {s : Nat × Nat} (h : s.1 = 0) : vI l s = if (fIn l s.2).1 = 0 then (fIn l s.2).2.2 else 0 := if_neg (fun e => e h)
theorem vI_no {l : List UInt8} {s : Nat × Nat} (h : s.1 ≠ 0) : vI l s = 0 := if_pos h
theorem sT_ok {l : List UInt8} {most : Nat} {s : Nat × Nat} (h : s.1 = 0) : sT l most s = ((fTx l most s.2).1, (fTx l most s.2).2.1) := if_neg (fun e => e h)
theorem sT_no {l : List UInt8} {most : Nat} {s : Nat × Nat} (h : s.1 ≠ 0) : sT l most s = s := if_pos h
theorem vT_ok {l : List UInt8} {most : Nat} {s : Nat × Nat} (h : s.1 = 0) : vT l most s = if (fTx l most s.2).1 = 0 then (fTx l most s.2).2.2 else ⟨#[]⟩ := if_neg (fun e => e h)
theorem vT_no {l : List UInt8} {most : Nat} {s : Nat × Nat} (h : s.1 ≠ 0) : vT l most s = ⟨#[]⟩ := if_pos h
theorem sC_ok {l : List UInt8} {most : Nat} {s : Nat × Nat} (h : s.1 = 0) : sC l most s = ((ct (l.drop s.2) most).2.2, s.2 + (ct (l.drop s.2) most).2.1) := if_neg (fun e => e h)
theorem sC_no {l : List UInt8} {most : Nat} {s : Nat × Nat} (h : s.1 ≠ 0) : sC l most s = s := if_pos h
theorem vC_ok {l : List UInt8} {most : Nat} {s : Nat × Nat} (h : s.1 = 0) : vC l most s = if (ct (l.drop s.2) most).2.2 = 0 then (ct (l.drop s.2) most).1 else 0 := if_neg (fun e => e h)
theorem vC_no {l : List UInt8} {most : Nat} {s : Nat × Nat} (h : s.1 ≠ 0) : vC l most s = 0 := if_pos h
theorem ite_int {c : Prop} [Decidable c] (a b : Int) : (if c then (Value.int .i64 a) else .int .i64 b) = .int .i64 (if c then a else b) := by split <;> rfl
theorem ite_str {c : Prop} [Decidable c] (a b : ByteArray) : (if c then (Value.string a) else .string b) = .string (if c then a else b) := by split <;> rfl
theorem xwhole_any (w : World) {rb most : Nat} {v : Value} {l : List UInt8} {s : Nat × Nat} (h : XS w rb v l most s) :
    Calls Try.prog 65 #[.pointer (some ⟨rb, 0, none⟩)] w fun e w' => e = .returned (.int .i64 (vI l s)) ∧ XS w' rb v l most (sI l s) ∧ Tb rb rb w w' := by
  rcases h with ⟨h0, b, off, cap, rfl, hr, hx, hi⟩ | ⟨h0, i, hr⟩
  · refine (xwhole_go w hr hx hi).mono fun e w' hp => ?_
    obtain ⟨h1, h2, h3⟩ := hp.st hr hx (at_le hi (by have := rd_le (l.drop s.2) 0 0; omega))
    rw [vI_ok h0, sI_ok h0]
    exact ⟨h1.trans (by rw [ite_int]; rfl), h2, h3⟩
  · refine (xwhole_no w hr h0).mono fun e w' ⟨h1, h2⟩ => ?_
    subst h2
    rw [vI_no h0, sI_no h0]
    exact ⟨h1, .inr ⟨h0, i, hr⟩, Tb.drewN rb rb w' 0⟩
theorem xtext_any (w : World) {rb most : Nat} {v : Value} {l : List UInt8} {s : Nat × Nat} (h : XS w rb v l most s) (hm : most ≤ 1000000000) :
    Calls Try.prog 68 #[.pointer (some ⟨rb, 0, none⟩)] w fun e w' => e = .returned (.string (vT l most s)) ∧ XS w' rb v l most (sT l most s) ∧ Tb rb rb w w' := by
  rcases h with ⟨h0, b, off, cap, rfl, hr, hx, hi⟩ | ⟨h0, i, hr⟩
  · refine (xtext_go w hr hx hi hm).mono fun e w' hp => ?_
    obtain ⟨h1, h2, h3⟩ := hp.st hr hx (at_le hi (tx_le (l.drop s.2) most))
    rw [vT_ok h0, sT_ok h0]
    exact ⟨h1.trans (by rw [ite_str]; rfl), h2, h3⟩
  · refine (xtext_no w hr h0).mono fun e w' ⟨h1, h2⟩ => ?_
    subst h2
    rw [vT_no h0, sT_no h0]
    exact ⟨h1, .inr ⟨h0, i, hr⟩, Tb.drewN rb rb w' 0⟩
theorem xmany_any (w : World) {rb most : Nat} {v : Value} {l : List UInt8} {s : Nat × Nat} (h : XS w rb v l most s) (hm : most ≤ 1000000000) :
    Calls Try.prog 67 #[.pointer (some ⟨rb, 0, none⟩)] w fun e w' => e = .returned (.int .i64 (vC l most s : Nat)) ∧ XS w' rb v l most (sC l most s) ∧ Tb rb rb w w' := by
  rcases h with ⟨h0, b, off, cap, rfl, hr, hx, hi⟩ | ⟨h0, i, hr⟩
  · refine (xmany_go w hr hx hi hm).mono fun e w' hp => ?_
    obtain ⟨h1, h2, h3⟩ := hp.st hr hx (at_le hi (ct_le (l.drop s.2) most))
    rw [vC_ok h0, sC_ok h0]
    refine ⟨h1.trans ?_, h2, h3⟩
    rw [ite_int]
    split <;> rfl
  · refine (xmany_no w hr h0).mono fun e w' ⟨h1, h2⟩ => ?_
    subst h2
    rw [vC_no h0, sC_no h0]
    exact ⟨h1, .inr ⟨h0, i, hr⟩, Tb.drewN rb rb w' 0⟩
end Go.Proofs.Ytfhicemfhkhjaab

namespace Go.Proofs.Ytfhicemfhkhjaab
open Go.RowKit
set_option maxRecDepth 100000

theorem fLs_step (l : List UInt8) (most i j : Nat) (h : (fLs l most i j).1 = 0) :
    ((fLs l most i (j + 1)).1, (fLs l most i (j + 1)).2.1) = sI l (sT l most (0, (fLs l most i j).2.1)) ∧ ((fLs l most i (j + 1)).1 = 0 → (fLs l most i (j + 1)).2.2 = (fLs l most i j).2.2 ++ [(vT l most (0, (fLs l most i j).2.1), vI l (sT l most (0, (fLs l most i j).2.1)))]) := by
  have e : fLs l most i (j + 1) = if (fLn l most (fLs l most i j).2.1).1 ≠ 0 then ((fLn l most (fLs l most i j).2.1).1, (fLn l most (fLs l most i j).2.1).2.1, []) else (0, (fLn l most (fLs l most i j).2.1).2.1, (fLs l most i j).2.2 ++ [(⟨(fLn l most (fLs l most i j).2.1).2.2.1.toArray⟩, (fLn l most (fLs l most i j).2.1).2.2.2)]) := if_neg (fun e => e h)
  rw [e]
  generalize (fLs l most i j).2.1 = p at *
  generalize (fLs l most i j).2.2 = L at *
  have s1 : sT l most (0, p) = ((fTx l most p).1, (fTx l most p).2.1) := sT_ok rfl
  by_cases ht : (tx (l.drop p) most).2.2 = 0
  · have eL := fLn_ok (i := p) ht
    rw [s1, sI_ok (show ((fTx l most p).1, (fTx l most p).2.1).1 = 0 from ht), vI_ok (show ((fTx l most p).1, (fTx l most p).2.1).1 = 0 from ht), vT_ok (show ((0, p) : Nat × Nat).1 = 0 from rfl), if_pos (show (fTx l most (0, p).2).1 = 0 from ht), eL]
    by_cases hr : (rd (l.drop (p + (tx (l.drop p) most).2.1)) 0 0).2.2 = 0
    · rw [if_neg (fun e => e hr), if_pos (show (fIn l ((fTx l most p).1, (fTx l most p).2.1).2).1 = 0 from hr)]
      exact ⟨Prod.ext hr.symm rfl, fun _ => rfl⟩
    · rw [if_pos hr]
      exact ⟨rfl, fun e => (hr e).elim⟩
  · have eL := fLn_no (i := p) ht
    rw [s1, sI_no (show ((fTx l most p).1, (fTx l most p).2.1).1 ≠ 0 from ht), eL, if_pos ht]
    exact ⟨rfl, fun e => (ht e).elim⟩
theorem ct_most {d : List UInt8} {most : Nat} (h : (ct d most).2.2 = 0) : (ct d most).1 ≤ most := by
  unfold ct at h ⊢
  split
  · rename_i h1
    rw [if_pos h1] at h
    cases h
  · omega
/-- the state behind a list of lines -/
def sL (l : List UInt8) (most : Nat) (s : Nat × Nat) : Nat × Nat := if s.1 ≠ 0 then s else ((fLi l most s.2).1, (fLi l most s.2).2.1)
theorem sL_ok {l : List UInt8} {most : Nat} {s : Nat × Nat} (h : s.1 = 0) : sL l most s = ((fLi l most s.2).1, (fLi l most s.2).2.1) := if_neg (fun e => e h)
theorem sL_no {l : List UInt8} {most : Nat} {s : Nat × Nat} (h : s.1 ≠ 0) : sL l most s = s := if_pos h
/-- behind a list of lines -/
def Xl (rb : Nat) (v : Value) (l : List UInt8) (most : Nat) (s : Nat × Nat) (w : World) (e : Ending) (w' : World) : Prop :=
  ∃ v' J, e = .returned v' ∧ OLn w' w.heap.size v' J ∧ XS w' rb v l most (sL l most s) ∧ Tb rb rb w w' ∧ ((sL l most s).1 = 0 → J = (fLi l most s.2).2.2)
theorem wpList_appL {w : World} {ops : Array Oper} {rest : List Oper} {o : Oper} {a : Act} {Q : Exit → Act → World → Prop} (hgd : o.guard = none) (s x : Operand)
    (ho : o.op = .call { callee := .builtin .append, args := #[s, x], argTypes := #[22, 22] })
    (base : Nat) (v : Value) (L : List Ln) (hs : a.eval s = v) (hown : OLn w base v L) (g : Nat) (y : Ln) (hx : a.eval x = .slice (some ⟨g, 0, none⟩) 1 1) (hg : w.heap[g]? = some (.cells #[.string y.1, .int .i64 y.2] 75 (0, 0)))
    (hlen : L.length ≤ 1000000000000) (hbase : base ≤ w.heap.size)
    (h : ∀ v' w', OLn w' base v' (L ++ [y]) → w.grownBy w' v.ownBlock → wpList Try.prog ops Q rest (a.put o.dst v') w') : wpList Try.prog ops Q (o :: rest) a w := by
  obtain ⟨i, hi, hz, hsz, hby⟩ := info_parts lninfo
  refine wpList_append_own w hgd s x 22 ho base 75 i (.agg #[.string ⟨#[]⟩, .int .i64 0]) 2 24 Try.underlying22 hi hz hsz hby rfl (by decide) v L.length (lc L) hs hown ⟨g, 0, none⟩ 1 1 (lc [y]) hx rfl (World.news_of_block (cs := #[.string y.1, .int .i64 y.2]) (t := 75) (fr := (0, 0)) hg) (lc_one _) (by unfold maxLen; omega) (by omega) hbase ?_
  intro v' w' ho' hgr _
  refine h v' w' ?_ hgr
  unfold OLn
  rw [lc_app, List.length_append]
  exact ho'
theorem OLn.block_ge {w : World} {base : Nat} {v : Value} {L : List Ln} (h : OLn w base v L) : ∀ k, v.ownBlock = some k → base ≤ k := fun k hk => (World.ownsRow.lt h k hk).1
theorem OLn.tbb {w w' : World} {base rb : Nat} {v : Value} {L : List Ln} (h : OLn w base v L) (hk : Tb rb rb w w') (hb : rb < base) : OLn w' base v L := by
  refine ⟨h.1, ?_⟩
  rcases h.2 with g | ⟨x, y, z, g1, g2, g3, g4⟩
  · exact .inl g
  · exact .inr ⟨x, y, z, g1, g2, (hk.block x (Array.getElem?_eq_some_iff.1 g3).1 (by omega) (by omega)).trans g3, g4⟩
theorem Tb.of_below {rb : Nat} {w w' : World} (h : Below w.heap.size w w') : Tb rb rb w w' := ⟨h.os, h.tape, h.output, h.size, fun k hk _ _ => h.block k hk⟩
/-- new blocks turn as they will -/
theorem Tb.own {rb g : Nat} {w W w' : World} (h : Tb rb rb w W) (k : Tb g g W w') (hg : w.heap.size ≤ g) : Tb rb rb w w' :=
  ⟨k.os.trans h.os, k.tape.trans h.tape, k.output.trans h.output, Nat.le_trans h.size k.size, fun j hj h1 h2 => (k.block j (Nat.lt_of_lt_of_le hj h.size) (by omega) (by omega)).trans (h.block j hj h1 h2)⟩
theorem Tb.grown {rb : Nat} {w W w' : World} {o : Option Nat} (h : Tb rb rb w W) (k : W.grownBy w' o) (hg : ∀ j, o = some j → w.heap.size ≤ j) : Tb rb rb w w' :=
  ⟨k.os.trans h.os, k.tape.trans h.tape, k.output.trans h.output, Nat.le_trans h.size k.size, fun j hj h1 h2 => (k.block j (Nat.lt_of_lt_of_le hj h.size) (fun e => by have := hg j e.symm; omega)).trans (h.block j hj h1 h2)⟩
theorem lines_model (l : List UInt8) (most : Nat) (s : Nat × Nat) : ∃ F : Nat → Nat × Nat × List Ln,
    ((F 0).1, (F 0).2.1) = sC l most s ∧ ((F 0).1 = 0 → (F 0).2.2 = []) ∧
    (∀ j, j < vC l most s → (F j).1 = 0 → ((F (j + 1)).1, (F (j + 1)).2.1) = sI l (sT l most (0, (F j).2.1)) ∧ ((F (j + 1)).1 = 0 → (F (j + 1)).2.2 = (F j).2.2 ++ [(vT l most (0, (F j).2.1), vI l (sT l most (0, (F j).2.1)))])) ∧
    (∀ j, j ≤ vC l most s → (F j).1 ≠ 0 → ((F (vC l most s)).1, (F (vC l most s)).2.1) = ((F j).1, (F j).2.1)) ∧
    ((F (vC l most s)).1, (F (vC l most s)).2.1) = sL l most s ∧ ((sL l most s).1 = 0 → (F (vC l most s)).2.2 = (fLi l most s.2).2.2) ∧ vC l most s ≤ most := by
  by_cases h0 : s.1 = 0
  · by_cases h1 : (ct (l.drop s.2) most).2.2 = 0
    · have e1 : vC l most s = (ct (l.drop s.2) most).1 := (vC_ok h0).trans (if_pos h1)
      have e2 : fLi l most s.2 = fLs l most (s.2 + (ct (l.drop s.2) most).2.1) (ct (l.drop s.2) most).1 := if_neg (fun e => e h1)
      rw [e1, sC_ok h0, sL_ok h0, e2]
      refine ⟨fLs l most (s.2 + (ct (l.drop s.2) most).2.1), Prod.ext h1.symm rfl, fun _ => rfl, fun j _ hj => fLs_step l most _ j hj, fun j hj he => ?_, rfl, fun _ => rfl, ct_most h1⟩
      have := fLs_stuck l most _ j he _ hj
      rw [this.1, this.2]
    · have e1 : vC l most s = 0 := (vC_ok h0).trans (if_neg h1)
      have e2 : fLi l most s.2 = ((ct (l.drop s.2) most).2.2, s.2 + (ct (l.drop s.2) most).2.1, []) := if_pos h1
      rw [e1, sC_ok h0, sL_ok h0, e2]
      exact ⟨fun _ => ((ct (l.drop s.2) most).2.2, s.2 + (ct (l.drop s.2) most).2.1, []), rfl, fun _ => rfl, fun j hj => by omega, fun _ _ _ => rfl, rfl, fun _ => rfl, by omega⟩
  · rw [vC_no h0, sC_no h0, sL_no h0]
    exact ⟨fun _ => (s.1, s.2, []), rfl, fun _ => rfl, fun j hj => by omega, fun _ _ _ => rfl, rfl, fun e => (h0 e).elim, by omega⟩
set_option maxHeartbeats 2000000 in
theorem xlines_any (w : World) {rb most : Nat} {v : Value} {l : List UInt8} {s : Nat × Nat} (h : XS w rb v l most s) (hm : most ≤ 1000000000) :
    Calls Try.prog 69 #[.pointer (some ⟨rb, 0, none⟩)] w fun e w' => Xl rb v l most s w e w' := by
  have HM := hid (xmany_any w h hm)
  have hlt := h.lt
  obtain ⟨F, f1, f2, f3, f4, f5, f6, f7⟩ := lines_model l most s
  have HXl := hid (fun (w' : World) (v' : Value) (J : List Ln) (h1 : OLn w' w.heap.size v' J) (h2 : XS w' rb v l most (sL l most s)) (h3 : Tb rb rb w w') (h4 : (sL l most s).1 = 0 → J = (fLi l most s.2).2.2) => (show Xl rb v l most s w (.returned v') w' from ⟨v', J, rfl, h1, h2, h3, h4⟩))
  generalize sC l most s = s1 at *
  generalize vC l most s = n at *
  generalize sL l most s = s2 at *
  have F1 := hid f1
  have F2 := hid f2
  have F3 := hid f3
  have F4 := hid f4
  have F5 := hid f5
  have F6 := hid f6
  have HXT := hid (fun (wx : World) (sx : Nat × Nat) (hx : XS wx rb v l most sx) => xtext_any wx hx hm)
  have HXW := hid (fun (wx : World) (sx : Nat × Nat) (hx : XS wx rb v l most sx) => xwhole_any wx hx)
  clear f1 f2 f3 f4 f5 f6 h
  have hn9 : (n : Int) ≤ 1000000000 := by omega
  go_enter Try.func69, Try.ntmps69
  go_wp2_with fail
  refine Calls.mono HM.out ?_
  rintro e w1 ⟨rfl, hS, hT⟩
  have HS := hid hS
  have HT := hid hT
  clear hS hT HM
  go_wp2_with fail
  go_loopw [3, 5] (fun vl vi wx => ∃ (j : Nat) (J : List Ln), j ≤ n ∧ vi = .int .i64 (j : Int) ∧ OLn wx w.heap.size vl J ∧ Hid (J.length = j) ∧ Tb rb rb w wx ∧ XS wx rb v l most ((F j).1, (F j).2.1) ∧ Hid ((F j).1 = 0 → J = (F j).2.2)) (fun _ vi _ => n - (intOf vi).toNat)
  case atStart => exact ⟨0, [], Nat.zero_le _, rfl, World.ownsRow_nil _ _ _ _, rfl, HT.out, by rw [F1.out]; exact HS.out, fun e => (F2.out e).symm⟩
  case round =>
    obtain ⟨j, J, hj, rfl, ho, HJ, ht, hx, HE⟩ := hrel
    have HO := hid ho
    have HTb := hid ht
    have HX := hid hx
    have ce := hx.e
    have hzw := ht.size
    clear ho ht hx
    by_cases hjn : j < n
    · have hI : (j : Int) < (n : Int) := by omega
      by_cases he : (F j).1 = 0
      · rw [he] at ce
        obtain ⟨g1, g2⟩ := F3.out j hjn he
        have G1 := hid g1
        have G2 := hid g2
        have HP0 := hid (show XS wr rb v l most (0, (F j).2.1) by have := HX.out; rw [he] at this; exact this)
        have HJE := hid (HE.out he)
        clear g1 g2 HX HE he
        generalize (F j).2.1 = p at *
        obtain ⟨W, hW⟩ : ∃ W, wr.alloc (.cells #[.string ⟨#[]⟩, .int .i64 0] 75) = W := ⟨_, rfl⟩
        have zW : W.heap.size = wr.heap.size + 1 := by rw [← hW, World.size_alloc]
        have bW : Below wr.heap.size wr W := by rw [← hW]; exact (Below.refl _ _).alloc (Nat.le_refl _) _
        have rW : W.heap[wr.heap.size]? = some (.cells #[.string ⟨#[]⟩, .int .i64 0] 75 (0, 0)) := by rw [← hW]; exact heap_alloc_new wr _
        have HSW := hid (HP0.out.below bW)
        have HTx := hid (HXT.out W _ HSW.out)
        have BW := hid bW
        have RW := hid rW
        have hlg : rb < wr.heap.size := HP0.out.lt
        have HW := hid hW
        clear bW rW hW
        go_wp2_with fail
        rw [HW.out]
        refine Calls.mono HTx.out ?_
        rintro e w2 ⟨rfl, hS2, hT2⟩
        have hg2 : wr.heap.size < W.heap.size := by omega
        have hne : wr.heap.size ≠ rb := by omega
        have R2 := hid (show w2.heap[wr.heap.size]? = some (.cells #[.string ⟨#[]⟩, .int .i64 0] 75 (0, 0)) from (hT2.block _ hg2 hne hne).trans RW.out)
        have z2 := hT2.size
        have q0 : w2.cell? ⟨wr.heap.size, 0, none⟩ = some (.string ⟨#[]⟩) := by rw [Lib.cell_of_heap R2.out]; rfl
        have q0f : w2.frozen? ⟨wr.heap.size, 0, none⟩ = false := Lib.frozen_of_heap R2.out 0
        generalize vT l most (0, p) = ta at *
        obtain ⟨W3, hW3⟩ : ∃ W3, w2.setCell ⟨wr.heap.size, 0, none⟩ (.string ta) = W3 := ⟨_, rfl⟩
        have R3 := hid (show W3.heap[wr.heap.size]? = some (.cells #[.string ta, .int .i64 0] 75 (0, 0)) by rw [← hW3]; exact heap_setCell_same w2 _ 0 _ _ _ R2.out)
        have HS3 := hid (show XS W3 rb v l most (sT l most (0, p)) by rw [← hW3]; exact hS2.set hlg)
        have TW3 := hid (show Tb rb rb wr W3 from (((Tb.of_below BW.out).trans hT2).own (g := wr.heap.size) (by rw [← hW3]; exact Tb.set w2 ⟨wr.heap.size, 0, none⟩ _ (.inl rfl)) (Nat.le_refl _)))
        have T3 := hid (HTb.out.trans TW3.out)
        have z3 : W3.heap.size = w2.heap.size := by rw [← hW3]; simp
        have HO3 := hid (HO.out.tbb TW3.out hlt)
        have HWh := hid (HXW.out W3 _ HS3.out)
        generalize sT l most (0, p) = sa at *
        clear hS2 hT2 HTx HSW HP0 R2 BW RW
        go_wp2_with fail
        refine Calls.mono HWh.out ?_
        rintro e w4 ⟨rfl, hS4, hT4⟩
        have R4 := hid (show w4.heap[wr.heap.size]? = some (.cells #[.string ta, .int .i64 0] 75 (0, 0)) from (hT4.block _ (by omega) hne hne).trans R3.out)
        have z4 := hT4.size
        have q1 : w4.cell? ⟨wr.heap.size, 1, none⟩ = some (.int .i64 0) := by rw [Lib.cell_of_heap R4.out]; rfl
        have q1f : w4.frozen? ⟨wr.heap.size, 1, none⟩ = false := Lib.frozen_of_heap R4.out 1
        generalize vI l sa = na at *
        obtain ⟨W5, hW5⟩ : ∃ W5, w4.setCell ⟨wr.heap.size, 1, none⟩ (.int .i64 na) = W5 := ⟨_, rfl⟩
        have R5 := hid (show W5.heap[wr.heap.size]? = some (.cells #[.string ta, .int .i64 na] 75 (0, 0)) by rw [← hW5]; exact heap_setCell_same w4 _ 1 _ _ _ R4.out)
        have HS5 := hid (show XS W5 rb v l most (sI l sa) by rw [← hW5]; exact hS4.set hlg)
        have TW5 := hid (show Tb rb rb wr W5 from ((TW3.out.trans hT4).own (g := wr.heap.size) (by rw [← hW5]; exact Tb.set w4 ⟨wr.heap.size, 1, none⟩ _ (.inl rfl)) (Nat.le_refl _)))
        have T5 := hid (HTb.out.trans TW5.out)
        have z5 : W5.heap.size = w4.heap.size := by rw [← hW5]; simp
        have HO5 := hid (HO.out.tbb TW5.out hlt)
        have q5 : W5.cell? ⟨wr.heap.size, 0, none⟩ = some (.string ta) := by rw [Lib.cell_of_heap R5.out]; rfl
        have q6 : W5.cell? ⟨wr.heap.size, 1, none⟩ = some (.int .i64 na) := by rw [Lib.cell_of_heap R5.out]; rfl
        obtain ⟨W6, hW6⟩ : ∃ W6, W5.alloc (.cells #[.string ta, .int .i64 na] 75) = W6 := ⟨_, rfl⟩
        have R6 := hid (show W6.heap[w4.heap.size]? = some (.cells #[.string ta, .int .i64 na] 75 (0, 0)) by rw [← hW6, ← z5]; exact heap_alloc_new W5 _)
        have B6 := hid (show Below W5.heap.size W5 W6 by rw [← hW6]; exact (Below.refl _ _).alloc (Nat.le_refl _) _)
        have z6 : W6.heap.size = W5.heap.size + 1 := by rw [← hW6, World.size_alloc]
        have HO6 := hid (show OLn W6 w.heap.size u3 J from HO5.out.tbb (Tb.of_below (rb := rb) B6.out) hlt)
        have hbz : w.heap.size ≤ W6.heap.size := by omega
        have hJl : J.length ≤ 1000000000000 := by have := HJ.out; omega
        clear hS4 hT4 HWh HS3 R3 R4 T3 HO3 HO5 HO HTb TW3 TW5
        go_wp2_with (at_builtin; go_loud (refine wpList_appL rfl _ _ rfl w.heap.size _ J rfl HO6.out w4.heap.size (ta, na) rfl R6.out hJl hbz ?hnext))
        case hnext =>
        intro v7 w7 ho7 hg7
        have HO7 := hid ho7
        have T7 := hid ((T5.out.trans (Tb.of_below B6.out)).grown hg7 (fun k hk => HO6.out.block_ge k hk))
        have HS7 := hid (show XS w7 rb v l most ((F (j + 1)).1, (F (j + 1)).2.1) by
          rw [G1.out]
          refine (HS5.out.below B6.out).keep (fun k hk => hg7.block k (by omega) (fun e => ?_))
          have := HO6.out.block_ge k e.symm
          omega)
        have HJ7 := hid (show (J ++ [(ta, na)]).length = j + 1 by rw [List.length_append, HJ.out]; rfl)
        have HE7 := hid (show (F (j + 1)).1 = 0 → J ++ [(ta, na)] = (F (j + 1)).2.2 from fun e => by rw [G2.out e, HJE.out])
        clear ho7 hg7 HS5 T5 HO6 R5 R6 B6
        go_wp2_with fail
        go_roundw
        case rel => exact ⟨j + 1, _, by omega, by go_num, HO7.out, HJ7, T7.out, HS7.out, HE7⟩
        case measure => simp [intOf]; omega
      · have hb : (((F j).1 : Int) == 0) = false := by simp; omega
        have HF4 := hid (F4.out j hj he)
        clear he
        go_wp2
        go_ret
        have e2 := F5.out
        rw [HF4.out] at e2
        refine HXl.out _ _ J HO.out (by rw [← e2]; exact HX.out) HTb.out (fun e => ?_)
        rw [← e2] at e
        rw [show (F j).1 = 0 from e] at hb
        cases hb
    · have hI : ¬ (j : Int) < (n : Int) := by omega
      obtain rfl : j = n := by omega
      go_wp2
      go_ret
      refine HXl.out _ _ J HO.out (by rw [← F5.out]; exact HX.out) HTb.out (fun e => ?_)
      rw [← F6.out e]
      exact HE.out (by have := F5.out; rw [← this] at e; exact e)
end Go.Proofs.Ytfhicemfhkhjaab
