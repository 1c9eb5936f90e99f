/-
  codec, the document's reader: fail, whole, text, many.
-/
import Derived.Test.YtagjjcifpdgniaaCr7
import Derived.Test.YtagjjcifpdgniaaCx1
namespace Go.Proofs.Ytagjjcifpdgniaa
open Go.RowKit
set_option maxRecDepth 100000

/-- the document's reader in block rb -/
def RX (w : World) (rb : Nat) (v : Value) (i most er pl : Nat) : Prop :=
  w.heap[rb]? = some (.cells #[v, .int .i64 (i : Int), .int .i64 (most : Int), .int .i64 (er : Int), .int .i64 (pl : Int)] 140 (0, 0))
theorem RX.c {w : World} {rb i most er pl : Nat} {v : Value} (h : RX w rb v i most er pl) : w.cell? ⟨rb, 0, none⟩ = some v ∧ w.cell? ⟨rb, 1, none⟩ = some (.int .i64 (i : Int)) ∧ w.cell? ⟨rb, 2, none⟩ = some (.int .i64 (most : Int)) ∧ w.cell? ⟨rb, 3, none⟩ = some (.int .i64 (er : Int)) ∧ w.cell? ⟨rb, 4, none⟩ = some (.int .i64 (pl : Int)) :=
  ⟨by rw [Lib.cell_of_heap h]; rfl, by rw [Lib.cell_of_heap h]; rfl, by rw [Lib.cell_of_heap h]; rfl, by rw [Lib.cell_of_heap h]; rfl, by rw [Lib.cell_of_heap h]; rfl⟩
theorem RX.f {w : World} {rb i most er pl : Nat} {v : Value} (h : RX w rb v i most er pl) (j : Nat) : w.frozen? ⟨rb, j, none⟩ = false := Lib.frozen_of_heap h j
theorem RX.on {w : World} {rb i most er pl : Nat} {v : Value} (h : RX w rb v i most er pl) (k : Nat) : RX (w.setCell ⟨rb, 1, none⟩ (.int .i64 (k : Int))) rb v k most er pl := heap_setCell_same w rb 1 _ _ _ h
theorem RX.stop {w : World} {rb i most er pl : Nat} {v : Value} (h : RX w rb v i most er pl) (e p : Nat) : RX ((w.setCell ⟨rb, 3, none⟩ (.int .i64 (e : Int))).setCell ⟨rb, 4, none⟩ (.int .i64 (p : Int))) rb v i most e p := heap_setCell_same _ rb 4 _ _ _ (heap_setCell_same w rb 3 _ _ _ h)
theorem RX.drewN {w : World} {rb i most er pl : Nat} {v : Value} (h : RX w rb v i most er pl) (q : Nat) : RX (w.drewN q) rb v i most er pl := h
set_option maxHeartbeats 400000 in
theorem fail_new (e p : Nat) (w : World) {rb i most pl : Nat} {v : Value} (h : RX w rb v i most 0 pl) :
    Calls Try.prog 83 #[.pointer (some ⟨rb, 0, none⟩), .int .i64 (e : Int), .int .i64 (p : Int)] w fun e' w' => e' = .returned (.tuple #[]) ∧ w' = (w.setCell ⟨rb, 3, none⟩ (.int .i64 (e : Int))).setCell ⟨rb, 4, none⟩ (.int .i64 (p : Int)) := by
  obtain ⟨c0, c1, c2, c3, c4⟩ := h.c
  have f3 := h.f 3
  have f4 := h.f 4
  clear h
  go_enter Try.func83, Try.ntmps83
  go_wp2
  go_end0
  exact ⟨rfl, rfl⟩
set_option maxHeartbeats 400000 in
theorem fail_old (e p : Int) (w : World) {rb i most er pl : Nat} {v : Value} (h : RX w rb v i most er pl) (he : er ≠ 0) :
    Calls Try.prog 83 #[.pointer (some ⟨rb, 0, none⟩), .int .i64 e, .int .i64 p] w fun e' w' => e' = .returned (.tuple #[]) ∧ w' = w := by
  obtain ⟨c0, c1, c2, c3, c4⟩ := h.c
  have hb : ((er : Int) == 0) = false := by simp; omega
  clear h
  go_enter Try.func83, Try.ntmps83
  go_wp2
  go_end0
  exact ⟨rfl, rfl⟩
/-- the bytes that are read lie there, ahead of the reader -/
structure XB (w : World) (rb b off cap : Nat) (l : List UInt8) : Prop where
  room : l.length ≤ cap
  lt : b < rb
  few : l.length ≤ 100000000000000
  bytes : ∀ j (hj : j < l.length), w.cell? ⟨b, off + j, none⟩ = some (.int .u8 (l[j].toNat : Int))
/-- the value of the bytes -/
def bv (b off cap n : Nat) : Value := .slice (some ⟨b, off, none⟩) n cap
/-- behind a read of the document's: it went on, or stands -/
def Xp (rb i err took : Nat) (u z : Value) (w : World) (e : Ending) (w' : World) : Prop :=
  ∃ q, (err = 0 ∧ e = .returned u ∧ w' = (w.drewN q).setCell ⟨rb, 1, none⟩ (.int .i64 ((i + took : Nat) : Int))) ∨ (err ≠ 0 ∧ e = .returned z ∧ w' = ((w.drewN q).setCell ⟨rb, 3, none⟩ (.int .i64 (err : Int))).setCell ⟨rb, 4, none⟩ (.int .i64 ((i + took : Nat) : Int)))
theorem wrap_sum (i t : Nat) : ((i + t : Nat) : Int) = (i : Int) + (t : Int) := by omega
set_option maxHeartbeats 1000000 in
theorem xwhole_go (w : World) {rb b off cap i most : Nat} {l : List UInt8} (h : RX w rb (bv b off cap l.length) i most 0 0) (hx : XB w rb b off cap l) (hi : i ≤ l.length) :
    Calls Try.prog 64 #[.pointer (some ⟨rb, 0, none⟩)] w fun e w' => Xp rb i (rd (l.drop i) 0 0).2.2 (rd (l.drop i) 0 0).2.1 (.int .i64 (unfI (rd (l.drop i) 0 0).1)) (.int .i64 0) w e w' := by
  obtain ⟨c0, c1, c2, c3, c4⟩ := h.c
  have hle := rd_le (l.drop i) 0 0
  have hdl : (l.drop i).length ≤ l.length := by rw [List.length_drop]; omega
  have hfw := hx.few
  have HIn0 := hid (fun q => refInt_any (rv b off cap l.length i) (l.drop i) (w.drewN q) (drop_reads (w := w.drewN q) hi hx.room hx.bytes) (by omega))
  unfold intV at HIn0
  generalize rd (l.drop i) 0 0 = R at *
  obtain ⟨n0, t, er⟩ := R
  simp only at *
  generalize unfI n0 = n at *
  have H := hid h
  have h1 : (i : Int) ≤ (l.length : Int) := by omega
  have h2 : (l.length : Int) ≤ (cap : Int) := by have := hx.room; omega
  have h4 := hx.room
  have ht : t ≤ 100000000000000 := by omega
  have hi2 : i ≤ 100000000000000 := by omega
  have hsum := wrap_sum i t
  unfold rv at HIn0
  clear h c4 hdl hle hfw
  unfold bv at c0
  go_enter Try.func64, Try.ntmps64
  by_cases hci : cap = i
  · rw [if_pos hci] at HIn0
    subst hci
    rw [show l.length - cap = 0 by omega, Nat.sub_self] at HIn0
    go_wp2_with fail
    go_quiet (first | (go_at_call 85; exact Calls.quiet_of_same (HIn0.out _)))
    by_cases he : er = 0
    · subst he
      have c1' : (w.drewN nq).cell? ⟨rb, 1, none⟩ = some (.int .i64 (cap : Int)) := c1
      have f1 : (w.drewN nq).frozen? ⟨rb, 1, none⟩ = false := H.out.f 1
      clear c1 HIn0
      go_wp2_with fail
      go_ret
      exact ⟨nq, .inl ⟨rfl, rfl, by rw [hsum]⟩⟩
    · have hb : ((er : Int) == 0) = false := by simp; omega
      have HE := hid he
      have HF := hid (fail_new er (cap + t) (w.drewN nq) (H.out.drewN nq))
      rw [hsum] at HF
      have c1' : (w.drewN nq).cell? ⟨rb, 1, none⟩ = some (.int .i64 (cap : Int)) := c1
      clear c1 HIn0 he
      go_wp2_with fail
      refine Calls.mono HF.out ?_
      rintro e w3 ⟨rfl, rfl⟩
      go_wp2_with fail
      go_ret
      exact ⟨nq, .inr ⟨HE.out, rfl, by rw [hsum]⟩⟩
  · rw [if_neg hci] at HIn0
    go_wp2_with fail
    go_quiet (first | (go_at_call 85; exact Calls.quiet_of_same (HIn0.out _)))
    by_cases he : er = 0
    · subst he
      have c1' : (w.drewN nq).cell? ⟨rb, 1, none⟩ = some (.int .i64 (i : Int)) := c1
      have f1 : (w.drewN nq).frozen? ⟨rb, 1, none⟩ = false := H.out.f 1
      clear c1 HIn0
      go_wp2_with fail
      go_ret
      exact ⟨nq, .inl ⟨rfl, rfl, by rw [hsum]⟩⟩
    · have hb : ((er : Int) == 0) = false := by simp; omega
      have HE := hid he
      have HF := hid (fail_new er (i + t) (w.drewN nq) (H.out.drewN nq))
      rw [hsum] at HF
      have c1' : (w.drewN nq).cell? ⟨rb, 1, none⟩ = some (.int .i64 (i : Int)) := c1
      clear c1 HIn0 he
      go_wp2_with fail
      refine Calls.mono HF.out ?_
      rintro e w3 ⟨rfl, rfl⟩
      go_wp2_with fail
      go_ret
      exact ⟨nq, .inr ⟨HE.out, rfl, by rw [hsum]⟩⟩
end Go.Proofs.Ytagjjcifpdgniaa
