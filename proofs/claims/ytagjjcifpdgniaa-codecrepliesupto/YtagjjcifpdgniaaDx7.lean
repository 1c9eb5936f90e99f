/-
  codec, the document's reader: begin.
-/
import Derived.Test.YtagjjcifpdgniaaDx6
namespace Go.Proofs.Ytagjjcifpdgniaa
open Go.RowKit
set_option maxRecDepth 100000

theorem bS_long {key : UInt8} {l : List UInt8} {most : Nat} (h : most < l.length) : bS key l most = (1, 0) := if_pos h
theorem bS_nil {key : UInt8} {l : List UInt8} {most : Nat} (h1 : ¬ most < l.length) (h : l.length = 0) : bS key l most = (3, 0) := (if_neg h1).trans (if_pos h)
theorem bS_key {key : UInt8} {l : List UInt8} {most : Nat} (h1 : ¬ most < l.length) (h0 : 0 < l.length) (h : l[0] ≠ key) : bS key l most = (90, 0) := (if_neg h1).trans ((if_neg (by omega)).trans (if_pos (by simpa [h0] using h)))
theorem bS_ok {key : UInt8} {l : List UInt8} {most : Nat} (h1 : ¬ most < l.length) (h0 : 0 < l.length) (h : l[0] = key) : bS key l most = (0, 1) := (if_neg h1).trans ((if_neg (by omega)).trans (if_neg (by simpa [h0] using h)))
theorem key_ne {a b : UInt8} (h : a ≠ b) : ((a.toNat : Int) == (b.toNat : Int)) = false := by
  have : a.toNat ≠ b.toNat := fun e => h (UInt8.toNat_inj.1 e)
  simp
  omega
set_option maxHeartbeats 2000000 in
theorem xbegin_any (key : UInt8) (most : Nat) (v : Value) (l : List UInt8) (w : World) (hr : Reads w v l) (hm : most ≤ 1000000000) :
    Calls Try.prog 62 #[v, .int .u8 (key.toNat : Int), .int .i64 (most : Int)] w fun e w' => e = .returned (.pointer (some ⟨w.heap.size, 0, none⟩)) ∧ XS w' w.heap.size v l most (bS key l most) ∧ Below w.heap.size w w' := by
  obtain ⟨W, hW⟩ : ∃ W, w.alloc (.cells #[v, .int .i64 1, .int .i64 (most : Int), .int .i64 0, .int .i64 0] 140) = W := ⟨_, rfl⟩
  have R0 := hid (show RX W w.heap.size v 1 most 0 0 by unfold RX; rw [← hW]; exact heap_alloc_new w _)
  have B0 := hid (show Below w.heap.size w W by rw [← hW]; exact (Below.refl _ _).alloc (Nat.le_refl _) _)
  have HBs := hid (fun (p : Addr) (hp : w.heap.size ≤ p.block) (W1 : World) (hb : Below w.heap.size w W1) (u : Value) => hb.setCell (p := p) hp u)
  have X1 := hid (fun e p => R0.out.stop e p)
  by_cases h0 : l.length = 0
  · obtain ⟨ao, cap, rfl⟩ := hr.form
    rw [bS_nil (by omega) h0]
    have HF := hid (fail_new 3 0 W R0.out)
    have X3 := hid (R0.out.stop 3 0)
    clear hr
    rw [h0] at *
    have HW := hid hW
    clear hW
    go_enter Try.func62, Try.ntmps62
    have hI : ¬ (most : Int) < 0 := by omega
    go_wp2_with fail
    rw [HW.out]
    refine Calls.mono HF.out ?_
    rintro e w3 ⟨rfl, rfl⟩
    go_wp2_with fail
    go_ret
    exact ⟨rfl, .inr ⟨show (3 : Nat) ≠ 0 by omega, 1, X3.out⟩, HBs.out _ (Nat.le_refl _) _ (HBs.out _ (Nat.le_refl _) _ B0.out _) _⟩
  rcases hr with ⟨rfl, _⟩ | ⟨b, off, cap, rfl, hcap, hcell⟩
  · simp at h0
  have hpos : 0 < l.length := by omega
  have c0 := hcell 0 hpos
  have hbl : b < w.heap.size := World.block_lt_of_cell? _ _ c0
  rw [Nat.add_zero] at c0
  have HC0 := hid (fun (W1 : World) (hb : Below w.heap.size w W1) => below_cells hb _ _ c0)
  have HXB := hid (fun (W1 : World) (hb : Below w.heap.size w W1) (hf : l.length ≤ 100000000000000) => (XB.mk hcap hbl hf (fun j hj => below_cells hb _ _ (hcell j hj)) : XB W1 w.heap.size b off cap l))
  have hI0 : (0 : Int) < (l.length : Int) := by omega
  have hI00 : ((l.length : Int) == 0) = false := by rw [beq_eq_false_iff_ne]; omega
  have HCp := hid hcap
  clear hcell hcap c0
  by_cases h1 : most < l.length
  · rw [bS_long h1]
    have hI : (most : Int) < (l.length : Int) := by omega
    have HF := hid (fail_new 1 0 W R0.out)
    have X3 := hid (R0.out.stop 1 0)
    have B1 := hid (HBs.out ⟨w.heap.size, 4, none⟩ (Nat.le_refl _) _ (HBs.out ⟨w.heap.size, 3, none⟩ (Nat.le_refl _) _ B0.out (.int .i64 ((1 : Nat) : Int))) (.int .i64 ((0 : Nat) : Int)))
    obtain ⟨W1, hW1⟩ : ∃ W1, (W.setCell ⟨w.heap.size, 3, none⟩ (.int .i64 ((1 : Nat) : Int))).setCell ⟨w.heap.size, 4, none⟩ (.int .i64 ((0 : Nat) : Int)) = W1 := ⟨_, rfl⟩
    rw [hW1] at HF X3 B1
    have c0 := HC0.out W1 B1.out
    have HFo := hid (fail_old 90 0 W1 X3.out (show (1 : Nat) ≠ 0 by omega))
    have HW := hid hW
    clear hW hW1 HBs X1 HXB
    by_cases hk : l[0] = key
    · rw [hk] at c0
      clear hk
      go_enter Try.func62, Try.ntmps62
      go_wp2_with fail
      rw [HW.out]
      refine Calls.mono HF.out ?_
      rintro e w3 ⟨rfl, rfl⟩
      go_wp2_with fail
      go_ret
      exact ⟨rfl, .inr ⟨show (1 : Nat) ≠ 0 by omega, 1, X3.out⟩, B1.out⟩
    · have hkb := key_ne hk
      clear hk
      go_enter Try.func62, Try.ntmps62
      go_wp2_with fail
      rw [HW.out]
      refine Calls.mono HF.out ?_
      rintro e w3 ⟨rfl, rfl⟩
      go_wp2_with fail
      refine Calls.mono HFo.out ?_
      rintro e w4 ⟨rfl, rfl⟩
      go_wp2_with fail
      go_ret
      exact ⟨rfl, .inr ⟨show (1 : Nat) ≠ 0 by omega, 1, X3.out⟩, B1.out⟩
  have hI : ¬ (most : Int) < (l.length : Int) := by omega
  have c0 := HC0.out W B0.out
  have HW := hid hW
  by_cases hk : l[0] = key
  · rw [bS_ok h1 hpos hk]
    have HX := hid (HXB.out W B0.out (by omega))
    rw [hk] at c0
    clear hk HBs X1 HXB h1
    go_enter Try.func62, Try.ntmps62
    go_wp2_with fail
    try rw [hW]
    go_ret
    exact ⟨rfl, .inl ⟨rfl, b, off, cap, rfl, R0.out, HX.out, hpos⟩, B0.out⟩
  · rw [bS_key h1 hpos hk]
    have HF := hid (fail_new 90 0 W R0.out)
    have X3 := hid (R0.out.stop 90 0)
    have hkb := key_ne hk
    clear hk X1 HXB h1
    go_enter Try.func62, Try.ntmps62
    go_wp2_with fail
    try rw [hW]
    refine Calls.mono HF.out ?_
    rintro e w3 ⟨rfl, rfl⟩
    go_wp2_with fail
    go_ret
    exact ⟨rfl, .inr ⟨show (90 : Nat) ≠ 0 by omega, 1, X3.out⟩, HBs.out _ (Nat.le_refl _) _ (HBs.out _ (Nat.le_refl _) _ B0.out _) _⟩
end Go.Proofs.Ytagjjcifpdgniaa
