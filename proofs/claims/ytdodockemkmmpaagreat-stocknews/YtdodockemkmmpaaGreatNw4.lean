/-
  stock: a state without holds and requests: is it sound?
-/
import Derived.Test.YtdodockemkmmpaaGreatNw3
import Derived.Test.YtdodockemkmmpaaGreatCk2
import Derived.Test.YtdodockemkmmpaaGreatKw1
namespace Go.Proofs.YtdodockemkmmpaaGreat
open Go.RowKit
set_option maxRecDepth 100000

/-- a state without holds and requests, at time 0 -/
def s0 (room : Int) (L : List Lv) : Sx := ⟨room, 0, 0, L, [], []⟩
/-- as a value; its levels at v -/
def s0V (room : Int) (v : Value) : Value := .agg #[.int .i64 room, .int .i64 0, .int .i64 0, v, .slice none 0 0, .slice none 0 0]
/-- levels of a new ledger -/
def LOk (L : List Lv) : Prop := 1 ≤ L.length ∧ L.length ≤ 512 ∧ (∀ x ∈ L, tx x.1 40 = true ∧ x.2.1 = 0 ∧ x.2.2 = 0) ∧ RsL L
theorem weight0_any (room : Int) (L : List Lv) (v : Value) (w : World) (h : RLv w v L) (hx : 64 + xv L ≤ 1000000) :
    Calls Tryz.prog 20 #[s0V room v] w fun e w' => e = .returned (.int .i64 ((64 + xv L : Nat) : Int)) ∧ Below w.heap.size w w' := by
  obtain ⟨a1, p1, rfl⟩ := h.form
  have hw := weight_any (s0 room L) a1 p1 none 0 none 0 w h (fun j hj => by simp [s0] at hj) (fun j hj => by simp [s0] at hj) (by simp [s0]) (by simp [s0])
  have he : xs (s0 room L) = 64 + xv L := by simp [xs, s0, xh, xd]
  have hr : wrap64 ((64 + xv L : Nat) : Int) = ((64 + xv L : Nat) : Int) := by unfold wrap64; omega
  rw [he, hr] at hw
  exact hw
set_option maxHeartbeats 2000000 in
theorem soundNumbers0_any (room : Int) (L : List Lv) (v : Value) (w : World) (h : RLv w v L) (hr : 0 ≤ room ∧ room ≤ 131072) (hx : ((64 + xv L : Nat) : Int) ≤ room) :
    Calls Tryz.prog 63 #[s0V room v] w fun e w' => e = .returned (.bool true) ∧ Below w.heap.size w w' := by
  obtain ⟨a1, p1, hv⟩ := h.form
  unfold s0V
  obtain ⟨W, hW⟩ : ∃ W, w.alloc (.cells #[.int .i64 room, .int .i64 0, .int .i64 0, v, .slice none 0 0, .slice none 0 0] 32) = W := ⟨_, rfl⟩
  have R := hid (show W.heap[w.heap.size]? = some (.cells #[.int .i64 room, .int .i64 0, .int .i64 0, v, .slice none 0 0, .slice none 0 0] 32 (0, 0)) by rw [← hW]; exact heap_alloc_new w _)
  have BW := hid (show Below w.heap.size w W by rw [← hW]; exact (Below.refl _ _).alloc (Nat.le_refl _) _)
  have zW : w.heap.size < W.heap.size := (Array.getElem?_eq_some_iff.1 R.out).1
  have HK := hid (show ∀ wx, Below W.heap.size W wx → wx.cell? ⟨w.heap.size, 0, none⟩ = some (.int .i64 room) ∧ wx.cell? ⟨w.heap.size, 1, none⟩ = some (.int .i64 0) ∧ wx.cell? ⟨w.heap.size, 2, none⟩ = some (.int .i64 0) ∧ wx.cell? ⟨w.heap.size, 3, none⟩ = some v ∧ wx.cell? ⟨w.heap.size, 4, none⟩ = some (.slice none 0 0) ∧ wx.cell? ⟨w.heap.size, 5, none⟩ = some (.slice none 0 0) from fun wx hx => by
    have h1 := (hx.block w.heap.size (by omega)).trans R.out
    exact ⟨by rw [Lib.cell_of_heap h1]; rfl, by rw [Lib.cell_of_heap h1]; rfl, by rw [Lib.cell_of_heap h1]; rfl, by rw [Lib.cell_of_heap h1]; rfl, by rw [Lib.cell_of_heap h1]; rfl, by rw [Lib.cell_of_heap h1]; rfl⟩)
  have CW := hid (fun wx (hx2 : Below W.heap.size W wx) => weight0_any room L v wx (h.below (BW.out.trans (hx2.mono (by omega)))) (by omega))
  unfold s0V at CW
  generalize ((64 + xv L : Nat) : Int) = n at *
  have s00 : Below W.heap.size W W := Below.refl _ _
  have s0 : Below W.heap.size W W.drew := (Below.refl _ _).drew
  subst hv
  have r0 := hr.1
  have r1 := hr.2
  clear h hr
  go_enter Tryz.func63, Tryz.ntmps63
  go_wp2_with fail
  try rw [hW]
  clear hW
  first | go_region_held (fun wx => wx.cell? ⟨w.heap.size, 0, none⟩ = some (.int .i64 room) ∧ wx.cell? ⟨w.heap.size, 1, none⟩ = some (.int .i64 0) ∧ wx.cell? ⟨w.heap.size, 2, none⟩ = some (.int .i64 0) ∧ wx.cell? ⟨w.heap.size, 3, none⟩ = some (.slice a1 L.length p1) ∧ wx.cell? ⟨w.heap.size, 4, none⟩ = some (.slice none 0 0) ∧ wx.cell? ⟨w.heap.size, 5, none⟩ = some (.slice none 0 0)) (exact HK.out _ (by assumption)) (first
    | (go_at_call 20; refine (CW.out _ (by assumption)).mono ?_; rintro e w3 ⟨rfl, s3⟩; have s4 := bel_step (by assumption) s3; clear s3)) | fail
  all_goals
    go_wp2
    go_ret
    exact ⟨rfl, BW.out.trans (s4.mono (by omega))⟩
set_option maxHeartbeats 2000000 in
theorem soundLevels0_any (L : List Lv) (v : Value) (w : World) (h : RLv w v L) (hL : LOk L) :
    Calls Tryz.prog 64 #[v] w fun e w' => e = .returned (.bool true) ∧ Below w.heap.size w w' := by
  have H := hid h
  have HL := hid hL
  obtain ⟨a1, p1, rfl⟩ := h.form
  have l1 : (1 : Int) ≤ (L.length : Int) := by have := hL.1; omega
  have l2 : (L.length : Int) ≤ 512 := by have := hL.2.1; omega
  clear h hL
  go_enter Tryz.func64, Tryz.ntmps64
  go_wp2_with fail
  go_loopw [7] (fun i wr => ∃ k : Nat, k ≤ L.length ∧ i = .int .i64 (k : Int) ∧ Below w.heap.size w wr) (fun i _ => L.length - (intOf i).toNat)
  case atStart => exact ⟨0, by omega, rfl, Below.refl _ _⟩
  case round =>
    obtain ⟨k, hk, rfl, hbl⟩ := hrel
    by_cases hlt : k < L.length
    · have hI : (k : Int) < (L.length : Int) := by omega
      rcases H.out.below hbl with ⟨rfl, _⟩ | ⟨b, off, cp, e1, hcp, hcell⟩
      · simp at hlt
      cases e1
      obtain ⟨c0, c1, c2⟩ := hcell k hlt
      obtain ⟨t0, t1, t2⟩ := HL.out.2.2.1 (L[k]'hlt) (List.getElem_mem hlt)
      rw [t1] at c1
      rw [t2] at c2
      have hs : (L[k]'hlt).1.size ≤ 9223372036854775807 := by
        unfold tx at t0
        simp only [Bool.and_eq_true, decide_eq_true_eq] at t0
        omega
      generalize (L[k]'hlt).1 = x at *
      have CI := hid (fun wx => isCode_any x wx hs)
      rw [t0] at CI
      have HB := hid hbl
      have HA := hid (show ∀ o, Below w.heap.size w (wr.alloc o) from fun o => hbl.alloc hbl.size o)
      clear hcell hbl t0 t1 t2 hs
      go_wp2_with (go_at_call 17; refine (CI.out _).mono ?_; rintro e w' ⟨rfl, rfl⟩)
      go_roundw
      case rel => exact ⟨k + 1, by omega, by go_num, HA.out _⟩
      case measure => simp [intOf]; omega
    · have hI : ¬ (k : Int) < (L.length : Int) := by omega
      have CR := hid (risingLv_any _ L wr (H.out.below hbl))
      have HB := hid hbl
      clear hbl
      go_wp2_with fail
      refine Calls.mono CR.out ?_
      rintro e w3 ⟨⟨b, rfl, hb⟩, hb3⟩
      obtain rfl : b = true := hb.2 HL.out.2.2.2
      have B3 := hid (HB.out.trans (hb3.mono HB.out.size))
      clear hb hb3 CR
      go_wp2
      go_ret
      exact ⟨rfl, B3.out⟩
end Go.Proofs.YtdodockemkmmpaaGreat
