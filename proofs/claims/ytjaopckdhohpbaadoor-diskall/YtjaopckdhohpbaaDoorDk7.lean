/-
  New, Image, Count; sectors of one byte.
-/
import Derived.Test.YtjaopckdhohpbaaDoorDk6
namespace Go.Proofs.YtjaopckdhohpbaaDoor
open Go.RowKit
set_option maxRecDepth 100000
attribute [local go_sem ↓] mk_op

theorem reads_row {w : World} {b : Nat} {l : List UInt8} {t : TypeId} {fr : Nat × Nat} (h : w.heap[b]? = some (.cells (bc l).toArray t fr)) : Reads w (.slice (some ⟨b, 0, none⟩) l.length l.length) l := by
  refine .inr ⟨b, 0, l.length, rfl, Nat.le_refl _, fun j hj => ?_⟩
  rw [cell_of_row w b (0 + j) _ _ _ h, Nat.zero_add]
  simp only [List.getElem?_toArray]
  exact bc_at l j hj
set_option maxHeartbeats 2000000 in
theorem image_any (base d f s cap : Nat) (tail : List Value) (F S : List UInt8) (dv : Value) (O : List Opn) (w : World) (h : DK w base d f s cap tail F S dv O) (hl : S.length ≤ 1000000) :
    Calls Tryd.prog 14 #[.pointer (some ⟨d, 0, none⟩)] w fun e w' => (∃ v', e = .returned v' ∧ Owns w' w.heap.size v' S) ∧ Below w.heap.size w w' := by
  obtain ⟨c0, c1, c2, c3⟩ := h.cells
  have hR := h.imgR 0 S.length cap (by omega) h.cp
  rw [List.drop_zero, List.take_length] at hR
  have HC := hid (clone_any s 0 cap _ w hR hl)
  clear h hR
  go_enter Tryd.func14, Tryd.ntmps14
  go_wp2_with fail
  refine HC.out.mono ?_
  rintro e w1 ⟨⟨v', rfl, ho⟩, hb⟩
  have H1 := hid ho
  have B1 := hid hb
  clear ho hb
  go_wp2
  go_ret
  exact ⟨⟨_, rfl, H1.out⟩, B1.out⟩
theorem count_any (base d f s cap : Nat) (tail : List Value) (F S : List UInt8) (dv : Value) (O : List Opn) (w : World) (h : DK w base d f s cap tail F S dv O) :
    Calls Tryd.prog 9 #[.pointer (some ⟨d, 0, none⟩)] w fun e w' => e = .returned (.int .i64 (O.length : Int)) ∧ w' = w := by
  obtain ⟨ao, oc, rfl⟩ := h.form
  obtain ⟨c0, c1, c2, c3⟩ := h.cells
  clear h
  go_enter Tryd.func9, Tryd.ntmps9
  go_wp2
  go_ret
  exact ⟨rfl, rfl⟩
/-- Owns, as its block -/
theorem Owns.row {w : World} {base : Nat} {v : Value} {l : List UInt8} (h : Owns w base v l) (hl : 0 < l.length) : ∃ g cap tail, v = .slice (some ⟨g, 0, none⟩) l.length cap ∧ base ≤ g ∧ l.length ≤ cap ∧ cap ≤ 9223372036854775807 ∧ w.heap[g]? = some (.cells (bc l ++ tail).toArray 5 (0, 0)) := by
  rcases h.2 with ⟨_, h0⟩ | ⟨g, cap, cur, hv, hb, hg, hn, hm, hs, ht⟩
  · omega
  · refine ⟨g, cap, cur.toList.drop l.length, hv, hb, hn, hm, ?_⟩
    rw [Nat.mul_one] at ht
    rw [hg, ← ht, List.take_append_drop]
/-- an image with zeros behind it -/
def pad (l : List UInt8) (n : Nat) : List UInt8 := splice (zs n) 0 l
set_option maxHeartbeats 4000000 in
theorem new_any (iv : Value) (l : List UInt8) (n : Nat) (w : World) (hr : Reads w iv l) (h1 : 1 ≤ n) (h2 : n ≤ 4096) (hl : l.length ≤ n * 128) :
    Calls Tryd.prog 22 #[iv, .int .i64 (n : Int)] w fun e w' => (∃ d f s cap tail, e = .returned (.tuple #[.pointer (some ⟨d, 0, none⟩), .int .i64 0]) ∧ DK w' w.heap.size d f s cap tail (pad l (n * 128)) (pad l (n * 128)) (.slice none 0 0) []) ∧ Below w.heap.size w w' := by
  obtain ⟨io, ic, rfl⟩ := hr.form
  have hm : ∀ w, (mkB (.int .i64 ((n : Int) * 128)) (.int .i64 ((n : Int) * 128))).run Tryd.prog w = .ok (.slice (some ⟨w.heap.size, 0, none⟩) (n * 128) (n * 128)) (w.alloc (.cells (bc (zs (n * 128))).toArray 5)) := fun w => by
    have := run_mkB (n * 128) (by omega) w
    rw [show ((n * 128 : Nat) : Int) = (n : Int) * 128 by omega] at this
    exact this
  have hpl : (pad l (n * 128)).length = n * 128 := by unfold pad; rw [length_splice _ _ _ (by rw [zs_len]; omega), zs_len]
  have bA : ∀ o, Below w.heap.size w (w.alloc o) := fun o => (Below.refl _ _).alloc (Nat.le_refl _) o
  have hcp : (Builtin.copy_ #[34, 34] 3 #[.slice (some ⟨w.heap.size, 0, none⟩) (n * 128) (n * 128), .slice io l.length ic]).run Tryd.prog (w.alloc (.cells (bc (zs (n * 128))).toArray 5)) = .ok (goInt l.length) (w.alloc (.cells (bc (pad l (n * 128))).toArray 5)) := by
    by_cases h0 : l.length = 0
    · have hl0 : l = [] := List.eq_nil_of_length_eq_zero h0
      subst hl0
      have hr := run_copy_none (P := Tryd.prog) (w.alloc (.cells (bc (zs (n * 128))).toArray 5)) 34 34 3 5 (some ⟨w.heap.size, 0, none⟩) io (n * 128) (n * 128) 0 ic Tryd.underlying34 u8_one (by simp)
      simpa [pad, splice] using hr
    · obtain ⟨b, off, c, hv, hc, hcell⟩ := hr.here (by omega)
      cases hv
      have hr2 := run_copy_row (P := Tryd.prog) (w.alloc (.cells (bc (zs (n * 128))).toArray 5)) 34 34 3 5 w.heap.size 0 (n * 128) (n * 128) ⟨b, off, none⟩ l.length ic (bc (zs (n * 128))).toArray 5 (bc l) Tryd.underlying34 u8_one (heap_alloc_new _ _) (by rw [bc_length]; exact (Nat.min_eq_left hl).symm) (Reads.src (fun j hj => below_cells (bA _) _ _ (hcell j hj))) (by rw [bc_length, Nat.zero_add]; simp [bc_length, zs_len]; omega) (bc_one l)
      rw [hr2, World.setRow_alloc_new, bc_length]
      congr 3
      unfold pad splice bc
      simp
  have h1I : ¬ (n : Int) < 1 := by omega
  have h2I : ¬ (4096 : Int) < (n : Int) := by omega
  have hlI : ¬ (n : Int) * 128 < (l.length : Int) := by omega
  obtain ⟨P, hP⟩ : ∃ P, pad l (n * 128) = P := ⟨_, rfl⟩
  rw [hP] at hcp hpl ⊢
  have hA := heap_alloc_new w (.cells (bc P).toArray 5)
  have HRd := hid (reads_row hA)
  have HA := hid hA
  have BA := hid (bA (.cells (bc P).toArray 5))
  clear hr hP bA hA
  obtain ⟨W, hW⟩ : ∃ W, w.alloc (.cells (bc P).toArray 5) = W := ⟨_, rfl⟩
  rw [hW] at hcp HRd HA BA
  have hWs : w.heap.size < W.heap.size := (Array.getElem?_eq_some_iff.1 HA.out).1
  have HC := hid (clone_any w.heap.size 0 P.length P W HRd.out (by omega))
  rw [hpl] at HC
  clear hW
  go_enter Tryd.func22, Tryd.ntmps22
  go_wp2_with fail
  refine HC.out.mono ?_
  rintro e w1 ⟨⟨v', rfl, ho⟩, hb⟩
  obtain ⟨g, cap, tail, rfl, hg, hcl, hcm, hrow⟩ := ho.row (by omega)
  have HB := hid hb
  have HRow := hid hrow
  clear ho hb hrow HC
  go_wp2
  go_ret2
  have hg1 : g < w1.heap.size := (Array.getElem?_eq_some_iff.1 HRow.out).1
  have hf1 : w.heap.size < w1.heap.size := Nat.lt_of_lt_of_le hWs HB.out.size
  have b2 : Below w1.heap.size w1 (w1.alloc (.cells #[.slice (some ⟨w.heap.size, 0, none⟩) (n * 128) (n * 128), .slice none 0 0, .slice (some ⟨g, 0, none⟩) (n * 128) cap] 72)) := (Below.refl _ _).alloc (Nat.le_refl _) _
  refine ⟨⟨w1.heap.size, w.heap.size, g, cap, tail, rfl, ?_⟩, ?_⟩
  · refine { hd := by omega, hf := Nat.le_refl _, hs := by omega, df := by omega, ds := by omega, fs := by omega, ap := (fun k hk => by cases hk), disk := ?_, first := ?_, seen := ?_, cp := hcl, cm := hcm, fm := by omega, own := World.ownsRow_nil _ _ _ _, op := (fun o ho => by cases ho) }
    · rw [heap_alloc_new, hpl]
    · rw [b2.block _ hf1, HB.out.block _ hWs]; exact HA.out
    · rw [b2.block _ hg1]; exact HRow.out
  · exact (BA.out.trans (HB.out.mono (Nat.le_of_lt hWs))).trans (b2.mono (Nat.le_of_lt hf1))
end Go.Proofs.YtjaopckdhohpbaaDoor
