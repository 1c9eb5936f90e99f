/-
  plan: the document's Quarters, refused; whole.
-/
import Derived.Test.YtgnnopjkbmbjbabDoorFq3
import Derived.Deep.WholeRow
namespace Go.Proofs.YtgnnopjkbmbjbabDoor
open Go.RowKit
set_option maxRecDepth 100000
set_option linter.unusedSimpArgs false

/-- eight floats, kept whole -/
def ptLd (a : Addr) : Sem Value := loadVar 36 a
theorem ptLd_op (a : Addr) : loadVar 36 a = ptLd a := rfl
def ptSt (a : Addr) (v : Value) : Sem Unit := storeVar 36 a v
theorem ptSt_op (a : Addr) (v : Value) : storeVar 36 a v = ptSt a v := rfl
theorem ptsize : (Tryd.prog.info? 36).map (·.size) = some 8 := by kernel_rfl
theorem run_ptLd {w : World} {b : Nat} {f : Nat → Nat × Nat} (h : w.heap[b]? = some (.cells (qA f 4) 36 (0, 0))) : (ptLd ⟨b, 0, none⟩).run Tryd.prog w = .ok (pt8 f) w :=
  run_loadVar_row _ _ _ _ (qA f 4) (0, 0) _ h Tryd.underlying36 rfl ptsize
theorem run_ptSt {w : World} {b : Nat} {f g : Nat → Nat × Nat} (h : w.heap[b]? = some (.cells (qA f 4) 36 (0, 0))) :
    ∃ W, (ptSt ⟨b, 0, none⟩ (pt8 g)).run Tryd.prog w = .ok () W ∧ W.heap[b]? = some (.cells (qA g 4) 36 (0, 0)) ∧ w.grownBy W (some b) := by
  refine ⟨w.setRow b (qA g 4), run_storeVar_row w b _ _ (qA f 4) (qA g 4) h ptsize rfl (by simp [qA]; simp [Value.oneCell']), ?_, ⟨rfl, rfl, rfl, by simp [World.setRow], fun k _ hk => ?_⟩⟩
  · simp [World.setRow, Array.getElem?_modify, h]
  · have : b ≠ k := fun e => hk (by rw [e])
    simp [World.setRow, Array.getElem?_modify, this]
attribute [local go_sem ↓] ptLd_op ptSt_op
set_option maxHeartbeats 8000000 in
theorem rquarters_no (v : Value) (L : List Int) (w : World) (h : RL eI 1 w v L) (hl : (L.length : Int) ≤ 9223372036854775807) (hz : ¬ hE L = 0) : Calls Tryd.prog 10 #[v] w fun e w' => e = .returned (.tuple #[pt8 (qfE L), .int .i64 (hE L)]) ∧ Below w.heap.size w w' := by
  have H := hid h
  obtain ⟨ao, cp, rfl⟩ := h.len0
  have CK := hid (fun (wx : World) (hx : RL eI 1 wx (.slice ao L.length cp) L) => history_any _ L wx hx hl)
  clear h
  obtain ⟨W1, hW1⟩ : ∃ W, w.alloc (.cells #[.float .f64 0, .float .f64 0, .float .f64 0, .float .f64 0, .float .f64 0, .float .f64 0, .float .f64 0, .float .f64 0] 36) = W := ⟨_, rfl⟩
  obtain ⟨W2, hW2⟩ : ∃ W, W1.alloc (.cells #[.float .f64 0, .float .f64 0, .float .f64 0, .float .f64 0, .float .f64 0, .float .f64 0, .float .f64 0, .float .f64 0] 36) = W := ⟨_, rfl⟩
  have zz : W1.heap.size = w.heap.size + 1 := by rw [← hW1, World.size_alloc]
  have B1 : Below w.heap.size w W1 := by rw [← hW1]; exact alloc_below _ _
  have B2 : Below W1.heap.size W1 W2 := by rw [← hW2]; exact alloc_below _ _
  have r1 : W1.heap[w.heap.size]? = some (.cells (qA (qf L) 0) 36 (0, 0)) := by rw [← hW1]; exact heap_alloc_new w _
  have r2 : W2.heap[w.heap.size]? = some (.cells (qA (qf L) 0) 36 (0, 0)) := (B2.block _ (by omega)).trans r1
  have q2 : W2.heap[w.heap.size + 1]? = some (.cells (qA (qf L) 0) 36 (0, 0)) := by rw [← hW2, ← zz]; exact heap_alloc_new W1 _
  have RR := hid (And.intro r2 (And.intro q2 (bel_step B1 B2)))
  have HW := hid (And.intro hW1 hW2)
  clear hW1 hW2 zz B1 B2 r1 r2 q2
  go_enter Tryd.func10, Tryd.ntmps10
  go_wp2_with fail
  rw [HW.out.1, HW.out.2]
  refine Calls.mono (CK.out _ (H.out.below RR.out.2.2)) ?_
  rintro e w1 ⟨rfl, rfl⟩
  clear HW
  generalize hqb : w.heap.size + 1 = qb at *
  generalize hrb : w.heap.size = rb at *
  have HE := hid (And.intro hqb hrb)
  clear hqb hrb
  have z1 : w1.heap[rb]? = some (.cells (qA (fun _ => (0, 0)) 4) 36 (0, 0)) := RR.out.1
  have z2 : w1.heap[qb]? = some (.cells (qA (fun _ => (0, 0)) 4) 36 (0, 0)) := RR.out.2.1
  obtain ⟨gz, hgz⟩ : ∃ gz : Nat → Nat × Nat, gz = fun _ => (0, 0) := ⟨_, rfl⟩
  rw [← hgz] at z1 z2
  have EQ := hid (show qfE L = gz by rw [hgz]; exact funext fun k => if_neg hz)
  have EL := run_ptLd z2
  obtain ⟨W, ES, hW, gW⟩ := run_ptSt (g := gz) z1
  have EL2 := run_ptLd hW
  have BF := hid (RR.out.2.2.grown gW (by have := RR.out.2.2.size; have := HE.out; omega) (fun b hb => by cases hb; exact Nat.le_refl _))
  generalize hpv : pt8 gz = pv at *
  have HPV := hid hpv
  clear hpv
  generalize hqe : hE L = er at *
  have HQE := hid hqe
  clear hqe z1 z2 hW gW hgz RR
  go_wp2_with fail
  refine bodyPost_ret (v := .tuple #[pv, .int .i64 er]) (by simp [results, Tryd.results10, asAddr, ↓ptLd_op, EL2]) rfl ?_
  exact ⟨by rw [EQ.out, HQE.out, HPV.out], by rw [HE.out.2]; exact BF.out⟩
theorem rquarters_any (v : Value) (L : List Int) (w : World) (h : RL eI 1 w v L) (hl : (L.length : Int) ≤ 9223372036854775807) : Calls Tryd.prog 10 #[v] w fun e w' => e = .returned (.tuple #[pt8 (qfE L), .int .i64 (hE L)]) ∧ Below w.heap.size w w' := by
  by_cases hz : hE L = 0
  · exact rquarters_yes v L w h hl hz
  · exact rquarters_no v L w h hl hz
theorem qfE_nan (L : List Int) (k : Nat) : nanB (qfE L k).1 = false ∧ nanB (qfE L k).2 = false := by
  unfold qfE
  split
  · exact ⟨intf_nan _, intf_nan _⟩
  · exact ⟨zero_FV.nan, zero_FV.nan⟩
end Go.Proofs.YtgnnopjkbmbjbabDoor
