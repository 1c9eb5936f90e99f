/-
  plan: quarter.
-/
import Derived.Test.YtgnnopjkbmbjbaaDoorFs2
namespace Go.Proofs.YtgnnopjkbmbjbaaDoor
open Go.RowKit
set_option maxRecDepth 100000
set_option linter.unusedSimpArgs false

/-- the powers of -i -/
def trR (j : Nat) : Int := match j with | 0 => 1 | 1 => 0 | 2 => -1 | _ => 0
def trI (j : Nat) : Int := match j with | 0 => 0 | 1 => -1 | 2 => 0 | _ => 1
/-- the table lies there -/
def HasTu (w : World) : Prop := ∀ j, j < 4 → w.cell? ⟨0, j * 2, none⟩ = some (.int .i64 (trR j)) ∧ w.cell? ⟨0, j * 2 + 1, none⟩ = some (.int .i64 (trI j))
theorem HasTu.below {w w' : World} (h : HasTu w) (hb : Below w.heap.size w w') : HasTu w' := fun j hj => ⟨below_cells hb _ _ (h j hj).1, below_cells hb _ _ (h j hj).2⟩
def qre (L : List Int) (k : Nat) : Nat → Int
  | 0 => 0
  | T + 1 => qre L k T + trR (k * T % 4) * (L[T]?).getD 0
def qim (L : List Int) (k : Nat) : Nat → Int
  | 0 => 0
  | T + 1 => qim L k T + trI (k * T % 4) * (L[T]?).getD 0
theorem tr_abs (j : Nat) {x : Int} (h0 : 0 ≤ x) (h1 : x ≤ 1099511627776) : (-1099511627776 ≤ trR j * x ∧ trR j * x ≤ 1099511627776) ∧ -1099511627776 ≤ trI j * x ∧ trI j * x ≤ 1099511627776 := by
  unfold trR trI
  rcases j with _ | _ | _ | _ <;> simp <;> omega
theorem q_bound {L : List Int} (h : HOk L) (k : Nat) : ∀ T : Nat, (-(1099511627776 * (T : Int)) ≤ qre L k T ∧ qre L k T ≤ 1099511627776 * (T : Int)) ∧ -(1099511627776 * (T : Int)) ≤ qim L k T ∧ qim L k T ≤ 1099511627776 * (T : Int)
  | 0 => by simp [qre, qim]
  | T + 1 => by
    have ih := q_bound h k T
    have hx : 0 ≤ (L[T]?).getD 0 ∧ (L[T]?).getD 0 ≤ 1099511627776 := by
      cases hq : L[T]? with
      | none => simp
      | some x => exact h x (List.mem_of_getElem? hq)
    have := tr_abs (k * T % 4) hx.1 hx.2
    simp only [qre, qim]
    omega
/-- four numbers' parts -/
def qf (L : List Int) (k : Nat) : Nat × Nat := (floatOfInt .f64 (qre L k L.length), floatOfInt .f64 (qim L k L.length))
theorem intf_nan (n : Int) : nanB (floatOfInt .f64 n) = false := (write_read (d := .number (decide (n < 0)) n.natAbs 0) rfl).1
theorem cell2 (w : World) (t : TypeId) (a b : Value) : (w.alloc (.cells #[a, b] t)).cell? ⟨w.heap.size, 0, none⟩ = some a ∧ (w.alloc (.cells #[a, b] t)).cell? ⟨w.heap.size, 1, none⟩ = some b := by
  rw [Lib.cell_of_heap (heap_alloc_new w _), Lib.cell_of_heap (heap_alloc_new w _)]
  exact ⟨rfl, rfl⟩
set_option maxHeartbeats 4000000 in
theorem quarter_any (v : Value) (L : List Int) (k : Nat) (hk4 : k < 4) (w : World) (h : RL eI 1 w v L) (hT : HasTu w) (hH : HOk L) (hl : L.length ≤ 4096) : Calls Tryd.prog 9 #[v, .int .i64 (k : Int)] w fun e w' => e = .returned (.complex .f64 (qf L k).1 (qf L k).2) ∧ Below w.heap.size w w' := by
  have H := hid h
  have HT := hid hT
  have HL := hid hl
  have QB := hid (q_bound hH k)
  have HX := hid hH
  obtain ⟨ao, cp, rfl⟩ := h.len0
  clear h hT hH
  go_enter Tryd.func9, Tryd.ntmps9
  go_wp2_with fail
  go_loopw [12, 5, 6] (fun i re im wr => ∃ T : Nat, T ≤ L.length ∧ i = .int .i64 (T : Int) ∧ re = .int .i64 (qre L k T) ∧ im = .int .i64 (qim L k T) ∧ Below w.heap.size w wr) (fun i _ _ _ => L.length - (intOf i).toNat)
  case atStart => exact ⟨0, by omega, rfl, rfl, rfl, Below.refl _ _⟩
  case round =>
    obtain ⟨T, hTl, rfl, rfl, rfl, hb⟩ := hrel
    have HB := hid hb
    by_cases hlt : T < L.length
    · have hIk : (T : Int) < (L.length : Int) := by omega
      obtain ⟨g, off, c, e1, hc, c0⟩ := int_at (H.out.below hb) T hlt
      cases e1
      have ER := hid (show qre L k (T + 1) = qre L k T + trR (k * T % 4) * L[T]'hlt by simp [qre, List.getElem?_eq_getElem hlt])
      have EI := hid (show qim L k (T + 1) = qim L k T + trI (k * T % 4) * L[T]'hlt by simp [qim, List.getElem?_eq_getElem hlt])
      have b0 := QB.out T
      have hl2 := HL.out
      have bx := HX.out _ (List.getElem_mem hlt)
      have tb := (HT.out.below hb) (k * T % 4) (by omega)
      obtain ⟨p, hp⟩ : ∃ p : Nat, k * T = p := ⟨_, rfl⟩
      have pI : (k : Int) * (T : Int) = (p : Int) := by rw [← hp]; exact (Int.natCast_mul k T).symm
      have pB : (p : Int) ≤ 16384 := by rw [← hp]; have := Nat.mul_le_mul (show k ≤ 4 by omega) (show T ≤ 4096 by omega); omega
      have pM : (p : Int).tmod 4 = ((p % 4 : Nat) : Int) := by rw [Int.tmod_eq_emod_of_nonneg (by omega)]; omega
      rw [hp] at ER EI tb
      clear hb hp
      generalize L[T]'hlt = x at *
      generalize qre L k T = re at *
      generalize qim L k T = im at *
      have NA := hid (fun (a b : Int) => cell2 wr 42 (.int .i64 a) (.int .i64 b))
      rcases (show p % 4 = 0 ∨ p % 4 = 1 ∨ p % 4 = 2 ∨ p % 4 = 3 by omega) with hj | hj | hj | hj
      all_goals
        rw [hj] at ER EI tb pM
        have t0 := tb.1
        have t1 := tb.2
        simp only [trR, trI] at t0 t1 ER EI
        clear tb hj
        go_wp2_with fail
        go_roundw
        case rel => exact ⟨T + 1, by omega, by go_num, by rw [ER.out]; first | rfl | (congr 1; omega), by rw [EI.out]; first | rfl | (congr 1; omega), bel_step HB.out (alloc_below _ _)⟩
        case measure => simp [intOf]; omega
    · obtain rfl : T = L.length := by omega
      clear hb
      go_wp2
      go_ret
      exact ⟨rfl, HB.out⟩
end Go.Proofs.YtgnnopjkbmbjbaaDoor
