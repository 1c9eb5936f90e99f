/-
  Sheets: the twenty variables of errors; variable, errors.Is, kinds. Laid by mksva.py.
-/
import Derived.Test.YtpgpeafmlijfkaaGreatDoorSnt
import Derived.Test.YtpgpeafmlijfkaaGreatDoorSkc
namespace Go.Proofs.YtpgpeafmlijfkaaGreatDoor
open Go.RowKit Go.ChangeShapes
set_option maxRecDepth 100000
set_option linter.unusedVariables false
set_option linter.unusedSimpArgs false

def gls20 : List Nat := [2, 6, 1, 7, 8, 9, 10, 3, 4, 11, 12, 13, 14, 15, 16, 17, 18, 19, 20, 0]
def txs20 : List (List UInt8) := [[97, 32, 113, 117, 111, 116, 101, 100, 32, 99, 101, 108, 108, 32, 105, 115, 32, 110, 111, 116, 32, 99, 108, 111, 115, 101, 100], [97, 32, 113, 117, 111, 116, 101, 32, 109, 97, 121, 32, 110, 111, 116, 32, 115, 116, 97, 110, 100, 32, 104, 101, 114, 101], [97, 32, 108, 105, 110, 101, 32, 109, 97, 121, 32, 110, 111, 116, 32, 101, 110, 100, 32, 115, 111], [116, 104, 105, 115, 32, 98, 121, 116, 101, 32, 109, 97, 121, 32, 110, 111, 116, 32, 115, 116, 97, 110, 100, 32, 104, 101, 114, 101], [116, 104, 101, 32, 99, 101, 108, 108, 32, 105, 115, 32, 116, 111, 111, 32, 108, 111, 110, 103], [116, 111, 111, 32, 109, 97, 110, 121, 32, 99, 101, 108, 108, 115], [116, 111, 111, 32, 109, 97, 110, 121, 32, 114, 111, 119, 115], [110, 111, 116, 32, 97, 115, 32, 109, 97, 110, 121, 32, 99, 101, 108, 108, 115, 32, 97, 115, 32, 116, 104, 101, 32, 102, 105, 114, 115, 116, 32, 114, 111, 119, 32, 104, 97, 115], [116, 104, 101, 32, 114, 101, 97, 100, 101, 114, 32, 104, 97, 115, 32, 101, 110, 100, 101, 100], [116, 104, 101, 32, 99, 111, 108, 117, 109, 110, 115, 32, 109, 97, 121, 32, 110, 111, 116, 32, 98, 101, 32, 115, 111], [97, 32, 99, 111, 108, 117, 109, 110, 32, 105, 115, 32, 109, 105, 115, 115, 105, 110, 103], [97, 32, 99, 111, 108, 117, 109, 110, 32, 115, 116, 97, 110, 100, 115, 32, 116, 119, 105, 99, 101], [116, 104, 101, 32, 99, 101, 108, 108, 32, 105, 115, 32, 101, 109, 112, 116, 121], [116, 104, 105, 115, 32, 105, 115, 32, 110, 111, 32, 110, 117, 109, 98, 101, 114], [116, 104, 105, 115, 32, 105, 115, 32, 110, 111, 32, 112, 114, 105, 99, 101], [116, 104, 105, 115, 32, 105, 115, 32, 110, 111, 32, 100, 97, 121], [116, 104, 105, 115, 32, 105, 115, 32, 110, 111, 32, 99, 111, 100, 101], [116, 104, 105, 115, 32, 105, 115, 32, 110, 101, 105, 116, 104, 101, 114, 32, 121, 101, 115, 32, 110, 111, 114, 32, 110, 111], [116, 104, 105, 115, 32, 118, 97, 108, 117, 101, 32, 109, 97, 121, 32, 110, 111, 116, 32, 98, 101], [116, 104, 101, 32, 116, 101, 120, 116, 32, 105, 115, 32, 116, 111, 111, 32, 108, 111, 110, 103]]
def gV (c : Nat) : Nat := gls20.getD (c - 1) 0
def tV (c : Nat) : List UInt8 := txs20.getD (c - 1) []
/-- the twenty variables hold errors of errors.New's make, each with its text -/
def Sn (A : Nat → Addr) (w : World) : Prop := ∀ c, 1 ≤ c → c ≤ 20 → SE w (gV c) (A c) (tV c)
theorem Sn.below {A : Nat → Addr} {w w' : World} (h : Sn A w) (hb : Below w.heap.size w w') : Sn A w' := fun c h1 h2 => (h c h1 h2).below hb
theorem tV_ne : ∀ c d : Fin 21, 1 ≤ c.1 → 1 ≤ d.1 → c ≠ d → tV c.1 ≠ tV d.1 := by decide +kernel
theorem Sn.ne {A : Nat → Addr} {w : World} (h : Sn A w) {c d : Nat} (hc : 1 ≤ c ∧ c ≤ 20) (hd : 1 ≤ d ∧ d ≤ 20) (hne : c ≠ d) : A c ≠ A d :=
  (h c hc.1 hc.2).ne (h d hd.1 hd.2) (tV_ne ⟨c, by omega⟩ ⟨d, by omega⟩ hc.1 hd.1 (fun e => hne (congrArg Fin.val e)))
theorem Sn.lie {A : Nat → Addr} {w : World} (h : Sn A w) {c : Nat} (hc : 1 ≤ c ∧ c ≤ 20) : ∃ ca ta, w.heap[(A c).block]? = some (.cells ca ta (0, 0)) := by
  obtain ⟨_, _, x, t, hl⟩ := h c hc.1 hc.2
  exact ⟨x, t, hl⟩
theorem Sn.he {A : Nat → Addr} {w : World} (h : Sn A w) : HE A w :=
  ⟨(h 1 (by omega) (by omega)).1, (h 2 (by omega) (by omega)).1, (h 3 (by omega) (by omega)).1, (h 4 (by omega) (by omega)).1, (h 5 (by omega) (by omega)).1, (h 6 (by omega) (by omega)).1, (h 7 (by omega) (by omega)).1, (h 8 (by omega) (by omega)).1, (h 9 (by omega) (by omega)).1, (h 20 (by omega) (by omega)).1⟩
/-- errors.Is of a Fault, at each of the twenty -/
theorem is_at (A : Nat → Addr) (f c d : Nat) (x y : Value) (w : World) (h : w.heap[f]? = some (.cells #[x, y, erV A c] 64 (0, 0))) (hA : Sn A w) (hc : 1 ≤ c ∧ c ≤ 20) (hd : 1 ≤ d ∧ d ≤ 20) :
    Calls Tryz.prog 21 #[.iface 59 (.pointer (some ⟨f, 0, none⟩)), .iface 208 (.pointer (some (A d)))] w fun e w' => e = .returned (.bool (decide (c = d))) ∧ w' = w := by
  rw [erV_pos A (by omega)] at h
  refine is_of _ _ _ w _ ?_
  by_cases hcd : c = d
  · subst hcd
    rw [decide_eq_true rfl]
    exact is0_fault_same f (A c) _ _ w h
  · rw [decide_eq_false hcd]
    obtain ⟨ca, ta, ha⟩ := hA.lie hc
    obtain ⟨cb, tb, hb⟩ := hA.lie hd
    exact is0_fault_other f (A c) (A d) _ _ ca cb ta tb w h (hA.ne hc hd hcd) ha hb
def errs (A : Nat → Addr) : Array Value := #[.iface 208 (.pointer (some (A 1))), .iface 208 (.pointer (some (A 2))), .iface 208 (.pointer (some (A 3))), .iface 208 (.pointer (some (A 4))), .iface 208 (.pointer (some (A 5))), .iface 208 (.pointer (some (A 6))), .iface 208 (.pointer (some (A 7))), .iface 208 (.pointer (some (A 8))), .iface 208 (.pointer (some (A 9))), .iface 208 (.pointer (some (A 10))), .iface 208 (.pointer (some (A 11))), .iface 208 (.pointer (some (A 12))), .iface 208 (.pointer (some (A 13))), .iface 208 (.pointer (some (A 14))), .iface 208 (.pointer (some (A 15))), .iface 208 (.pointer (some (A 16))), .iface 208 (.pointer (some (A 17))), .iface 208 (.pointer (some (A 18))), .iface 208 (.pointer (some (A 19))), .iface 208 (.pointer (some (A 20)))]
theorem errs_at (A : Nat → Addr) (j : Nat) (h : j < 20) : (errs A)[j]? = some (.iface 208 (.pointer (some (A (j + 1))))) := by
  match j, h with
  | 0, _ => rfl
  | 1, _ => rfl
  | 2, _ => rfl
  | 3, _ => rfl
  | 4, _ => rfl
  | 5, _ => rfl
  | 6, _ => rfl
  | 7, _ => rfl
  | 8, _ => rfl
  | 9, _ => rfl
  | 10, _ => rfl
  | 11, _ => rfl
  | 12, _ => rfl
  | 13, _ => rfl
  | 14, _ => rfl
  | 15, _ => rfl
  | 16, _ => rfl
  | 17, _ => rfl
  | 18, _ => rfl
  | 19, _ => rfl
  | n + 20, h => exact absurd h (by omega)
set_option maxHeartbeats 1000000 in
theorem variable_any (A : Nat → Addr) (j : Nat) (hj : j < 20) (z : Int) (hz : z = (j : Int) + 1) (w : World) (h : Sn A w) :
    Calls Tryz.prog 25 #[.int .i64 z] w fun e w' => e = .returned (.iface 208 (.pointer (some (A (j + 1))))) ∧ w' = w.alloc (.cells (errs A) 41) := by
  subst hz
  have e1 : w.cell? ⟨2, 0, none⟩ = some (.iface 208 (.pointer (some (A 1)))) := (h 1 (by omega) (by omega)).1
  have e2 : w.cell? ⟨6, 0, none⟩ = some (.iface 208 (.pointer (some (A 2)))) := (h 2 (by omega) (by omega)).1
  have e3 : w.cell? ⟨1, 0, none⟩ = some (.iface 208 (.pointer (some (A 3)))) := (h 3 (by omega) (by omega)).1
  have e4 : w.cell? ⟨7, 0, none⟩ = some (.iface 208 (.pointer (some (A 4)))) := (h 4 (by omega) (by omega)).1
  have e5 : w.cell? ⟨8, 0, none⟩ = some (.iface 208 (.pointer (some (A 5)))) := (h 5 (by omega) (by omega)).1
  have e6 : w.cell? ⟨9, 0, none⟩ = some (.iface 208 (.pointer (some (A 6)))) := (h 6 (by omega) (by omega)).1
  have e7 : w.cell? ⟨10, 0, none⟩ = some (.iface 208 (.pointer (some (A 7)))) := (h 7 (by omega) (by omega)).1
  have e8 : w.cell? ⟨3, 0, none⟩ = some (.iface 208 (.pointer (some (A 8)))) := (h 8 (by omega) (by omega)).1
  have e9 : w.cell? ⟨4, 0, none⟩ = some (.iface 208 (.pointer (some (A 9)))) := (h 9 (by omega) (by omega)).1
  have e10 : w.cell? ⟨11, 0, none⟩ = some (.iface 208 (.pointer (some (A 10)))) := (h 10 (by omega) (by omega)).1
  have e11 : w.cell? ⟨12, 0, none⟩ = some (.iface 208 (.pointer (some (A 11)))) := (h 11 (by omega) (by omega)).1
  have e12 : w.cell? ⟨13, 0, none⟩ = some (.iface 208 (.pointer (some (A 12)))) := (h 12 (by omega) (by omega)).1
  have e13 : w.cell? ⟨14, 0, none⟩ = some (.iface 208 (.pointer (some (A 13)))) := (h 13 (by omega) (by omega)).1
  have e14 : w.cell? ⟨15, 0, none⟩ = some (.iface 208 (.pointer (some (A 14)))) := (h 14 (by omega) (by omega)).1
  have e15 : w.cell? ⟨16, 0, none⟩ = some (.iface 208 (.pointer (some (A 15)))) := (h 15 (by omega) (by omega)).1
  have e16 : w.cell? ⟨17, 0, none⟩ = some (.iface 208 (.pointer (some (A 16)))) := (h 16 (by omega) (by omega)).1
  have e17 : w.cell? ⟨18, 0, none⟩ = some (.iface 208 (.pointer (some (A 17)))) := (h 17 (by omega) (by omega)).1
  have e18 : w.cell? ⟨19, 0, none⟩ = some (.iface 208 (.pointer (some (A 18)))) := (h 18 (by omega) (by omega)).1
  have e19 : w.cell? ⟨20, 0, none⟩ = some (.iface 208 (.pointer (some (A 19)))) := (h 19 (by omega) (by omega)).1
  have e20 : w.cell? ⟨0, 0, none⟩ = some (.iface 208 (.pointer (some (A 20)))) := (h 20 (by omega) (by omega)).1
  have hc : (w.alloc (.cells (errs A) 41)).cell? ⟨w.heap.size, j, none⟩ = some (.iface 208 (.pointer (some (A (j + 1))))) := by
    rw [Lib.cell_of_heap (heap_alloc_new w _)]
    exact errs_at A j hj
  have hJ : (j : Int) < 20 := by omega
  have hJ0 : (0 : Int) ≤ (j : Int) := by omega
  obtain ⟨W, hW⟩ : ∃ W, W = w.alloc (.cells (errs A) 41) := ⟨_, rfl⟩
  rw [← hW] at hc ⊢
  have HW := hid (show w.alloc (.cells #[.iface 208 (.pointer (some (A 1))), .iface 208 (.pointer (some (A 2))), .iface 208 (.pointer (some (A 3))), .iface 208 (.pointer (some (A 4))), .iface 208 (.pointer (some (A 5))), .iface 208 (.pointer (some (A 6))), .iface 208 (.pointer (some (A 7))), .iface 208 (.pointer (some (A 8))), .iface 208 (.pointer (some (A 9))), .iface 208 (.pointer (some (A 10))), .iface 208 (.pointer (some (A 11))), .iface 208 (.pointer (some (A 12))), .iface 208 (.pointer (some (A 13))), .iface 208 (.pointer (some (A 14))), .iface 208 (.pointer (some (A 15))), .iface 208 (.pointer (some (A 16))), .iface 208 (.pointer (some (A 17))), .iface 208 (.pointer (some (A 18))), .iface 208 (.pointer (some (A 19))), .iface 208 (.pointer (some (A 20)))] 41) = W from hW.symm)
  clear h hW
  go_enter Tryz.func25, Tryz.ntmps25
  go_wp2_with fail
  go_ret
  refine ⟨congrArg Ending.returned ?_, HW.out⟩
  exact (Array.getElem?_eq_some_iff.1 (errs_at A j hj)).2
set_option maxHeartbeats 2000000 in
/-- a Fault of one of the twenty is of one kind -/
theorem kinds_any (A : Nat → Addr) (f c : Nat) (x y : Value) (w : World) (h : w.heap[f]? = some (.cells #[x, y, erV A c] 64 (0, 0))) (hA : Sn A w) (hc : 1 ≤ c ∧ c ≤ 20) :
    Calls Tryz.prog 26 #[.iface 59 (.pointer (some ⟨f, 0, none⟩))] w fun e w' => e = .returned (.int .i64 1) ∧ Below w.heap.size w w' := by
  have HH := hid h
  have HA := hid hA
  have hfl : f < w.heap.size := (Array.getElem?_eq_some_iff.1 h).1
  clear h hA
  go_enter Tryz.func26, Tryz.ntmps26
  go_wp2_with fail
  go_loopw [3, 4] (fun n k wr => ∃ j : Nat, j ≤ 20 ∧ k = .int .i64 ((j : Int) + 1) ∧ n = .int .i64 (if c ≤ j then 1 else 0) ∧ Below w.heap.size w wr) (fun _ k _ => 21 - (intOf k).toNat)
  case atStart => exact ⟨0, by omega, rfl, by rw [if_neg (by omega)], Below.refl _ _⟩
  case round =>
    obtain ⟨j, hj, rfl, rfl, hbl⟩ := hrel
    by_cases hlt : j < 20
    · have hI : (j : Int) + 1 ≤ 20 := by omega
      have hf1 := (hbl.block f hfl).trans HH.out
      have HV := hid (variable_any A j hlt _ rfl wr (HA.out.below hbl))
      have hb2 : Below wr.heap.size wr (wr.alloc (.cells (errs A) 41)) := (Below.refl _ _).alloc (Nat.le_refl _) _
      have hfl1 : f < wr.heap.size := (Array.getElem?_eq_some_iff.1 hf1).1
      have hi := is_at A f c (j + 1) x y (wr.alloc (.cells (errs A) 41)) ((hb2.block f hfl1).trans hf1) ((HA.out.below hbl).below hb2) hc ⟨by omega, by omega⟩
      have HBL := hid (hbl.trans (hb2.mono hbl.size))
      generalize wr.alloc (.cells (errs A) 41) = wv at *
      clear hf1 hbl hb2 hfl1
      by_cases hcj : c = j + 1
      · rw [decide_eq_true hcj] at hi
        have HI := hid hi
        have HC := hid hcj
        rw [if_neg (show ¬ c ≤ j by omega)]
        clear hi hcj
        go_wp2_with fail
        refine Calls.mono HV.out ?_
        rintro e w2 ⟨rfl, hw⟩
        replace hw := hw.symm
        subst hw
        go_wp2_with fail
        refine Calls.mono HI.out ?_
        rintro e w3 ⟨rfl, hw⟩
        replace hw := hw.symm
        subst hw
        go_wp2
        go_roundw
        case rel => exact ⟨j + 1, by omega, by go_num, by rw [if_pos (show c ≤ j + 1 by have := HC.out; omega)], HBL.out⟩
        case measure => simp [intOf]; omega
      · rw [decide_eq_false hcj] at hi
        have HI := hid hi
        have hif : (if c ≤ j then (1 : Int) else 0) = (if c ≤ j + 1 then 1 else 0) := by
          by_cases h1 : c ≤ j
          · rw [if_pos h1, if_pos (by omega)]
          · rw [if_neg h1, if_neg (by omega)]
        have HIf := hid hif
        generalize (if c ≤ j then (1 : Int) else 0) = q at *
        clear hi hcj hif
        go_wp2_with fail
        refine Calls.mono HV.out ?_
        rintro e w2 ⟨rfl, hw⟩
        replace hw := hw.symm
        subst hw
        go_wp2_with fail
        refine Calls.mono HI.out ?_
        rintro e w3 ⟨rfl, hw⟩
        replace hw := hw.symm
        subst hw
        go_wp2
        go_roundw
        case rel => exact ⟨j + 1, by omega, by go_num, by rw [HIf.out], HBL.out⟩
        case measure => simp [intOf]; omega
    · have hI : ¬ (j : Int) + 1 ≤ 20 := by omega
      rw [if_pos (show c ≤ j by omega)]
      go_wp2
      go_ret
      exact ⟨rfl, hbl⟩
end Go.Proofs.YtpgpeafmlijfkaaGreatDoor
