/-
  Lists of elements in memory; the first one with an Ai: placeOf.
-/
import Derived.Test.YtpplkoilpblpkaaDoorBytes
import Derived.Test.YtpplkoilpblpkaaDoorSums
import Derived.Handy
import Derived.Laws.EntriesVeiled
namespace Go.Proofs.YtpplkoilpblpkaaDoor
open Go.RowKit
set_option maxRecDepth 100000

abbrev El := ByteArray × ByteArray

/-- the slice v reads as the elements L -/
def RE (w : World) (v : Value) (L : List El) : Prop :=
  (L = [] ∧ ∃ ao cap, v = .slice ao 0 cap ∧ (ao = none → cap = 0)) ∨
  ∃ b off cap, v = .slice (some ⟨b, off, none⟩) L.length cap ∧ L.length ≤ cap ∧ ∀ j (hj : j < L.length), w.cell? ⟨b, off + j * 2, none⟩ = some (.string L[j].1) ∧ w.cell? ⟨b, off + j * 2 + 1, none⟩ = some (.string L[j].2)

theorem RE.below {w w' : World} {v : Value} {L : List El} (h : RE w v L) (hb : Below w.heap.size w w') : RE w' v L := by
  rcases h with h | ⟨b, off, cap, hv, hc, hcell⟩
  · exact .inl h
  · exact .inr ⟨b, off, cap, hv, hc, fun j hj => ⟨below_cells hb _ _ (hcell j hj).1, below_cells hb _ _ (hcell j hj).2⟩⟩

/-- the place of the first element with this Ai, or -1 -/
def plN : List El → List UInt8 → Nat → Int
  | [], _, _ => -1
  | x :: t, a, k => if x.1.data.toList = a then (k : Int) else plN t a (k + 1)
def plc (L : List El) (a : List UInt8) : Int := plN L a 0

theorem plN_none (L : List El) (a : List UInt8) (k : Nat) (h : ∀ x ∈ L, x.1.data.toList ≠ a) : plN L a k = -1 := by
  induction L generalizing k with
  | nil => rfl
  | cons x t ih => unfold plN; rw [if_neg (h x (by simp)), ih _ (fun y hy => h y (by simp [hy]))]
theorem plN_some (L : List El) (a : List UInt8) (k j : Nat) (hj : j < L.length) (h : ∀ i (hi : i < j), (L[i]'(by omega)).1.data.toList ≠ a) (hn : L[j].1.data.toList = a) : plN L a k = ((k + j : Nat) : Int) := by
  induction L generalizing k j with
  | nil => simp at hj
  | cons x t ih =>
    unfold plN
    cases j with
    | zero => rw [if_pos (by simpa using hn)]; rfl
    | succ j =>
      rw [if_neg (by have := h 0 (by omega); simpa using this), ih (k + 1) j (by simpa using hj) (fun i hi => by have := h (i + 1) (by omega); simpa using this) (by simpa using hn)]
      congr 1
      omega
theorem plc_none {L : List El} {a : List UInt8} (h : ∀ x ∈ L, x.1.data.toList ≠ a) : plc L a = -1 := plN_none L a 0 h
theorem plc_some {L : List El} {a : List UInt8} {j : Nat} (hj : j < L.length) (h : ∀ i (hi : i < j), (L[i]'(by omega)).1.data.toList ≠ a) (hn : L[j].1.data.toList = a) : plc L a = (j : Int) := by
  have := plN_some L a 0 j hj h hn
  simpa [plc] using this

set_option maxHeartbeats 800000 in
theorem closure_any (x y a : ByteArray) (g : Nat) (w : World) (hc : w.cell? ⟨g, 0, none⟩ = some (.string a)) :
    Calls Tryd.prog 39 #[.agg #[.string x, .string y], .pointer (some ⟨g, 0, none⟩)] w fun e w' => e = .returned (.bool (decide (x.data.toList = a.data.toList))) ∧ Below w.heap.size w w' := by
  have hc1 : (w.alloc (.cells #[.string x, .string y] 36)).cell? ⟨g, 0, none⟩ = some (.string a) := below_cells ((Below.refl _ _).alloc (Nat.le_refl _) _) _ _ hc
  go_enter Tryd.func39, Tryd.ntmps39
  go_wp2
  go_ret
  refine ⟨ret_bool ?_, (Below.refl _ _).alloc (Nat.le_refl _) _⟩
  rw [ByteArray.toList_eq, ByteArray.toList_eq, Bool.eq_iff_iff]
  simp

set_option maxHeartbeats 2000000 in
theorem indexFunc_any (v : Value) (L : List El) (a : ByteArray) (g : Nat) (w : World) (hr : RE w v L) (hl : L.length ≤ 9223372036854775807) (hc : w.cell? ⟨g, 0, none⟩ = some (.string a)) :
    Calls Tryd.prog 38 #[v, .func (.func 39) #[] #[.pointer (some ⟨g, 0, none⟩)]] w fun e w' => e = .returned (.int .i64 (plc L a.data.toList)) ∧ Below w.heap.size w w' := by
  have HL : Hid (_) := hl
  clear hl
  rcases hr with ⟨rfl, ao, cap, rfl, _⟩ | ⟨b, off, cap, rfl, hcap, hcell⟩
  · go_enter Tryd.func38, Tryd.ntmps38
    go_wp2_with fail
    go_rounds 1
    go_ret
    exact ⟨rfl, Below.refl _ _⟩
  · have HC : Hid (_) := hcell
    clear hcell
    go_enter Tryd.func38, Tryd.ntmps38
    go_wp2_with fail
    go_loopw [8] (fun i wr => ∃ k : Nat, k ≤ L.length ∧ i = .int .i64 (k : Int) ∧ Below w.heap.size w wr ∧ ∀ j (hj : j < k) (hk : k ≤ L.length), (L[j]'(by omega)).1.data.toList ≠ a.data.toList) (fun i _ => L.length - (intOf i).toNat)
    case atStart => exact ⟨0, by omega, rfl, Below.refl _ _, fun j hj => by omega⟩
    case round =>
      obtain ⟨k, hk, rfl, hbl, hall⟩ := hrel
      have HA : Hid (_) := hall
      clear hall
      have hz := hbl.size
      by_cases hlt : k < L.length
      · have hcl := HC.out k hlt
        have c0 := below_cells hbl _ _ hcl.1
        have c1 := below_cells hbl _ _ hcl.2
        have cg := below_cells hbl _ _ hc
        have hl := HL.out
        clear hcl
        have HQ : Hid (_) := closure_any (L[k]'hlt).1 (L[k]'hlt).2 a g wr cg
        clear cg
        by_cases he : (L[k]'hlt).1.data.toList = a.data.toList
        · rw [decide_eq_true he] at HQ
          go_wp2_with fail
          refine Calls.mono HQ.out ?_
          rintro e w2 ⟨rfl, hb2⟩
          go_wp2
          go_ret
          refine ⟨ret_int ?_, hbl.trans (hb2.mono hz)⟩
          rw [plc_some hlt (fun i hi => HA.out i hi hk) he]
        · rw [decide_eq_false he] at HQ
          go_wp2_with fail
          refine Calls.mono HQ.out ?_
          rintro e w2 ⟨rfl, hb2⟩
          go_wp2
          go_roundw
          case rel =>
            refine ⟨k + 1, by omega, by go_num, hbl.trans (hb2.mono hz), fun j hj hk1 => ?_⟩
            by_cases e : j = k
            · subst e; exact he
            · exact HA.out j (by omega) (by omega)
          case measure => simp [intOf]; omega
      · go_wp2
        go_ret
        refine ⟨ret_int ?_, hbl⟩
        refine (plc_none fun x hx => ?_).symm
        obtain ⟨i, hi, rfl⟩ := List.mem_iff_getElem.1 hx
        exact HA.out i (by omega) hk

set_option maxHeartbeats 800000 in
theorem placeOf_any (v : Value) (L : List El) (a : ByteArray) (w : World) (hr : RE w v L) (hl : L.length ≤ 9223372036854775807) :
    Calls Tryd.prog 24 #[v, .string a] w fun e w' => e = .returned (.int .i64 (plc L a.data.toList)) ∧ Below w.heap.size w w' := by
  have hb0 := (Below.refl w.heap.size w).alloc (Nat.le_refl _) (.cells #[.string a] 9)
  have HI : Hid (_) := indexFunc_any v L a w.heap.size (w.alloc (.cells #[.string a] 9)) (hr.below hb0) hl (by simp)
  clear hr hl
  go_enter Tryd.func24, Tryd.ntmps24
  go_wp2_with fail
  refine Calls.mono HI.out ?_
  rintro e w1 ⟨rfl, hb1⟩
  go_wp2
  go_ret
  exact ⟨rfl, hb0.trans (hb1.mono (by simp))⟩
end Go.Proofs.YtpplkoilpblpkaaDoor
