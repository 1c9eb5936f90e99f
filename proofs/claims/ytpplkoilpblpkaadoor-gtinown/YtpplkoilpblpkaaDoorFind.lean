/-
  Find: both sides.
-/
import Derived.Test.YtpplkoilpblpkaaDoorElems
import Derived.Test.YtpplkoilpblpkaaDoorShelf
namespace Go.Proofs.YtpplkoilpblpkaaDoor
open Go.RowKit
set_option maxRecDepth 100000

/-- what Find answers -/
def fnd (L : List El) (a : List UInt8) : Option ByteArray := (L.find? fun x => x.1.data.toList == a).map (·.2)
def fndV (L : List El) (a : List UInt8) : Value := .tuple #[.string ((fnd L a).getD ⟨#[]⟩), .bool (fnd L a).isSome]

theorem fnd_some {L : List El} {a : List UInt8} {j : Nat} (hj : j < L.length) (h : ∀ i (hi : i < j), (L[i]'(by omega)).1.data.toList ≠ a) (hn : L[j].1.data.toList = a) : fnd L a = some L[j].2 := by
  unfold fnd
  have e := (List.find?_eq_some_iff_getElem (p := fun x : El => x.1.data.toList == a) (xs := L) (b := L[j])).2 ⟨by simpa using hn, j, hj, rfl, fun i hi => by have := h i hi; simpa using this⟩
  rw [e]
  rfl
theorem fnd_none {L : List El} {a : List UInt8} (h : ∀ x ∈ L, x.1.data.toList ≠ a) : fnd L a = none := by
  unfold fnd
  rw [List.find?_eq_none.2]
  · rfl
  · intro x hx
    simpa using h x hx

theorem first_cases (L : List El) (a : List UInt8) : (∀ x ∈ L, x.1.data.toList ≠ a) ∨ ∃ (j : Nat) (hj : j < L.length), (∀ i (hi : i < j), (L[i]'(by omega)).1.data.toList ≠ a) ∧ L[j].1.data.toList = a := by
  induction L with
  | nil => exact .inl (by simp)
  | cons x t ih =>
    by_cases hx : x.1.data.toList = a
    · exact .inr ⟨0, by simp, fun i hi => by omega, by simpa using hx⟩
    · rcases ih with h | ⟨j, hj, h1, h2⟩
      · refine .inl fun y hy => ?_
        rcases List.mem_cons.1 hy with rfl | hy
        · exact hx
        · exact h y hy
      · refine .inr ⟨j + 1, by simpa using hj, fun i hi => ?_, by simpa using h2⟩
        cases i with
        | zero => simpa using hx
        | succ i => simpa using h1 i (by omega)

theorem clone_any (s : ByteArray) (w : World) (hs : s.size ≤ 281474976710656) :
    Calls Tryd.prog 25 #[.string s] w fun e w' => e = .returned (.string s) ∧ Below w.heap.size w w' := by
  have HC : Hid (_) := Tryd.stringslite_Clone s w hs
  clear hs
  go_enter Tryd.func25, Tryd.ntmps25
  go_wp2_with fail
  refine Calls.mono HC.out ?_
  rintro e w1 ⟨rfl, hb1⟩
  go_wp2
  go_ret
  exact ⟨rfl, hb1⟩

set_option maxHeartbeats 2000000 in
theorem find_any (v : Value) (L : List El) (a : ByteArray) (w : World) (hr : RE w v L) (hl : L.length ≤ 9223372036854775807) (hs : ∀ x ∈ L, x.2.size ≤ 281474976710656) :
    Calls Tryd.prog 11 #[v, .string a] w fun e w' => e = .returned (fndV L a.data.toList) ∧ Below w.heap.size w w' := by
  have HP : Hid (_) := placeOf_any v L a w hr hl
  have HL : Hid (_) := hl
  clear hl
  unfold fndV
  rcases first_cases L a.data.toList with h | ⟨j, hj, h1, h2⟩
  · rw [plc_none h] at HP
    rw [fnd_none h]
    clear hr hs h
    go_enter Tryd.func11, Tryd.ntmps11
    go_wp2_with fail
    refine Calls.mono HP.out ?_
    rintro e w1 ⟨rfl, hb1⟩
    go_wp2
    go_ret2
    exact ⟨rfl, hb1⟩
  · rw [plc_some hj h1 h2] at HP
    rw [fnd_some hj h1 h2]
    have hsz := hs _ (List.getElem_mem hj)
    rcases hr with ⟨rfl, _⟩ | ⟨b, off, cap, rfl, hcap, hcell⟩
    · simp at hj
    · have hcl := (hcell j hj).2
      have HCl : Hid (∀ w, Calls Tryd.prog 25 #[.string L[j].2] w fun e w' => e = .returned (.string L[j].2) ∧ Below w.heap.size w w') := fun w => clone_any _ w hsz
      clear hs h1 h2 hcell hsz
      generalize L[j].2 = y at HCl hcl
      have hl := HL.out
      go_enter Tryd.func11, Tryd.ntmps11
      go_wp2_with fail
      refine Calls.mono HP.out ?_
      rintro e w1 ⟨rfl, hb1⟩
      have c1 := below_cells hb1 _ _ hcl
      have hz := hb1.size
      clear HP hcl
      have hjI : (j : Int) < (L.length : Int) := by omega
      go_wp2_with fail
      refine (HCl.out w1).mono ?_
      rintro e w2 ⟨rfl, hb2⟩
      go_wp2
      go_ret2
      exact ⟨rfl, hb1.trans (hb2.mono hz)⟩

end Go.Proofs.YtpplkoilpblpkaaDoor
