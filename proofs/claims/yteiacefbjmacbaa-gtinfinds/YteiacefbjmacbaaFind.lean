/-
  Find: both sides.
-/
import Derived.Test.YteiacefbjmacbaaElems
import Derived.Test.YteiacefbjmacbaaShelf
namespace Go.Proofs.Yteiacefbjmacbaa
open Go.RowKit
set_option maxRecDepth 100000

/-- what Find answers -/
def fnd (L : List El) (a : List UInt8) : Option ByteArray := (L.find? fun x => x.1.data.toList == a).map (·.2)
def fndV (L : List El) (a : List UInt8) : Value := .tuple #[.string ((fnd L a).getD ⟨#[]⟩), .bool (fnd L a).isSome]

theorem fnd_some {L : List El} {a : List UInt8} {j : Nat} (hj : j < L.length) (h : ∀ i (hi : i < j), (L[i]'(by omega)).1.data.toList ≠ a) (hn : L[j].1.data.toList = a) : fnd L a = some L[j].2 := by
  unfold fnd
  have e := (List.find?_eq_some_iff_getElem (p := fun x : El => x.1.data.toList == a) (xs := L) (b := L[j])).2 ⟨by simpa using hn, j, hj, rfl, fun i hi => by have := h i hi; simpa using this⟩
  rw [e]
  rfl
theorem fnd_none {L : List El} {a : List UInt8} (h : ∀ x ∈ L, x.1.data.toList ≠ a) : fnd L a = none := by
  unfold fnd
  rw [List.find?_eq_none.2]
  · rfl
  · intro x hx
    simpa using h x hx

theorem first_cases (L : List El) (a : List UInt8) : (∀ x ∈ L, x.1.data.toList ≠ a) ∨ ∃ (j : Nat) (hj : j < L.length), (∀ i (hi : i < j), (L[i]'(by omega)).1.data.toList ≠ a) ∧ L[j].1.data.toList = a := by
  induction L with
  | nil => exact .inl (by simp)
  | cons x t ih =>
    by_cases hx : x.1.data.toList = a
    · exact .inr ⟨0, by simp, fun i hi => by omega, by simpa using hx⟩
    · rcases ih with h | ⟨j, hj, h1, h2⟩
      · refine .inl fun y hy => ?_
        rcases List.mem_cons.1 hy with rfl | hy
        · exact hx
        · exact h y hy
      · refine .inr ⟨j + 1, by simpa using hj, fun i hi => ?_, by simpa using h2⟩
        cases i with
        | zero => simpa using hx
        | succ i => simpa using h1 i (by omega)

theorem clone_any (s : ByteArray) (w : World) (hs : s.size ≤ 281474976710656) :
    Calls Try.prog 22 #[.string s] w fun e w' => e = .returned (.string s) ∧ Below w.heap.size w w' := by
  have HC : Hid (_) := Try.stringslite_Clone s w hs
  clear hs
  go_enter Try.func22, Try.ntmps22
  go_wp2_with fail
  refine Calls.mono HC.out ?_
  rintro e w1 ⟨rfl, hb1⟩
  go_wp2
  go_ret
  exact ⟨rfl, hb1⟩

set_option maxHeartbeats 2000000 in
theorem find_any (v : Value) (L : List El) (a : ByteArray) (w : World) (hr : RE w v L) (hl : L.length ≤ 9223372036854775807) (hs : ∀ x ∈ L, x.2.size ≤ 281474976710656) :
    Calls Try.prog 10 #[v, .string a] w fun e w' => e = .returned (fndV L a.data.toList) ∧ Below w.heap.size w w' := by
  have HP : Hid (_) := placeOf_any v L a w hr hl
  have HL : Hid (_) := hl
  clear hl
  unfold fndV
  rcases first_cases L a.data.toList with h | ⟨j, hj, h1, h2⟩
  · rw [plc_none h] at HP
    rw [fnd_none h]
    clear hr hs h
    go_enter Try.func10, Try.ntmps10
    go_wp2_with fail
    refine Calls.mono HP.out ?_
    rintro e w1 ⟨rfl, hb1⟩
    go_wp2
    go_ret2
    exact ⟨rfl, hb1⟩
  · rw [plc_some hj h1 h2] at HP
    rw [fnd_some hj h1 h2]
    have hsz := hs _ (List.getElem_mem hj)
    rcases hr with ⟨rfl, _⟩ | ⟨b, off, cap, rfl, hcap, hcell⟩
    · simp at hj
    · have hcl := (hcell j hj).2
      have HCl : Hid (∀ w, Calls Try.prog 22 #[.string L[j].2] w fun e w' => e = .returned (.string L[j].2) ∧ Below w.heap.size w w') := fun w => clone_any _ w hsz
      clear hs h1 h2 hcell hsz
      generalize L[j].2 = y at HCl hcl
      have hl := HL.out
      go_enter Try.func10, Try.ntmps10
      go_wp2_with fail
      refine Calls.mono HP.out ?_
      rintro e w1 ⟨rfl, hb1⟩
      have c1 := below_cells hb1 _ _ hcl
      have hz := hb1.size
      clear HP hcl
      have hjI : (j : Int) < (L.length : Int) := by omega
      go_wp2_with fail
      refine (HCl.out w1).mono ?_
      rintro e w2 ⟨rfl, hb2⟩
      go_wp2
      go_ret2
      exact ⟨rfl, hb1.trans (hb2.mono hz)⟩

set_option maxHeartbeats 2000000 in
theorem refFind_any (v : Value) (L : List El) (a : ByteArray) (w : World) (hr : RE w v L) (hl : L.length ≤ 9223372036854775807) :
    Calls Try.prog 11 #[v, .string a] w fun e w' => e = .returned (fndV L a.data.toList) ∧ w' = w := by
  have HL : Hid (_) := hl
  clear hl
  rcases hr with ⟨rfl, ao, cap, rfl, _⟩ | ⟨b, off, cap, rfl, hcap, hcell⟩
  · go_enter Try.func11, Try.ntmps11
    go_wp2_with fail
    go_rounds 1
    go_ret2
    exact ⟨rfl, rfl⟩
  · have HC : Hid (_) := hcell
    clear hcell
    go_enter Try.func11, Try.ntmps11
    go_wp2_with fail
    go_loop [6] (fun i => ∃ k : Nat, k ≤ L.length ∧ i = .int .i64 (k : Int) ∧ ∀ j (hj : j < k) (hk : k ≤ L.length), (L[j]'(by omega)).1.data.toList ≠ a.data.toList) (fun i => L.length - (intOf i).toNat)
    case atStart => exact ⟨0, by omega, rfl, fun j hj => by omega⟩
    case round =>
      obtain ⟨k, hk, rfl, hall⟩ := hrel
      have HA : Hid (_) := hall
      clear hall
      by_cases hlt : k < L.length
      · have hcl := HC.out k hlt
        have c0 := hcl.1
        have c1 := hcl.2
        have hl := HL.out
        clear hcl
        by_cases he : (L[k]'hlt).1.data.toList = a.data.toList
        · have hb : ((L[k]'hlt).1.toList == a.toList) = true := by rw [ByteArray.toList_eq, ByteArray.toList_eq, he]; simp
          go_wp2
          go_ret2
          refine ⟨?_, rfl⟩
          unfold fndV
          rw [fnd_some hlt (fun i hi => HA.out i hi hk) he]
          rfl
        · have hb : ((L[k]'hlt).1.toList == a.toList) = false := by rw [ByteArray.toList_eq, ByteArray.toList_eq]; exact beq_eq_false_iff_ne.2 he
          go_wp2
          go_round
          case rel =>
            refine ⟨k + 1, by omega, by go_num, fun j hj hk1 => ?_⟩
            by_cases e : j = k
            · subst e; exact he
            · exact HA.out j (by omega) (by omega)
          case measure => simp [intOf]; omega
      · go_wp2
        go_ret2
        refine ⟨?_, rfl⟩
        unfold fndV
        rw [fnd_none (fun x hx => by obtain ⟨i, hi, rfl⟩ := List.mem_iff_getElem.1 hx; exact HA.out i (by omega) hk)]
        rfl
end Go.Proofs.Yteiacefbjmacbaa
