/-
  An Ai's kind: kindOf.
-/
import Derived.Test.YtpplkoilpblpkaaDoorKnown
namespace Go.Proofs.YtpplkoilpblpkaaDoor
open Go.RowKit
set_option maxRecDepth 100000

/-- what kindOf answers -/
def kofV (l : List UInt8) : Value := .tuple #[.int .i64 ((kfind l).getD 0), .bool (kfind l).isSome]

theorem bnot_of {a l : List UInt8} (h : a ≠ l) : (!(a == l)) = true := by
  rw [beq_eq_false_iff_ne.2 h]
  rfl

theorem kfind_some {l : List UInt8} {k : Nat} (hk : k < 39) (h : ∀ j (hj : j < k), (knl[j]'(show j < 39 by omega)).1 ≠ l) (he : (knl[k]'hk).1 = l) : kfind l = some (knl[k]'hk).2 := by
  unfold kfind
  have e := (List.find?_eq_some_iff_getElem (p := fun x : List UInt8 × Int => x.1 == l) (xs := knl) (b := knl[k]'hk)).2 ⟨by simpa using he, k, hk, rfl, fun j hj => bnot_of (h j hj)⟩
  rw [e]
  rfl
theorem kfind_none {l : List UInt8} (h : ∀ j (hj : j < 39), (knl[j]'hj).1 ≠ l) : kfind l = none := by
  unfold kfind
  rw [List.find?_eq_none.2]
  · rfl
  · intro x hx
    obtain ⟨j, hj, rfl⟩ := List.mem_iff_getElem.1 hx
    simpa using h j hj

set_option maxHeartbeats 2000000 in
theorem kindOf_any (s : ByteArray) (w : World) (h : HasKn w) :
    Calls Tryd.prog 28 #[.string s] w fun e w' => e = .returned (kofV s.data.toList) ∧ Below w.heap.size w w' := by
  obtain ⟨K, hK, kl⟩ := kn_load h
  have HX : Hid (_) := fun k hk w => kn_index K hK k hk w
  clear hK h
  go_enter Tryd.func28, Tryd.ntmps28
  go_wp2_with fail
  unfold Oper.wp execOp
  simp only [Act.eval, kl, Sem.run_bind, Sem.run_pure, Result.andThen_ok]
  rw [Oper.upon_value]
  go_wp2_with fail
  go_loopw [7] (fun i wr => ∃ k : Nat, k ≤ 39 ∧ i = .int .i64 (k : Int) ∧ Below w.heap.size w wr ∧ ∀ j (hj : j < k) (hk : k ≤ 39), (knl[j]'(show j < 39 by omega)).1 ≠ s.data.toList) (fun i _ => 39 - (intOf i).toNat)
  case atStart => exact ⟨0, by omega, rfl, Below.refl _ _, fun j hj => by omega⟩
  case round =>
    obtain ⟨k, hk, rfl, hbl, hall⟩ := hrel
    have HA : Hid (_) := hall
    clear hall
    have hz := hbl.size
    by_cases hlt : k < 39
    · have ki := HX.out k hlt wr
      obtain ⟨a, ha⟩ : ∃ a : ByteArray, a = ⟨(knl[k]'hlt).1.toArray⟩ := ⟨_, rfl⟩
      have hal : a.data.toList = (knl[k]'hlt).1 := by rw [ha]
      rw [← ha] at ki
      have HL : Hid (_) := hal
      clear ha hal
      by_cases he : (knl[k]'hlt).1 = s.data.toList
      · have hb : (a.toList == s.toList) = true := by rw [ByteArray.toList_eq, ByteArray.toList_eq, HL.out, he]; simp
        go_wp2
        go_ret2
        refine ⟨?_, hbl.alloc hz _⟩
        unfold kofV
        rw [kfind_some hlt (fun j hj => HA.out j hj hk) he]
        rfl
      · have hb : (a.toList == s.toList) = false := by rw [ByteArray.toList_eq, ByteArray.toList_eq, HL.out]; exact beq_eq_false_iff_ne.2 he
        go_wp2
        go_roundw
        case rel =>
          refine ⟨k + 1, by omega, by go_num, hbl.alloc hz _, fun j hj hk1 => ?_⟩
          by_cases e : j = k
          · subst e; exact he
          · exact HA.out j (by omega) (by omega)
        case measure => simp [intOf]; omega
    · have hkk : k = 39 := by omega
      subst hkk
      go_wp2
      go_ret2
      refine ⟨?_, hbl⟩
      unfold kofV
      rw [kfind_none (fun j hj => HA.out j hj (Nat.le_refl _))]
      rfl
end Go.Proofs.YtpplkoilpblpkaaDoor
