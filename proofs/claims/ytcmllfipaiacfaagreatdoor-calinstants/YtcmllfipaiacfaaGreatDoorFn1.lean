/-
  The document's find: the place of the first of some signs.
-/
import Derived.Test.YtcmllfipaiacfaaGreatDoorTc1
import Derived.BigQuiet
namespace Go.Proofs.YtcmllfipaiacfaaGreatDoor
open Go.RowKit
set_option maxRecDepth 100000
set_option linter.unusedSimpArgs false

/-- the place of the first of some signs, from a place on; the length, if there is none -/
def fnd (l cs : List UInt8) (a : Nat) : Nat := a + (l.drop a).findIdx (cs.contains ·)
theorem fnd_end (l cs : List UInt8) (a : Nat) (h : l.length = a) : fnd l cs a = a := by
  unfold fnd
  rw [List.drop_eq_nil_of_le (by omega)]
  rfl
theorem fnd_hit (l cs : List UInt8) (a : Nat) (h : a < l.length) (hc : cs.contains l[a] = true) : fnd l cs a = a := by
  unfold fnd
  rw [List.drop_eq_getElem_cons h, List.findIdx_cons, hc]
  rfl
theorem fnd_miss (l cs : List UInt8) (a : Nat) (h : a < l.length) (hc : cs.contains l[a] = false) : fnd l cs a = fnd l cs (a + 1) := by
  unfold fnd
  rw [List.drop_eq_getElem_cons h, List.findIdx_cons, hc]
  show a + (List.findIdx _ _ + 1) = _
  omega
set_option maxHeartbeats 2000000 in
theorem find_any (t cs : ByteArray) (a : Nat) (ht : t.size ≤ 64) (hc : cs.size ≤ 8) (ha : a ≤ t.size) (w : World) :
    Calls Tryz.prog 23 #[.string t, .int .i64 (a : Int), .string cs] w fun e w' => e = .returned (.int .i64 (fnd t.data.toList cs.data.toList a : Nat)) ∧ Below w.heap.size w w' := by
  have lt : t.data.toList.length = t.size := Array.length_toList
  have lc : cs.data.toList.length = cs.size := Array.length_toList
  have LT := hid lt
  have LC := hid lc
  clear lt lc
  go_enter Tryz.func23, Tryz.ntmps23
  go_wp2_with fail
  go_loopw [7] (fun i wr => ∃ x : Nat, i = .int .i64 (x : Int) ∧ x ≤ t.size ∧ fnd t.data.toList cs.data.toList x = fnd t.data.toList cs.data.toList a ∧ Below w.heap.size w wr) (fun i _ => t.size - (intOf i).toNat)
  case atStart => exact ⟨a, rfl, ha, rfl, Below.refl _ _⟩
  case round =>
    obtain ⟨x, rfl, hx, hf, hb⟩ := hrel
    have HF := hid hf
    have HB := hid hb
    clear hf hb
    by_cases h1 : x < t.size
    · have e1 : (x : Int) < (t.size : Int) := by omega
      have bt := byte_at t x h1
      go_wp2_with fail
      go_loopw [8] (fun i wr => ∃ k : Nat, i = .int .i64 (k : Int) ∧ k ≤ cs.size ∧ (∀ j (hj : j < cs.size), j < k → cs[j] ≠ t[x]) ∧ Below w.heap.size w wr) (fun i _ => cs.size - (intOf i).toNat)
      case atStart => exact ⟨0, rfl, by omega, fun j _ h => absurd h (by omega), HB.out⟩
      case round =>
        clear HB
        obtain ⟨k, rfl, hk, hno, hb⟩ := hrel
        have HN := hid hno
        have HB := hid hb
        clear hno hb
        by_cases h2 : k < cs.size
        · have e2 : (k : Int) < (cs.size : Int) := by omega
          by_cases he : t[x] = cs[k]
          · have hbq : (((t[x]'h1).toNat : Int) == ((cs[k]'h2).toNat : Int)) = true := by rw [he]; simp
            have HE := hid (show fnd t.data.toList cs.data.toList a = x by
              rw [← HF.out]
              refine fnd_hit _ _ _ (by rw [LT.out]; exact h1) ?_
              rw [bt, he, ← byte_at cs k h2]
              simp)
            clear he
            go_wp2_with fail
            go_quiet (fail)
            have HBq := hid (HB.out.trans ((below_drewN (Below.refl wr.heap.size wr) nq).mono HB.out.size))
            go_wp2
            go_ret
            exact ⟨by rw [HE.out]; rfl, HBq.out⟩
          · have hbq : (((t[x]'h1).toNat : Int) == ((cs[k]'h2).toNat : Int)) = false := by
              rw [beq_eq_false_iff_ne]
              intro e
              exact he (UInt8.toNat_inj.1 (by omega))
            have HN2 := hid (show ∀ j (hj : j < cs.size), j < k + 1 → cs[j] ≠ t[x] from fun j hj hjk => by
              by_cases e : j = k
              · subst e; exact fun h => he h.symm
              · exact HN.out j hj (by omega))
            clear he
            go_wp2_with fail
            go_quiet (fail)
            have HBq := hid (HB.out.trans ((below_drewN (Below.refl wr.heap.size wr) nq).mono HB.out.size))
            go_wp2
            go_roundw
            case rel => exact ⟨k + 1, by go_num, by omega, HN2.out, HBq.out⟩
            case measure => simp [intOf]; omega
        · have e2 : ¬ (k : Int) < (cs.size : Int) := by omega
          have HE := hid (show fnd t.data.toList cs.data.toList (x + 1) = fnd t.data.toList cs.data.toList a by
            rw [← HF.out]
            refine (fnd_miss _ _ _ (by rw [LT.out]; exact h1) ?_).symm
            rw [bt]
            refine Bool.eq_false_iff.2 fun hc => ?_
            obtain ⟨j, hj, e⟩ := List.mem_iff_getElem.1 (List.contains_iff_mem.1 hc)
            rw [LC.out] at hj
            rw [byte_at cs j hj] at e
            exact HN.out j hj (by omega) e)
          go_wp2_with fail
          go_roundw
          case rel => exact ⟨x + 1, by go_num, by omega, HE.out, HB.out⟩
          case measure => simp [intOf]; omega
    · have e1 : ¬ (x : Int) < (t.size : Int) := by omega
      have HE := hid (show fnd t.data.toList cs.data.toList a = t.size by
        rw [← HF.out]
        have : x = t.size := by omega
        rw [this]
        exact fnd_end _ _ _ LT.out)
      go_wp2
      go_ret
      exact ⟨by rw [HE.out]; rfl, HB.out⟩
end Go.Proofs.YtcmllfipaiacfaaGreatDoor
