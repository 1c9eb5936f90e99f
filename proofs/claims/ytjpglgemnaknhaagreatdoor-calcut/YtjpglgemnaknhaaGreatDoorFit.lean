/-
  The shape that a text has: fit, and the document's shaped; the document's num.
-/
import Derived.Test.YtjpglgemnaknhaaGreatDoorDgs
import Derived.Test.YtjpglgemnaknhaaGreatDoorReach2
namespace Go.Proofs.YtjpglgemnaknhaaGreatDoor
open Go.RowKit
set_option maxRecDepth 100000

def SS (ss : List ByteArray) : List (List UInt8) := ss.map fun s => s.data.toList
theorem SS_drop (ss : List ByteArray) (k : Nat) (h : k < ss.length) : (SS ss).drop k = ss[k].data.toList :: (SS ss).drop (k + 1) := by
  unfold SS
  rw [← List.map_drop, List.drop_eq_getElem_cons h, List.map_cons, List.map_drop]
/-- the shapes lie in block b -/
def ShB (w : World) (b : Nat) (ss : List ByteArray) : Prop := ∀ j (hj : j < ss.length), w.cell? ⟨b, j, none⟩ = some (.string ss[j])
theorem ShB.drewN {w : World} {b : Nat} {ss : List ByteArray} (h : ShB w b ss) (n : Nat) : ShB (w.drewN n) b ss := fun j hj => cell_old (h j hj) (below_drewN (Below.refl _ _) n)

theorem fitL_no {t s : List UInt8} {r : List (List UInt8)} {i p : Nat} (h : ¬ (rl t s = t.length ∧ rl t s = s.length)) : fitL t (s :: r) i p = fitL t r (i + 1) (max p (rl t s)) := by
  show (if _ then _ else _) = _; rw [if_neg h]
theorem fitL_yes {t s : List UInt8} {r : List (List UInt8)} {i p : Nat} (h : rl t s = t.length ∧ rl t s = s.length) : fitL t (s :: r) i p = ((i : Int), 0) := by
  show (if _ then _ else _) = _; rw [if_pos h]

/-- the number that shaped answers beside the place -/
def shN (n : Nat) (x : Int × Nat) : Nat := if x.1 = -1 then x.2 else n
theorem shN_at (n k p : Nat) : shN n ((k : Int), p) = n := by unfold shN; rw [if_neg (by show ¬ (k : Int) = -1; omega)]
theorem shN_no (n p : Nat) : shN n (-1, p) = p := by unfold shN; rw [if_pos rfl]

set_option maxHeartbeats 1000000 in
theorem fit_any (t : ByteArray) (ht : t.size ≤ 64) (ss : List ByteArray) (hs : ∀ s ∈ ss, s.size ≤ 64) (hl : ss.length ≤ 10) (b : Nat) (w : World) (hc : ShB w b ss) :
    Calls Tryz.prog 14 #[.string t, .slice (some ⟨b, 0, none⟩) ss.length ss.length] w fun e w' => e = .returned (.tuple #[.int .i64 (fitL t.data.toList (SS ss) 0 0).1, .int .i64 ((fitL t.data.toList (SS ss) 0 0).2 : Nat)]) ∧ ∃ n, w' = w.drewN n := by
  have lt : t.data.toList.length = t.size := Array.length_toList
  have LT := hid lt
  have HC := hid hc
  have HS := hid hs
  clear lt hc hs
  go_enter Tryz.func14, Tryz.ntmps14
  go_wp2_with fail
  go_loopw [5, 11] (fun p i wr => ∃ k x : Nat, i = .int .i64 (k : Int) ∧ p = .int .i64 (x : Int) ∧ k ≤ ss.length ∧ x ≤ t.size ∧ fitL t.data.toList ((SS ss).drop k) k x = fitL t.data.toList (SS ss) 0 0 ∧ ∃ q, wr = w.drewN q) (fun _ i _ => ss.length - (intOf i).toNat)
  case atStart => exact ⟨0, 0, rfl, rfl, by omega, by omega, rfl, 0, rfl⟩
  case round =>
    obtain ⟨k, x, rfl, rfl, hk, hx, hf, hdr⟩ := hrel
    have HF := hid hf
    have HDN : Hid (∀ m, ∃ n, wr.drewN m = w.drewN n) := fun m => by obtain ⟨q, hq⟩ := hdr; exact ⟨q + m, by rw [hq, World.drewN_drewN]⟩
    have HD0 := hid hdr
    have hcw : ShB wr b ss := by obtain ⟨q, hq⟩ := hdr; rw [hq]; exact HC.out.drewN q
    clear hf hdr
    by_cases h1 : k < ss.length
    · have ck := hcw k h1
      have hsz := HS.out _ (List.getElem_mem h1)
      have HE := hid (SS_drop ss k h1)
      rw [HE.out] at HF
      have ls : (ss[k]'h1).data.toList.length = (ss[k]'h1).size := Array.length_toList
      generalize ss[k]'h1 = s at *
      have hrl := rl_le t.data.toList s.data.toList
      have HR := hid (fun w => reach_any t s (by omega) (by omega) w)
      have LS := hid ls
      rw [LT.out, ls] at hrl
      clear ls hcw
      by_cases g1 : rl t.data.toList s.data.toList = t.size
      · by_cases g2 : rl t.data.toList s.data.toList = s.size
        · have HV := hid (show fitL t.data.toList (SS ss) 0 0 = ((k : Int), 0) by rw [← HF.out, fitL_yes ⟨by rw [LT.out]; exact g1, by rw [LS.out]; exact g2⟩])
          generalize rl t.data.toList s.data.toList = n at *
          go_wp2_with (go_at_call 36; refine (HR.out _).mono ?_; rintro e w' ⟨rfl, nq, rfl⟩)
          go_ret2
          rw [HV.out]
          exact ⟨rfl, HDN.out _⟩
        · have HV := hid (show fitL t.data.toList ((SS ss).drop (k + 1)) (k + 1) (max x (rl t.data.toList s.data.toList)) = fitL t.data.toList (SS ss) 0 0 by rw [← HF.out, fitL_no (fun h => g2 (by rw [← LS.out]; exact h.2))])
          generalize rl t.data.toList s.data.toList = n at *
          have hmx : max x n = n := by omega
          rw [hmx] at HV
          have gi : ((n : Int) == (s.size : Int)) = false := by rw [beq_eq_false_iff_ne]; omega
          go_wp2_with (go_at_call 36; refine (HR.out _).mono ?_; rintro e w' ⟨rfl, nq, rfl⟩)
          go_roundw
          case rel => exact ⟨k + 1, n, by go_num, by go_num, by omega, by omega, HV.out, HDN.out _⟩
          case measure => simp [intOf]; omega
      · have HV := hid (show fitL t.data.toList ((SS ss).drop (k + 1)) (k + 1) (max x (rl t.data.toList s.data.toList)) = fitL t.data.toList (SS ss) 0 0 by rw [← HF.out, fitL_no (fun h => g1 (by rw [← LT.out]; exact h.1))])
        generalize rl t.data.toList s.data.toList = n at *
        have gi : ((n : Int) == (t.size : Int)) = false := by rw [beq_eq_false_iff_ne]; omega
        go_wp2_with (go_at_call 36; refine (HR.out _).mono ?_; rintro e w' ⟨rfl, nq, rfl⟩)
        all_goals go_roundw
        all_goals first
          | exact ⟨k + 1, max x n, by go_num, by go_num, by omega, by omega, HV.out, HDN.out _⟩
          | (simp [intOf]; omega)
    · have hke : k = ss.length := by omega
      have HV := hid (show fitL t.data.toList (SS ss) 0 0 = (-1, x) by rw [← HF.out, List.drop_eq_nil_of_le (by unfold SS; rw [List.length_map]; omega)]; rfl)
      go_wp2
      go_ret2
      rw [HV.out]
      exact ⟨rfl, HD0.out⟩
theorem nm_step (t : ByteArray) (a i : Nat) (h : a + i < t.size) : nm (sub t.data.toList a (i + 1)) = nm (sub t.data.toList a i) * 10 + (t[a + i].toNat - 48) := by
  have lt : t.data.toList.length = t.size := Array.length_toList
  rw [sub_succ _ _ _ (by rw [lt]; exact h), nm, nmA_snoc, byte_at t (a + i) h]
  rfl

end Go.Proofs.YtjpglgemnaknhaaGreatDoor
