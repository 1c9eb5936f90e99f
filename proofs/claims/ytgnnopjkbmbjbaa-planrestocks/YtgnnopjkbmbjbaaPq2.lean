/-
  plan: wrongItem.
-/
import Derived.Test.YtgnnopjkbmbjbaaPq1
import Derived.Deep.RegionHeld3
namespace Go.Proofs.Ytgnnopjkbmbjbaa
open Go.RowKit
set_option maxRecDepth 100000
set_option linter.unusedSimpArgs false

/-- what wrongItem answers -/
def WrI (L : List It) (n : Nat) (b : Bool) : Prop := (b = true ∧ (∃ h : n < L.length, okTo L n ∧ itOk L[n] (ahd L n) = false)) ∨ (b = false ∧ n = 0 ∧ okTo L L.length)
set_option maxHeartbeats 4000000 in
theorem wrongItem_any (v : Value) (L : List It) (w : World) (h : RL itC 6 w v L) (hl : L.length ≤ 512) :
    Calls Try.prog 21 #[v] w fun e w' => (∃ (n : Nat) (b : Bool), e = .returned (.tuple #[.int .i64 (n : Int), .bool b]) ∧ WrI L n b) ∧ Below w.heap.size w w' := by
  have H := hid h
  obtain ⟨ao, cp, rfl⟩ := h.len0
  clear h
  go_enter Try.func21, Try.ntmps21
  go_wp2_with fail
  go_loopw [9, 4] (fun i hd wr => ∃ k : Nat, k ≤ L.length ∧ i = .int .i64 (k : Int) ∧ hd = .string (ahd L k) ∧ okTo L k ∧ Below w.heap.size w wr) (fun i _ _ => L.length - (intOf i).toNat)
  case atStart => exact ⟨0, by omega, rfl, rfl, fun i _ h => by omega, Below.refl _ _⟩
  case round =>
    obtain ⟨k, hk, rfl, rfl, hok, hb⟩ := hrel
    have HO := hid hok
    clear hok
    by_cases hlt : k < L.length
    · have hI : (k : Int) < (L.length : Int) := by omega
      obtain ⟨g, off, c, e1, hc, c0, c1, c2, c3, c4, c5⟩ := item_at (H.out.below hb) k hlt
      cases e1
      have HS := hid (ahd_succ L k hlt)
      have HY := hid (fun (q : itOk (L[k]'hlt) (ahd L k) = true) => show okTo L (k + 1) from fun i hi h2 => by
        by_cases e : i = k
        · subst e; exact q
        · exact HO.out i hi (by omega))
      have HN := hid (fun (q : itOk (L[k]'hlt) (ahd L k) = false) => show WrI L k true from .inl ⟨rfl, hlt, HO.out, q⟩)
      have HB := hid (fun o => bel_step hb (alloc_below wr o))
      clear hb
      generalize ahd L k = hd at *
      generalize L[k]'hlt = x at *
      obtain ⟨xc, xa, xb, xp, xu, xk⟩ := x
      dsimp only at *
      unfold itOk at HY HN
      dsimp only at HY HN
      cases q0 : flw xc hd
      · have hN := HN.out (by simp [q0])
        have HN2 := hid hN
        clear hN
        go_wp2_with fail
        refine Calls.mono (follows_any xc hd _) ?_
        rintro e0 w0 ⟨rfl, rfl⟩
        rw [q0]
        go_wp2
        go_ret2
        exact ⟨⟨k, true, rfl, HN2.out⟩, HB.out _⟩
      cases q1 : wiB xa 0
      · have hN := HN.out (by simp [q0, q1])
        have HN2 := hid hN
        clear hN
        go_wp2_with fail
        refine Calls.mono (follows_any xc hd _) ?_
        rintro e0 w0 ⟨rfl, rfl⟩
        rw [q0]
        go_wp2_with fail
        refine Calls.mono (within_any xa 0 _) ?_
        rintro e1 w1 ⟨rfl, rfl⟩
        rw [q1]
        go_wp2
        go_ret2
        exact ⟨⟨k, true, rfl, HN2.out⟩, HB.out _⟩
      cases q2 : wiB xb 0
      · have hN := HN.out (by simp [q0, q1, q2])
        have HN2 := hid hN
        clear hN
        go_wp2_with fail
        refine Calls.mono (follows_any xc hd _) ?_
        rintro e0 w0 ⟨rfl, rfl⟩
        rw [q0]
        go_wp2_with fail
        refine Calls.mono (within_any xa 0 _) ?_
        rintro e1 w1 ⟨rfl, rfl⟩
        rw [q1]
        go_wp2_with fail
        refine Calls.mono (within_any xb 0 _) ?_
        rintro e2 w2 ⟨rfl, rfl⟩
        rw [q2]
        go_wp2
        go_ret2
        exact ⟨⟨k, true, rfl, HN2.out⟩, HB.out _⟩
      cases q3 : wiB xp 0
      · have hN := HN.out (by simp [q0, q1, q2, q3])
        have HN2 := hid hN
        clear hN
        go_wp2_with fail
        refine Calls.mono (follows_any xc hd _) ?_
        rintro e0 w0 ⟨rfl, rfl⟩
        rw [q0]
        go_wp2_with fail
        refine Calls.mono (within_any xa 0 _) ?_
        rintro e1 w1 ⟨rfl, rfl⟩
        rw [q1]
        go_wp2_with fail
        refine Calls.mono (within_any xb 0 _) ?_
        rintro e2 w2 ⟨rfl, rfl⟩
        rw [q2]
        go_wp2_with fail
        refine Calls.mono (within_any xp 0 _) ?_
        rintro e3 w3 ⟨rfl, rfl⟩
        rw [q3]
        go_wp2
        go_ret2
        exact ⟨⟨k, true, rfl, HN2.out⟩, HB.out _⟩
      cases q4 : wiB xu 0
      · have hN := HN.out (by simp [q0, q1, q2, q3, q4])
        have HN2 := hid hN
        clear hN
        go_wp2_with fail
        refine Calls.mono (follows_any xc hd _) ?_
        rintro e0 w0 ⟨rfl, rfl⟩
        rw [q0]
        go_wp2_with fail
        refine Calls.mono (within_any xa 0 _) ?_
        rintro e1 w1 ⟨rfl, rfl⟩
        rw [q1]
        go_wp2_with fail
        refine Calls.mono (within_any xb 0 _) ?_
        rintro e2 w2 ⟨rfl, rfl⟩
        rw [q2]
        go_wp2_with fail
        refine Calls.mono (within_any xp 0 _) ?_
        rintro e3 w3 ⟨rfl, rfl⟩
        rw [q3]
        go_wp2_with fail
        refine Calls.mono (within_any xu 0 _) ?_
        rintro e4 w4 ⟨rfl, rfl⟩
        rw [q4]
        go_wp2
        go_ret2
        exact ⟨⟨k, true, rfl, HN2.out⟩, HB.out _⟩
      cases q5 : wiB xk 1
      · have hN := HN.out (by simp [q0, q1, q2, q3, q4, q5])
        have HN2 := hid hN
        clear hN
        go_wp2_with fail
        refine Calls.mono (follows_any xc hd _) ?_
        rintro e0 w0 ⟨rfl, rfl⟩
        rw [q0]
        go_wp2_with fail
        refine Calls.mono (within_any xa 0 _) ?_
        rintro e1 w1 ⟨rfl, rfl⟩
        rw [q1]
        go_wp2_with fail
        refine Calls.mono (within_any xb 0 _) ?_
        rintro e2 w2 ⟨rfl, rfl⟩
        rw [q2]
        go_wp2_with fail
        refine Calls.mono (within_any xp 0 _) ?_
        rintro e3 w3 ⟨rfl, rfl⟩
        rw [q3]
        go_wp2_with fail
        refine Calls.mono (within_any xu 0 _) ?_
        rintro e4 w4 ⟨rfl, rfl⟩
        rw [q4]
        go_wp2_with fail
        refine Calls.mono (within_any xk 1 _) ?_
        rintro e5 w5 ⟨rfl, rfl⟩
        rw [q5]
        go_wp2
        go_ret2
        exact ⟨⟨k, true, rfl, HN2.out⟩, HB.out _⟩
      have hY := HY.out (by simp [q0, q1, q2, q3, q4, q5])
      have HY2 := hid hY
      clear hY
      go_wp2_with fail
      refine Calls.mono (follows_any xc hd _) ?_
      rintro e0 w0 ⟨rfl, rfl⟩
      rw [q0]
      go_wp2_with fail
      refine Calls.mono (within_any xa 0 _) ?_
      rintro e1 w1 ⟨rfl, rfl⟩
      rw [q1]
      go_wp2_with fail
      refine Calls.mono (within_any xb 0 _) ?_
      rintro e2 w2 ⟨rfl, rfl⟩
      rw [q2]
      go_wp2_with fail
      refine Calls.mono (within_any xp 0 _) ?_
      rintro e3 w3 ⟨rfl, rfl⟩
      rw [q3]
      go_wp2_with fail
      refine Calls.mono (within_any xu 0 _) ?_
      rintro e4 w4 ⟨rfl, rfl⟩
      rw [q4]
      go_wp2_with fail
      refine Calls.mono (within_any xk 1 _) ?_
      rintro e5 w5 ⟨rfl, rfl⟩
      rw [q5]
      go_wp2_with fail
      go_roundw
      case rel => exact ⟨k + 1, by omega, by go_num, by rw [HS.out], HY2.out, HB.out _⟩
      case measure => simp [intOf]; omega
    · obtain rfl : k = L.length := by omega
      go_wp2
      go_ret2
      exact ⟨⟨0, false, rfl, .inr ⟨rfl, rfl, HO.out⟩⟩, hb⟩
end Go.Proofs.Ytgnnopjkbmbjbaa
