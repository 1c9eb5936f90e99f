/-
  lin: lists of ops that are the same.
-/
import Derived.Test.YtgjalfmnnoaemaaLh2
import Derived.Deep.RegionWith
namespace Go.Proofs.Ytgjalfmnnoaemaa
open Go.RowKit
set_option maxRecDepth 100000

attribute [local go_sem ↓] opLd_op
theorem rl_drew {w : World} {v : Value} {L : List Ln} (h : RLn w v L) : RLn w.drew v L := h.below ⟨rfl, rfl, rfl, Nat.le_refl _, fun _ _ => rfl⟩
theorem rv_drew {w : World} {v : Value} {L : List Lv} (h : RLv w v L) : RLv w.drew v L := h.below ⟨rfl, rfl, rfl, Nat.le_refl _, fun _ _ => rfl⟩
theorem op_drew {w : World} {b off : Nat} {x : Opx} {v1 v2 : Value} (h : Op2 w b off x v1 v2) : Op2 w.drew b off x v1 v2 := h
set_option maxHeartbeats 4000000 in
theorem sameOps_is (u v : Value) (L : List Opx) (w : World) (h1 : RO w u L) (h2 : RO w v L) (hl : L.length ≤ 9223372036854775807) :
    Calls Try.prog 14 #[u, v] w fun e w' => e = .returned (.bool true) ∧ Below w.heap.size w w' := by
  have H1 := hid h1
  have H2 := hid h2
  have HL := hid hl
  obtain ⟨a1, p1, rfl⟩ := h1.form
  obtain ⟨a2, p2, rfl⟩ := h2.form
  clear h1 h2 hl
  go_enter Try.func14, Try.ntmps14
  go_wp2_with fail
  go_loopw [5] (fun i wr => ∃ k : Nat, k ≤ L.length ∧ i = .int .i64 (k : Int) ∧ Below w.heap.size w wr) (fun i _ => L.length - (intOf i).toNat)
  case atStart => exact ⟨0, by omega, rfl, Below.refl _ _⟩
  case round =>
    obtain ⟨k, hk, rfl, hbl⟩ := hrel
    have hl := HL.out
    by_cases hlt : k < L.length
    · obtain ⟨b, off, cap, v1, v2, e1, hc1, o1, l1, m1⟩ := (H1.out.below hbl).at k hlt
      obtain ⟨b', off', cap', u1, u2, e2, hc2, o2, l2, m2⟩ := (H2.out.below hbl).at k hlt
      cases e1
      cases e2
      have hI : (k : Int) < (L.length : Int) := by omega
      have E1 := run_opLd (op_drew o1)
      have E2 := run_opLd (op_drew o2)
      have HS := hid (sameOp_is L[k] v1 v2 u1 u2 wr.drew (rl_drew l1) (rl_drew l2) (rv_drew m1) (rv_drew m2))
      have HB := hid hbl
      generalize opA (L[k]'hlt) v1 v2 = x at E1 HS
      generalize opA (L[k]'hlt) u1 u2 = y at E2 HS
      clear o1 o2 l1 l2 m1 m2 hc1 hc2 hbl
      go_wp2_with fail
      go_region_with (go_at_call 23; refine Calls.mono HS.out ?_; rintro e w3 ⟨rfl, hb3⟩; have B3 := hid (HB.out.drew.trans (hb3.mono HB.out.size)); clear hb3)
      all_goals
        go_wp2
        go_roundw
        case rel => exact ⟨k + 1, by omega, by go_num, B3.out⟩
        case measure => simp [intOf]; omega
    · go_wp2
      go_ret
      exact ⟨rfl, hbl⟩
end Go.Proofs.Ytgjalfmnnoaemaa
