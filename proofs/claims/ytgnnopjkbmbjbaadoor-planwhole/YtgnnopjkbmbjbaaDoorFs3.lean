/-
  plan: spread, Stats; the document's Stats.
-/
import Derived.Test.YtgnnopjkbmbjbaaDoorFs2
import Derived.Test.YtgnnopjkbmbjbaaDoorFsq
namespace Go.Proofs.YtgnnopjkbmbjbaaDoor
open Go.RowKit
set_option maxRecDepth 100000
set_option linter.unusedSimpArgs false

def stM (L : List Int) : Nat := if hE L = 0 ∧ 0 < L.length then meL L else 0
def stD (L : List Int) : Nat := if hE L = 0 ∧ 0 < L.length then deL L else 0
/-- one more into the sum, one more square -/
theorem sum_step {L : List Int} (h : HOk L) (hl : L.length ≤ 4096) (k : Nat) (hk : k < L.length) : smL (L.take (k + 1)) = smL (L.take k) + L[k] ∧ -9223372036854775808 ≤ smL (L.take k) + L[k] ∧ smL (L.take k) + L[k] ≤ 9223372036854775807 := by
  have e : smL (L.take (k + 1)) = smL (L.take k) + L[k] := by rw [List.take_succ_eq_append_getElem hk, smL_snoc]
  have := smL_take h (k + 1)
  rw [e] at this
  exact ⟨e, by omega, by omega⟩
theorem sq_step {L : List Int} (h : HOk L) {mean : Nat} (hm : nanB mean = false) (k : Nat) (hk : k < L.length) : ∃ d q, dbl.sub (floatOfInt .f64 L[k]) mean = some d ∧ dbl.mul d d = some q ∧ dbl.add (sqL mean (L.take k)) q = some (sqL mean (L.take (k + 1))) := by
  obtain ⟨h0, h1⟩ := h _ (List.getElem_mem hk)
  obtain ⟨n, hn⟩ := Int.eq_ofNat_of_zero_le h0
  obtain ⟨d, q, a1, a2, a3, _⟩ := sqS_ok n (show n < 9007199254740992 by omega) hm (sqL_pos hm (L.take k) (fun y hy => h y (List.mem_of_mem_take hy)))
  rw [← hn] at a1 a3
  refine ⟨d, q, a1, a2, ?_⟩
  rw [List.take_succ_eq_append_getElem hk, sqL_snoc]
  exact a3
set_option maxHeartbeats 2000000 in
theorem spread_any (v : Value) (L : List Int) (w : World) (h : RL eI 1 w v L) (hH : HOk L) (h0 : 0 < L.length) (hl : L.length ≤ 4096) : Calls Tryd.prog 10 #[v] w fun e w' => e = .returned (.tuple #[.float .f64 (meL L), .float .f64 (deL L)]) ∧ w' = w := by
  have H := hid h
  obtain ⟨ao, cp, rfl⟩ := h.len0
  clear h
  have HH := hid hH
  have HL := hid hl
  obtain ⟨dv, nm, q, dq, sq, nd⟩ := stats_ok hH h0 hl
  have D1 := fun w => run_float_arith (P := Tryd.prog) w .quo 28 .f64 _ _ _ dv
  have D2 := fun w => run_float_arith (P := Tryd.prog) w .quo 28 .f64 _ _ _ dq
  have SQ := hid (fun wx => sqrt_any sq wx)
  have NM := hid nm
  clear dv dq sq nm nd hH
  go_enter Tryd.func10, Tryd.ntmps10
  go_wp2_with fail
  go_loop [14, 4] (fun i s => ∃ k : Nat, k ≤ L.length ∧ i = .int .i64 (k : Int) ∧ s = .int .i64 (smL (L.take k))) (fun i _ => L.length - (intOf i).toNat)
  case atStart => exact ⟨0, by omega, rfl, rfl⟩
  case round =>
    obtain ⟨k, hk, rfl, rfl⟩ := hrel
    by_cases hlt : k < L.length
    · have hIk : (k : Int) < (L.length : Int) := by omega
      obtain ⟨g, off, c, e1, hc, c0⟩ := int_at H.out k hlt
      cases e1
      obtain ⟨st, st1, st2⟩ := sum_step HH.out HL.out k hlt
      have ST := hid st
      clear st
      generalize L[k]'hlt = x at *
      generalize smL (L.take k) = s0 at *
      go_wp2_with fail
      go_round
      case rel => exact ⟨k + 1, by omega, by go_num, by rw [ST.out]⟩
      case measure => simp [intOf]; omega
    · obtain rfl : k = L.length := by omega
      rw [List.take_length]
      clear hlt hk
      go_wp2_with fail
      generalize hme : meL L = me at *
      have HME := hid hme
      clear hme
      generalize smL L = sm at *
      go_loop [31, 8] (fun i s => ∃ k : Nat, k ≤ L.length ∧ i = .int .i64 (k : Int) ∧ s = .float .f64 (sqL me (L.take k))) (fun i _ => L.length - (intOf i).toNat)
      case atStart => exact ⟨0, by omega, rfl, rfl⟩
      case round =>
        obtain ⟨k, hk, rfl, rfl⟩ := hrel
        by_cases hlt : k < L.length
        · have hIk : (k : Int) < (L.length : Int) := by omega
          obtain ⟨g, off, c, e1, hc, c0⟩ := int_at H.out k hlt
          cases e1
          obtain ⟨dd, qq, b1, b2, b3⟩ := sq_step HH.out NM.out k hlt
          have A1 := fun w => run_float_arith (P := Tryd.prog) w .sub 28 .f64 _ _ _ b1
          have A2 := fun w => run_float_arith (P := Tryd.prog) w .mul 28 .f64 _ _ _ b2
          have A3 := fun w => run_float_arith (P := Tryd.prog) w .add 28 .f64 _ _ _ b3
          clear b1 b2 b3
          generalize L[k]'hlt = x at *
          generalize sqL me (L.take k) = s0 at *
          generalize hs1 : sqL me (L.take (k + 1)) = s1 at *
          have HS1 := hid hs1
          clear hs1
          go_wp2_with fail
          go_round
          case rel => exact ⟨k + 1, by omega, by go_num, by rw [HS1.out]⟩
          case measure => simp [intOf]; omega
        · obtain rfl : k = L.length := by omega
          rw [List.take_length]
          clear hlt hk
          go_wp2_with fail
          refine Calls.mono (SQ.out _) ?_
          rintro e4 w4 ⟨rfl, rfl⟩
          go_wp2
          go_ret2
          exact ⟨by rw [HME.out]; rfl, rfl⟩
set_option maxHeartbeats 2000000 in
theorem stats_any (v : Value) (L : List Int) (w : World) (h : RL eI 1 w v L) (hl : (L.length : Int) ≤ 9223372036854775807) : Calls Tryd.prog 6 #[v] w fun e w' => e = .returned (.tuple #[.float .f64 (stM L), .float .f64 (stD L), .int .i64 (hE L)]) ∧ w' = w := by
  have CK := hid (checked_any v L w h hl)
  have H := hid h
  obtain ⟨ao, cp, rfl⟩ := h.len0
  clear h
  by_cases hz : hE L = 0
  · obtain ⟨z1, z2⟩ := hE_zero hz
    by_cases h0 : 0 < L.length
    · have SP := hid (spread_any _ L w H.out z2 h0 z1)
      have e1 : stM L = meL L := if_pos ⟨hz, h0⟩
      have e2 : stD L = deL L := if_pos ⟨hz, h0⟩
      rw [e1, e2, hz]
      rw [hz] at CK
      have hn : ((L.length : Int) == 0) = false := by rw [beq_eq_false_iff_ne]; omega
      clear hz e1 e2 z1 z2
      go_enter Tryd.func6, Tryd.ntmps6
      go_wp2_with fail
      refine Calls.mono CK.out ?_
      rintro e w1 ⟨rfl, rfl⟩
      go_wp2_with fail
      refine Calls.mono SP.out ?_
      rintro e w1 ⟨rfl, rfl⟩
      go_wp2
      go_ret3
      exact ⟨rfl, rfl⟩
    · have e1 : stM L = 0 := if_neg (fun h => h0 h.2)
      have e2 : stD L = 0 := if_neg (fun h => h0 h.2)
      rw [e1, e2, hz]
      rw [hz] at CK
      have hn : L.length = 0 := by omega
      rw [hn]
      rw [hn] at CK
      clear hz e1 e2 z1 z2
      go_enter Tryd.func6, Tryd.ntmps6
      go_wp2_with fail
      refine Calls.mono CK.out ?_
      rintro e w1 ⟨rfl, rfl⟩
      go_wp2
      go_ret3
      exact ⟨rfl, rfl⟩
  · have e1 : stM L = 0 := if_neg (fun h => hz h.1)
    have e2 : stD L = 0 := if_neg (fun h => hz h.1)
    rw [e1, e2]
    generalize hE L = er at *
    go_enter Tryd.func6, Tryd.ntmps6
    go_wp2_with fail
    refine Calls.mono CK.out ?_
    rintro e w1 ⟨rfl, rfl⟩
    go_wp2
    go_ret3
    exact ⟨rfl, rfl⟩
theorem st_nan (L : List Int) : nanB (stM L) = false ∧ nanB (stD L) = false := by
  unfold stM stD
  by_cases h : hE L = 0 ∧ 0 < L.length
  · rw [if_pos h, if_pos h]
    obtain ⟨z1, z2⟩ := hE_zero h.1
    obtain ⟨_, nm, _, _, _, nd⟩ := stats_ok z2 h.2 z1
    exact ⟨nm, nd⟩
  · rw [if_neg h, if_neg h]
    exact ⟨zero_FV.nan, zero_FV.nan⟩
end Go.Proofs.YtgnnopjkbmbjbaaDoor
