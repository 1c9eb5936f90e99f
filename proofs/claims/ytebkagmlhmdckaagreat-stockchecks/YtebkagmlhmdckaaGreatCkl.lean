/-
  StockChecks: both Normals in one form; the law's own walk. Laid by mkckl.py.
-/
import Derived.Test.YtebkagmlhmdckaaGreatCkj
import Derived.Test.YtebkagmlhmdckaaGreatCkk
import Derived.Deep.RegionHeld3
namespace Go.Proofs.YtebkagmlhmdckaaGreat
open Go.RowKit
set_option maxRecDepth 100000
set_option linter.unusedSimpArgs false

theorem ck_len {r : Rq} (h : (ckA r).1 = 0) : r.lines.length ≤ 32 := by
  unfold ckA at h
  split at h
  · exact absurd h (by decide)
  split at h
  · exact absurd h (by decide)
  split at h
  · exact absurd h (by decide)
  rename_i hu
  split at h
  · rename_i hk
    exact absurd h hk.2
  rename_i hk
  by_cases k : kL r.kind = true
  · have e : (lnA r.kind r.lines).1 = 0 := Classical.byContradiction fun e => hk ⟨k, e⟩
    unfold lnA at e
    split at e
    · exact absurd e (by decide)
    · omega
  · have k' : kL r.kind = false := by simpa using k
    unfold unB at hu
    simp [k'] at hu
    have := hu.1
    simp [this]
/-- what Normal answers -/
def nmR (r : Rq) : Rq := if (ckA r).1 = 0 then { r with lines := ptN r.lines } else ⟨⟨#[]⟩, 0, [], ⟨#[]⟩, 0, 0⟩
theorem RLn.nothing (w : World) : RLn w (.slice none 0 0) [] := .inl ⟨rfl, none, 0, rfl, fun _ => rfl⟩
theorem summed_all (ao : Option Addr) (cap : Nat) (L : List Ln) (w : World) (hR : RLn w (.slice ao L.length cap) L) (hl : L.length ≤ 1000000) (hi : ∀ y ∈ L, I64 y.2) :
    Calls Tryz.prog 17 #[.slice ao L.length cap] w fun e w' => ∃ v', e = .returned v' ∧ RLn w' v' (ptN L) ∧ (∀ k, v'.ownBlock = some k → w.heap.size ≤ k) ∧ Below w.heap.size w w' := by
  by_cases h0 : 0 < L.length
  · exact summed_any ao cap L w hR hl h0 hi
  · obtain rfl : L = [] := List.eq_nil_of_length_eq_zero (by omega)
    refine (summed_nil ao cap w).mono ?_
    rintro e w' ⟨rfl, hb⟩
    exact ⟨_, rfl, RLn.nothing _, fun k hk => (by cases hk), hb⟩
theorem normal_any (r : Rq) (ao : Option Addr) (cap : Nat) (w : World) (hR : RLn w (.slice ao r.lines.length cap) r.lines) (hS : ∀ y ∈ r.lines, y.1.size ≤ 9223372036854775807) (h1 : r.id.size ≤ 9223372036854775807) (h2 : r.hold.size ≤ 9223372036854775807) (hi : ∀ y ∈ r.lines, I64 y.2) :
    Calls Tryz.prog 6 #[rqV r ao cap] w fun e w' => ∃ v', e = .returned (.tuple #[.agg (rqC (nmR r) v'), .int .i64 (ckA r).1, .int .i64 ((ckA r).2 : Nat)]) ∧ RLn w' v' (nmR r).lines ∧ Below w.heap.size w w' := by
  by_cases hc : (ckA r).1 = 0
  · refine (normal_ok r ao cap w hR hS h1 h2 (fun W h => summed_all ao cap r.lines W h (Nat.le_trans (ck_len hc) (by decide)) hi) hc).mono ?_
    rintro e w' ⟨v', rfl, h3, h4⟩
    rw [ckA_ok hc]
    refine ⟨v', ?_, ?_, h4⟩
    · unfold nmR
      rw [if_pos hc]
      rfl
    · unfold nmR
      rw [if_pos hc]
      exact h3
  · refine (normal_no r ao cap w hR hS h1 h2 hc).mono ?_
    rintro e w' ⟨rfl, h4⟩
    refine ⟨.slice none 0 0, ?_, ?_, h4⟩
    · unfold nmR
      rw [if_neg hc]
      rfl
    · unfold nmR
      rw [if_neg hc]
      exact RLn.nothing _
theorem rNormal_any (r : Rq) (ao : Option Addr) (cap : Nat) (w : World) (hR : RLn w (.slice ao r.lines.length cap) r.lines) (hS : ∀ y ∈ r.lines, y.1.size ≤ 9223372036854775807) (h1 : r.id.size ≤ 9223372036854775807) (h2 : r.hold.size ≤ 9223372036854775807) (hi : ∀ y ∈ r.lines, I64 y.2) :
    Calls Tryz.prog 8 #[rqV r ao cap] w fun e w' => ∃ v', e = .returned (.tuple #[.agg (rqC (nmR r) v'), .int .i64 (ckA r).1, .int .i64 ((ckA r).2 : Nat)]) ∧ RLn w' v' (nmR r).lines ∧ Below w.heap.size w w' := by
  by_cases hc : (ckA r).1 = 0
  · refine (rNormal_ok r ao cap w hR hS h1 h2 hi (Nat.le_trans (ck_len hc) (by decide)) hc).mono ?_
    rintro e w' ⟨v', rfl, h3, h4⟩
    rw [ckA_ok hc]
    refine ⟨v', ?_, ?_, h4⟩
    · unfold nmR
      rw [if_pos hc]
      rfl
    · unfold nmR
      rw [if_pos hc]
      exact h3.reads
  · refine (rNormal_no r ao cap w hR hS h1 h2 hc).mono ?_
    rintro e w' ⟨rfl, h4⟩
    refine ⟨.slice none 0 0, ?_, ?_, h4⟩
    · unfold nmR
      rw [if_neg hc]
      rfl
    · unfold nmR
      rw [if_neg hc]
      exact RLn.nothing _
theorem nmR_len (r : Rq) (hi : ∀ y ∈ r.lines, I64 y.2) : (nmR r).lines.length ≤ 1000000 := by
  unfold nmR
  split
  · rename_i hc
    exact Nat.le_trans (Nat.le_trans (ptN_len _ hi) (ck_len hc)) (by decide)
  · exact Nat.zero_le _
set_option maxHeartbeats 8000000 in
theorem stockChecks_any (r : Rq) (ao : Option Addr) (cap : Nat) (w : World) (hR : RLn w (.slice ao r.lines.length cap) r.lines) (hS : ∀ y ∈ r.lines, y.1.size ≤ 9223372036854775807) (h1 : r.id.size ≤ 9223372036854775807) (h2 : r.hold.size ≤ 9223372036854775807) (hi : ∀ y ∈ r.lines, I64 y.2) (hl : r.lines.length ≤ 5864062014634) :
    Calls Tryz.prog 3 #[rqV r ao cap] w fun e w' => e = .returned (.bool true) ∧ Below w.heap.size w w' := by
  obtain ⟨W, hW⟩ : ∃ W, w.alloc (.cells #[.string r.id, .int .i64 r.kind, .slice ao r.lines.length cap, .string r.hold, .int .i64 r.ttl, .int .i64 r.now] 24) = W := ⟨_, rfl⟩
  have R0 := hid (show W.heap[w.heap.size]? = some (.cells #[.string r.id, .int .i64 r.kind, .slice ao r.lines.length cap, .string r.hold, .int .i64 r.ttl, .int .i64 r.now] 24 (0, 0)) by rw [← hW]; exact heap_alloc_new w _)
  have b0 : Below w.heap.size w W := by rw [← hW]; exact (Below.refl _ _).alloc (Nat.le_refl _) _
  have zW : W.heap.size = w.heap.size + 1 := by rw [← hW, World.size_alloc]
  have B0 := hid b0
  have HR := hid hR
  have HC1 := hid (fun ao cap W h => check_any r ao cap W h hS h1 h2)
  have HC2 := hid (fun ao cap W h => rCheck_any r ao cap W h hS h1 h2)
  have HN1 := hid (fun ao cap W h => normal_any r ao cap W h hS h1 h2 hi)
  have HN2 := hid (fun ao cap W h => rNormal_any r ao cap W h hS h1 h2 hi)
  have HNl := nmR_len r hi
  have HLe := hid (rlent_any r ao cap W (HR.out.below b0) (by omega))
  have c0 : W.cell? ⟨w.heap.size, 0, none⟩ = some (.string r.id) := by rw [Lib.cell_of_heap R0.out]; rfl
  have c1 : W.cell? ⟨w.heap.size, 1, none⟩ = some (.int .i64 r.kind) := by rw [Lib.cell_of_heap R0.out]; rfl
  have c2 : W.cell? ⟨w.heap.size, 2, none⟩ = some (.slice ao r.lines.length cap) := by rw [Lib.cell_of_heap R0.out]; rfl
  have c3 : W.cell? ⟨w.heap.size, 3, none⟩ = some (.string r.hold) := by rw [Lib.cell_of_heap R0.out]; rfl
  have c4 : W.cell? ⟨w.heap.size, 4, none⟩ = some (.int .i64 r.ttl) := by rw [Lib.cell_of_heap R0.out]; rfl
  have c5 : W.cell? ⟨w.heap.size, 5, none⟩ = some (.int .i64 r.now) := by rw [Lib.cell_of_heap R0.out]; rfl
  unfold rqV at HC1 HC2 HN1 HN2 HLe ⊢
  clear hR hS h1 h2 hi b0
  go_enter Tryz.func3, Tryz.ntmps3
  go_wp2_with fail
  try rw [hW]
  refine Calls.mono HLe.out ?_
  rintro e w2 ⟨v2, rfl, hL2, hb2⟩
  have R2 := hid ((hb2.block w.heap.size (by omega)).trans R0.out)
  have B2 := hid (B0.out.trans (hb2.mono (by omega)))
  have z2 := hb2.size
  obtain ⟨lo, lp, hv2⟩ := hL2.reads.form
  subst hv2
  obtain ⟨W3, hW3⟩ : ∃ W3, w2.alloc (.cells #[.string r.id, .int .i64 r.kind, .slice lo r.lines.length lp, .string r.hold, .int .i64 r.ttl, .int .i64 r.now] 24) = W3 := ⟨_, rfl⟩
  have RO3 := hid (show W3.heap[w2.heap.size]? = some (.cells #[.string r.id, .int .i64 r.kind, .slice lo r.lines.length lp, .string r.hold, .int .i64 r.ttl, .int .i64 r.now] 24 (0, 0)) by rw [← hW3]; exact heap_alloc_new w2 _)
  have b3 : Below w2.heap.size w2 W3 := by rw [← hW3]; exact (Below.refl _ _).alloc (Nat.le_refl _) _
  have zW3 : W3.heap.size = w2.heap.size + 1 := by rw [← hW3, World.size_alloc]
  have R3 := hid ((b3.block w.heap.size (by omega)).trans R2.out)
  have B3 := hid (B2.out.trans (b3.mono (by omega)))
  have L3 := hid (hL2.below b3)
  have d0 : W3.cell? ⟨w2.heap.size, 0, none⟩ = some (.string r.id) := by rw [Lib.cell_of_heap RO3.out]; rfl
  have d1 : W3.cell? ⟨w2.heap.size, 1, none⟩ = some (.int .i64 r.kind) := by rw [Lib.cell_of_heap RO3.out]; rfl
  have d2 : W3.cell? ⟨w2.heap.size, 2, none⟩ = some (.slice lo r.lines.length lp) := by rw [Lib.cell_of_heap RO3.out]; rfl
  have d3 : W3.cell? ⟨w2.heap.size, 3, none⟩ = some (.string r.hold) := by rw [Lib.cell_of_heap RO3.out]; rfl
  have d4 : W3.cell? ⟨w2.heap.size, 4, none⟩ = some (.int .i64 r.ttl) := by rw [Lib.cell_of_heap RO3.out]; rfl
  have d5 : W3.cell? ⟨w2.heap.size, 5, none⟩ = some (.int .i64 r.now) := by rw [Lib.cell_of_heap RO3.out]; rfl
  have HP := hid (HC1.out _ _ W3 L3.out.reads)
  unfold rqC
  clear hL2 hb2 b3 HLe R0 R2 B0 B2 c0 c1 c2 c3 c4 c5 hW HC1
  go_wp2_with fail
  try rw [hW3]
  refine Calls.mono HP.out ?_
  rintro e w4 ⟨rfl, hb4⟩
  have R4 := hid ((hb4.block w.heap.size (by omega)).trans R3.out)
  have RO4 := hid ((hb4.block w2.heap.size (by omega)).trans RO3.out)
  have B4 := hid (B3.out.trans (hb4.mono (by omega)))
  have L4 := hid (L3.out.below hb4)
  have z4 := hb4.size
  have HQ := hid (HN1.out _ _ w4 L4.out.reads)
  clear hb4 HP R3 RO3 B3 L3 d0 d1 d2 d3 d4 d5 hW3 HN1
  have d0 : w4.cell? ⟨w2.heap.size, 0, none⟩ = some (.string r.id) := by rw [Lib.cell_of_heap RO4.out]; rfl
  have d1 : w4.cell? ⟨w2.heap.size, 1, none⟩ = some (.int .i64 r.kind) := by rw [Lib.cell_of_heap RO4.out]; rfl
  have d2 : w4.cell? ⟨w2.heap.size, 2, none⟩ = some (.slice lo r.lines.length lp) := by rw [Lib.cell_of_heap RO4.out]; rfl
  have d3 : w4.cell? ⟨w2.heap.size, 3, none⟩ = some (.string r.hold) := by rw [Lib.cell_of_heap RO4.out]; rfl
  have d4 : w4.cell? ⟨w2.heap.size, 4, none⟩ = some (.int .i64 r.ttl) := by rw [Lib.cell_of_heap RO4.out]; rfl
  have d5 : w4.cell? ⟨w2.heap.size, 5, none⟩ = some (.int .i64 r.now) := by rw [Lib.cell_of_heap RO4.out]; rfl
  go_wp2_with fail
  refine Calls.mono HQ.out ?_
  rintro e w5 ⟨v5, rfl, hr5, hb5⟩
  have R5 := hid ((hb5.block w.heap.size (by omega)).trans R4.out)
  have RO5 := hid ((hb5.block w2.heap.size (by omega)).trans RO4.out)
  have B5 := hid (B4.out.trans (hb5.mono (by omega)))
  have L5 := hid (L4.out.below hb5)
  have z5 := hb5.size
  obtain ⟨xo, xp, hv5⟩ := hr5.form
  subst hv5
  generalize hqn : nmR r = q at *
  clear hqn
  obtain ⟨W6, hW6⟩ : ∃ W6, w5.alloc (.cells #[.string q.id, .int .i64 q.kind, .slice xo q.lines.length xp, .string q.hold, .int .i64 q.ttl, .int .i64 q.now] 24) = W6 := ⟨_, rfl⟩
  have RX6 := hid (show W6.heap[w5.heap.size]? = some (.cells #[.string q.id, .int .i64 q.kind, .slice xo q.lines.length xp, .string q.hold, .int .i64 q.ttl, .int .i64 q.now] 24 (0, 0)) by rw [← hW6]; exact heap_alloc_new w5 _)
  have b6 : Below w5.heap.size w5 W6 := by rw [← hW6]; exact (Below.refl _ _).alloc (Nat.le_refl _) _
  have zW6 : W6.heap.size = w5.heap.size + 1 := by rw [← hW6, World.size_alloc]
  have R6 := hid ((b6.block w.heap.size (by omega)).trans R5.out)
  have RO6 := hid ((b6.block w2.heap.size (by omega)).trans RO5.out)
  have B6 := hid (B5.out.trans (b6.mono (by omega)))
  have L6 := hid (L5.out.below b6)
  have X6 := hid (hr5.below b6)
  have HP := hid (HC2.out _ _ W6 (HR.out.below B6.out))
  unfold rqC
  clear hr5 hb5 b6 HQ R4 RO4 B4 L4 R5 RO5 B5 L5 HC2 d0 d1 d2 d3 d4 d5
  have c0 : W6.cell? ⟨w.heap.size, 0, none⟩ = some (.string r.id) := by rw [Lib.cell_of_heap R6.out]; rfl
  have c1 : W6.cell? ⟨w.heap.size, 1, none⟩ = some (.int .i64 r.kind) := by rw [Lib.cell_of_heap R6.out]; rfl
  have c2 : W6.cell? ⟨w.heap.size, 2, none⟩ = some (.slice ao r.lines.length cap) := by rw [Lib.cell_of_heap R6.out]; rfl
  have c3 : W6.cell? ⟨w.heap.size, 3, none⟩ = some (.string r.hold) := by rw [Lib.cell_of_heap R6.out]; rfl
  have c4 : W6.cell? ⟨w.heap.size, 4, none⟩ = some (.int .i64 r.ttl) := by rw [Lib.cell_of_heap R6.out]; rfl
  have c5 : W6.cell? ⟨w.heap.size, 5, none⟩ = some (.int .i64 r.now) := by rw [Lib.cell_of_heap R6.out]; rfl
  go_wp2_with fail
  try rw [hW6]
  refine Calls.mono HP.out ?_
  rintro e w7 ⟨rfl, hb7⟩
  have R7 := hid ((hb7.block w.heap.size (by omega)).trans R6.out)
  have RO7 := hid ((hb7.block w2.heap.size (by omega)).trans RO6.out)
  have RX7 := hid ((hb7.block w5.heap.size (by omega)).trans RX6.out)
  have B7 := hid (B6.out.trans (hb7.mono (by omega)))
  have L7 := hid (L6.out.below hb7)
  have X7 := hid (X6.out.below hb7)
  have z7 := hb7.size
  have HQ := hid (HN2.out _ _ w7 (HR.out.below B7.out))
  clear hb7 HP R6 RO6 RX6 B6 L6 X6 c0 c1 c2 c3 c4 c5 hW6 HN2
  have c0 : w7.cell? ⟨w.heap.size, 0, none⟩ = some (.string r.id) := by rw [Lib.cell_of_heap R7.out]; rfl
  have c1 : w7.cell? ⟨w.heap.size, 1, none⟩ = some (.int .i64 r.kind) := by rw [Lib.cell_of_heap R7.out]; rfl
  have c2 : w7.cell? ⟨w.heap.size, 2, none⟩ = some (.slice ao r.lines.length cap) := by rw [Lib.cell_of_heap R7.out]; rfl
  have c3 : w7.cell? ⟨w.heap.size, 3, none⟩ = some (.string r.hold) := by rw [Lib.cell_of_heap R7.out]; rfl
  have c4 : w7.cell? ⟨w.heap.size, 4, none⟩ = some (.int .i64 r.ttl) := by rw [Lib.cell_of_heap R7.out]; rfl
  have c5 : w7.cell? ⟨w.heap.size, 5, none⟩ = some (.int .i64 r.now) := by rw [Lib.cell_of_heap R7.out]; rfl
  go_wp2_with fail
  refine Calls.mono HQ.out ?_
  rintro e w8 ⟨v8, rfl, hr8, hb8⟩
  have R8 := hid ((hb8.block w.heap.size (by omega)).trans R7.out)
  have RO8 := hid ((hb8.block w2.heap.size (by omega)).trans RO7.out)
  have RX8 := hid ((hb8.block w5.heap.size (by omega)).trans RX7.out)
  have B8 := hid (B7.out.trans (hb8.mono (by omega)))
  have L8 := hid (L7.out.below hb8)
  have X8 := hid (X7.out.below hb8)
  have z8 := hb8.size
  obtain ⟨yo, yp, hv8⟩ := hr8.form
  subst hv8
  obtain ⟨W9, hW9⟩ : ∃ W9, w8.alloc (.cells #[.string q.id, .int .i64 q.kind, .slice yo q.lines.length yp, .string q.hold, .int .i64 q.ttl, .int .i64 q.now] 24) = W9 := ⟨_, rfl⟩
  have RY9 := hid (show W9.heap[w8.heap.size]? = some (.cells #[.string q.id, .int .i64 q.kind, .slice yo q.lines.length yp, .string q.hold, .int .i64 q.ttl, .int .i64 q.now] 24 (0, 0)) by rw [← hW9]; exact heap_alloc_new w8 _)
  have b9 : Below w8.heap.size w8 W9 := by rw [← hW9]; exact (Below.refl _ _).alloc (Nat.le_refl _) _
  have zW9 : W9.heap.size = w8.heap.size + 1 := by rw [← hW9, World.size_alloc]
  have R9 := hid ((b9.block w.heap.size (by omega)).trans R8.out)
  have RO9 := hid ((b9.block w2.heap.size (by omega)).trans RO8.out)
  have RX9 := hid ((b9.block w5.heap.size (by omega)).trans RX8.out)
  have B9 := hid (B8.out.trans (b9.mono (by omega)))
  have L9 := hid (L8.out.below b9)
  have X9 := hid (X8.out.below b9)
  have Y9 := hid (hr8.below b9)
  have HSm := hid (sameRequest_any q _ _ W9 X9.out Y9.out (by omega))
  unfold rqC at HSm ⊢
  clear hr8 hb8 b9 HQ R7 RO7 RX7 B7 L7 X7 R8 RO8 RX8 B8 L8 X8 c0 c1 c2 c3 c4 c5
  have c0 : W9.cell? ⟨w5.heap.size, 0, none⟩ = some (.string q.id) := by rw [Lib.cell_of_heap RX9.out]; rfl
  have c1 : W9.cell? ⟨w5.heap.size, 1, none⟩ = some (.int .i64 q.kind) := by rw [Lib.cell_of_heap RX9.out]; rfl
  have c2 : W9.cell? ⟨w5.heap.size, 2, none⟩ = some (.slice xo q.lines.length xp) := by rw [Lib.cell_of_heap RX9.out]; rfl
  have c3 : W9.cell? ⟨w5.heap.size, 3, none⟩ = some (.string q.hold) := by rw [Lib.cell_of_heap RX9.out]; rfl
  have c4 : W9.cell? ⟨w5.heap.size, 4, none⟩ = some (.int .i64 q.ttl) := by rw [Lib.cell_of_heap RX9.out]; rfl
  have c5 : W9.cell? ⟨w5.heap.size, 5, none⟩ = some (.int .i64 q.now) := by rw [Lib.cell_of_heap RX9.out]; rfl
  have d0 : W9.cell? ⟨w8.heap.size, 0, none⟩ = some (.string q.id) := by rw [Lib.cell_of_heap RY9.out]; rfl
  have d1 : W9.cell? ⟨w8.heap.size, 1, none⟩ = some (.int .i64 q.kind) := by rw [Lib.cell_of_heap RY9.out]; rfl
  have d2 : W9.cell? ⟨w8.heap.size, 2, none⟩ = some (.slice yo q.lines.length yp) := by rw [Lib.cell_of_heap RY9.out]; rfl
  have d3 : W9.cell? ⟨w8.heap.size, 3, none⟩ = some (.string q.hold) := by rw [Lib.cell_of_heap RY9.out]; rfl
  have d4 : W9.cell? ⟨w8.heap.size, 4, none⟩ = some (.int .i64 q.ttl) := by rw [Lib.cell_of_heap RY9.out]; rfl
  have d5 : W9.cell? ⟨w8.heap.size, 5, none⟩ = some (.int .i64 q.now) := by rw [Lib.cell_of_heap RY9.out]; rfl
  generalize (ckA r).1 = ce at *
  generalize (ckA r).2 = ci at *
  go_wp2_with fail
  try rw [hW9]
  refine Calls.mono HSm.out ?_
  rintro e wa ⟨rfl, hba⟩
  have Ra := hid ((hba.block w.heap.size (by omega)).trans R9.out)
  have ROa := hid ((hba.block w2.heap.size (by omega)).trans RO9.out)
  have Ba := hid (B9.out.trans (hba.mono (by omega)))
  have La := hid (L9.out.below hba)
  have za := hba.size
  have CK := hid (fun (wx : World) (hx : Below wa.heap.size wa wx) => (rkept_any r (.slice lo r.lines.length lp) (.slice ao r.lines.length cap) wx (La.out.below hx) ((HR.out.below Ba.out).below hx) (by omega)).mono fun e w' g => (show e = .returned (.bool true) ∧ Below wa.heap.size wa w' from ⟨g.1, hx.trans (g.2.mono hx.size)⟩))
  have CX := hid (fun (wx : World) (hx : Below wa.heap.size wa wx) => (changes_any r.kind wx).mono fun e w' g => (show e = .returned (.bool (kC r.kind)) ∧ Below wa.heap.size wa w' from ⟨g.1, hx.trans (g.2.mono hx.size)⟩))
  have CY := hid (fun (wx : World) (hx : Below wa.heap.size wa wx) => (rChanges_any r.kind wx).mono fun e w' g => (show e = .returned (.bool (kC r.kind)) ∧ Below wa.heap.size wa w' from ⟨g.1, by rw [g.2]; exact hx⟩))
  unfold rqC at CK
  clear hba HSm R9 RO9 RX9 RY9 B9 L9 X9 Y9 c0 c1 c2 c3 c4 c5 d0 d1 d2 d3 d4 d5 hW9
  generalize kC r.kind = ck at *
  have HK := hid (fun (wx : World) (hx : Below wa.heap.size wa wx) => (show (wx.cell? ⟨w.heap.size, 0, none⟩ = some (.string r.id) ∧ wx.cell? ⟨w.heap.size, 1, none⟩ = some (.int .i64 r.kind) ∧ wx.cell? ⟨w.heap.size, 2, none⟩ = some (.slice ao r.lines.length cap) ∧ wx.cell? ⟨w.heap.size, 3, none⟩ = some (.string r.hold) ∧ wx.cell? ⟨w.heap.size, 4, none⟩ = some (.int .i64 r.ttl) ∧ wx.cell? ⟨w.heap.size, 5, none⟩ = some (.int .i64 r.now)) ∧ (wx.cell? ⟨w2.heap.size, 0, none⟩ = some (.string r.id) ∧ wx.cell? ⟨w2.heap.size, 1, none⟩ = some (.int .i64 r.kind) ∧ wx.cell? ⟨w2.heap.size, 2, none⟩ = some (.slice lo r.lines.length lp) ∧ wx.cell? ⟨w2.heap.size, 3, none⟩ = some (.string r.hold) ∧ wx.cell? ⟨w2.heap.size, 4, none⟩ = some (.int .i64 r.ttl) ∧ wx.cell? ⟨w2.heap.size, 5, none⟩ = some (.int .i64 r.now)) from by
    have h1 := (hx.block w.heap.size (by omega)).trans Ra.out
    have h2 := (hx.block w2.heap.size (by omega)).trans ROa.out
    exact ⟨⟨by rw [Lib.cell_of_heap h1]; rfl, by rw [Lib.cell_of_heap h1]; rfl, by rw [Lib.cell_of_heap h1]; rfl, by rw [Lib.cell_of_heap h1]; rfl, by rw [Lib.cell_of_heap h1]; rfl, by rw [Lib.cell_of_heap h1]; rfl⟩, by rw [Lib.cell_of_heap h2]; rfl, by rw [Lib.cell_of_heap h2]; rfl, by rw [Lib.cell_of_heap h2]; rfl, by rw [Lib.cell_of_heap h2]; rfl, by rw [Lib.cell_of_heap h2]; rfl, by rw [Lib.cell_of_heap h2]; rfl⟩))
  have s00 : Below wa.heap.size wa wa := Below.refl _ _
  have s0 : Below wa.heap.size wa wa.drew := (Below.refl _ _).drew
  clear Ra ROa La
  go_wp2_with fail
  go_region_held3 (fun wx => (wx.cell? ⟨w.heap.size, 0, none⟩ = some (.string r.id) ∧ wx.cell? ⟨w.heap.size, 1, none⟩ = some (.int .i64 r.kind) ∧ wx.cell? ⟨w.heap.size, 2, none⟩ = some (.slice ao r.lines.length cap) ∧ wx.cell? ⟨w.heap.size, 3, none⟩ = some (.string r.hold) ∧ wx.cell? ⟨w.heap.size, 4, none⟩ = some (.int .i64 r.ttl) ∧ wx.cell? ⟨w.heap.size, 5, none⟩ = some (.int .i64 r.now)) ∧ (wx.cell? ⟨w2.heap.size, 0, none⟩ = some (.string r.id) ∧ wx.cell? ⟨w2.heap.size, 1, none⟩ = some (.int .i64 r.kind) ∧ wx.cell? ⟨w2.heap.size, 2, none⟩ = some (.slice lo r.lines.length lp) ∧ wx.cell? ⟨w2.heap.size, 3, none⟩ = some (.string r.hold) ∧ wx.cell? ⟨w2.heap.size, 4, none⟩ = some (.int .i64 r.ttl) ∧ wx.cell? ⟨w2.heap.size, 5, none⟩ = some (.int .i64 r.now))) (exact HK.out _ (by assumption)) (first
    | (go_at_call 10; refine (CK.out _ (by assumption)).mono ?_; rintro e w3 ⟨rfl, s3⟩)
    | (go_at_call 11; refine (CX.out _ (by assumption)).mono ?_; rintro e w3 ⟨rfl, s4⟩)
    | (go_at_call 12; refine (CY.out _ (by assumption)).mono ?_; rintro e w3 ⟨rfl, s5⟩))
  all_goals
    go_wp2
    go_ret
    exact ⟨by simp, Ba.out.trans (s5.mono (by have := Ba.out.size; omega))⟩
end Go.Proofs.YtebkagmlhmdckaaGreat
