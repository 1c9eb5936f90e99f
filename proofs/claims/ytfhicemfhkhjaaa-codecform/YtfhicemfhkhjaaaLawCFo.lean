/-
  Fo2: CodecForm: works.
  LawCFo: CodecForm: the law's own walk.
-/
import Derived.Test.YtfhicemfhkhjaaaLawCRq
import Derived.Test.YtfhicemfhkhjaaaTp3
import Derived.Test.YtfhicemfhkhjaaaFo1
import Derived.Laws.BitsAllLaws
namespace Go.Proofs.Ytfhicemfhkhjaaa
open Go.RowKit
set_option maxRecDepth 100000

/-- the request of works -/
def wkR : Rq := ⟨⟨#[114]⟩, 1, [(⟨#[97]⟩, 5)], ⟨#[]⟩, 0, 0⟩
theorem wk_bytes : 81 :: rqB wkR = [81, 1, 114, 2, 1, 1, 97, 10, 0, 0, 0] := by decide +kernel
theorem wk_read : rqs [81, 1, 114, 2, 1, 1, 97, 10, 0, 0, 0] = (0, 0, wkR) := by
  rw [rqs_whole, ← wk_bytes]
  refine (Fd.request 4096 (by decide)).whole_back _ ⟨by decide, (show I64 _ from ⟨by decide, by decide⟩), ⟨by decide, ?_⟩, by decide, (show I64 _ from ⟨by decide, by decide⟩), (show I64 _ from ⟨by decide, by decide⟩)⟩ (by decide +kernel)
  intro x hx
  simp only [wkR, List.mem_singleton] at hx
  subst hx
  exact ⟨by decide, by decide, by decide⟩
set_option maxHeartbeats 2000000 in
theorem works_any (w : World) : Calls Try.prog 10 #[] w fun e w' => e = .returned (.bool true) ∧ Below w.heap.size w w' := by
  go_enter Try.func10, Try.ntmps10
  go_wp2_with fail
  obtain ⟨W1, hW1⟩ : ∃ W, w.alloc (.cells #[.string ⟨#[97]⟩, .int .i64 5] 73) = W := ⟨_, rfl⟩
  have R1 := hid (show W1.heap[w.heap.size]? = some (.cells #[.string ⟨#[97]⟩, .int .i64 5] 73 (0, 0)) by rw [← hW1]; exact heap_alloc_new w _)
  have b1 : Below w.heap.size w W1 := by rw [← hW1]; exact (Below.refl _ _).alloc (Nat.le_refl _) _
  have z1 : W1.heap.size = w.heap.size + 1 := by rw [← hW1, World.size_alloc]
  obtain ⟨W2, hW2⟩ : ∃ W, W1.alloc (.cells #[.string ⟨#[114]⟩, .int .i64 1, .slice (some ⟨w.heap.size, 0, none⟩) 1 1, .string ⟨#[]⟩, .int .i64 0, .int .i64 0] 28) = W := ⟨_, rfl⟩
  have R2 := hid (show W2.heap[w.heap.size + 1]? = some (.cells #[.string ⟨#[114]⟩, .int .i64 1, .slice (some ⟨w.heap.size, 0, none⟩) 1 1, .string ⟨#[]⟩, .int .i64 0, .int .i64 0] 28 (0, 0)) by rw [← hW2, ← z1]; exact heap_alloc_new W1 _)
  have b2 : Below W1.heap.size W1 W2 := by rw [← hW2]; exact (Below.refl _ _).alloc (Nat.le_refl _) _
  have z2 : W2.heap.size = w.heap.size + 2 := by rw [← hW2, World.size_alloc]; omega
  have L1 := hid (show RLn W1 (.slice (some ⟨w.heap.size, 0, none⟩) wkR.lines.length 1) wkR.lines from .inr ⟨w.heap.size, 0, 1, rfl, Nat.le_refl _, fun j hj => by
    obtain rfl : j = 0 := by simp [wkR] at hj; exact hj
    exact ⟨by rw [Lib.cell_of_heap R1.out]; rfl, by rw [Lib.cell_of_heap R1.out]; rfl⟩⟩)
  have L2 := hid (L1.out.below b2)
  have B2 := hid (b1.trans (b2.mono (by omega)))
  have HP := hid (putRequest_any wkR (some ⟨w.heap.size, 0, none⟩) 1 W2 ⟨⟨by decide, by decide, by decide⟩, ⟨by decide, by decide⟩, ⟨by decide, by decide⟩, by decide, by decide⟩ (L2.out.ll (fun i hi => by
    obtain rfl : i = 0 := by simp [wkR] at hi; exact hi
    exact ⟨(by decide : (ByteArray.mk #[97]).size ≤ 1000000000000), (by decide : (-9223372036854775808 : Int) ≤ 5), (by decide : (5 : Int) ≤ 9223372036854775807)⟩)))
  unfold Wrt at HP
  rw [wk_bytes, if_pos (by decide), if_pos (by decide)] at HP
  unfold rqV at HP
  clear b1 b2 L1 R1
  try rw [hW1]
  try rw [hW2]
  refine Calls.mono HP.out ?_
  rintro e w3 ⟨v3, rfl, ho3, hb3⟩
  have B3 := hid (B2.out.trans (hb3.mono B2.out.size))
  have z3 := hb3.size
  have R3 := hid ((hb3.block (w.heap.size + 1) (by omega)).trans R2.out)
  have L3 := hid (L2.out.below hb3)
  have HQ := hid (request_any _ v3 w3 ho3.reads)
  unfold Rdq at HQ
  rw [wk_read] at HQ
  have O3 := hid ho3.reads
  clear ho3 hb3 HP L2 R2 B2 hW1 hW2
  go_wp2_with fail
  refine Calls.mono HQ.out ?_
  rintro e w4 ⟨v4, rfl, ho4, hb4⟩
  have B4 := hid (B3.out.trans (hb4.mono B3.out.size))
  have z4 := hb4.size
  have R4 := hid ((hb4.block (w.heap.size + 1) (by omega)).trans R3.out)
  have L4 := hid (L3.out.below hb4)
  have O4 := hid (O3.out.below hb4)
  have V4 := hid ho4.reads
  obtain ⟨xo, xn, xp, rfl⟩ := ho4.form
  obtain ⟨W5, hW5⟩ : ∃ W, w4.alloc (.cells #[.string ⟨#[114]⟩, .int .i64 1, .slice xo xn xp, .string ⟨#[]⟩, .int .i64 0, .int .i64 0] 28) = W := ⟨_, rfl⟩
  have R5 := hid (show W5.heap[w4.heap.size]? = some (.cells #[.string ⟨#[114]⟩, .int .i64 1, .slice xo xn xp, .string ⟨#[]⟩, .int .i64 0, .int .i64 0] 28 (0, 0)) by rw [← hW5]; exact heap_alloc_new w4 _)
  have b5 : Below w4.heap.size w4 W5 := by rw [← hW5]; exact (Below.refl _ _).alloc (Nat.le_refl _) _
  have R6 := hid ((b5.block (w.heap.size + 1) (by omega)).trans R4.out)
  have T5 := hid (text_run (O4.out.below b5))
  have B5 := hid (B4.out.trans (b5.mono B4.out.size))
  have HS := hid (sameRequest_any wkR _ _ W5 (V4.out.below b5) (L4.out.below b5) (by decide))
  have c0 : W5.cell? ⟨w4.heap.size, 0, none⟩ = some (.string ⟨#[114]⟩) := by rw [Lib.cell_of_heap R5.out]; rfl
  have c1 : W5.cell? ⟨w4.heap.size, 1, none⟩ = some (.int .i64 1) := by rw [Lib.cell_of_heap R5.out]; rfl
  have c2 : W5.cell? ⟨w4.heap.size, 2, none⟩ = some (.slice xo xn xp) := by rw [Lib.cell_of_heap R5.out]; rfl
  have c3 : W5.cell? ⟨w4.heap.size, 3, none⟩ = some (.string ⟨#[]⟩) := by rw [Lib.cell_of_heap R5.out]; rfl
  have c4 : W5.cell? ⟨w4.heap.size, 4, none⟩ = some (.int .i64 0) := by rw [Lib.cell_of_heap R5.out]; rfl
  have c5 : W5.cell? ⟨w4.heap.size, 5, none⟩ = some (.int .i64 0) := by rw [Lib.cell_of_heap R5.out]; rfl
  have d0 : W5.cell? ⟨w.heap.size + 1, 0, none⟩ = some (.string ⟨#[114]⟩) := by rw [Lib.cell_of_heap R6.out]; rfl
  have d1 : W5.cell? ⟨w.heap.size + 1, 1, none⟩ = some (.int .i64 1) := by rw [Lib.cell_of_heap R6.out]; rfl
  have d2 : W5.cell? ⟨w.heap.size + 1, 2, none⟩ = some (.slice (some ⟨w.heap.size, 0, none⟩) 1 1) := by rw [Lib.cell_of_heap R6.out]; rfl
  have d3 : W5.cell? ⟨w.heap.size + 1, 3, none⟩ = some (.string ⟨#[]⟩) := by rw [Lib.cell_of_heap R6.out]; rfl
  have d4 : W5.cell? ⟨w.heap.size + 1, 4, none⟩ = some (.int .i64 0) := by rw [Lib.cell_of_heap R6.out]; rfl
  have d5 : W5.cell? ⟨w.heap.size + 1, 5, none⟩ = some (.int .i64 0) := by rw [Lib.cell_of_heap R6.out]; rfl
  clear ho4 hb4 b5 HQ B4 L4 O4 V4 R4 R3 L3 O3 R5 R6
  dsimp only [rqC, wkR] at HS ⊢
  have HW5 := hid hW5
  have HC := hid (And.intro c0 (And.intro c1 (And.intro c2 (And.intro c3 (And.intro c4 c5)))))
  have HD := hid (And.intro d0 (And.intro d1 (And.intro d2 (And.intro d3 (And.intro d4 d5)))))
  clear hW5 c0 c1 c2 c3 c4 c5 d0 d1 d2 d3 d4 d5
  go_wp2_with fail
  rw [HW5.out, T5.out]
  obtain ⟨c0, c1, c2, c3, c4, c5⟩ := HC.out
  obtain ⟨d0, d1, d2, d3, d4, d5⟩ := HD.out
  go_wp2_with fail
  refine Calls.mono HS.out ?_
  rintro e w6 ⟨rfl, hb6⟩
  have B6 := hid (B5.out.trans (hb6.mono B5.out.size))
  clear hb6 HS
  go_wp2
  go_ret
  exact ⟨rfl, B6.out⟩
end Go.Proofs.Ytfhicemfhkhjaaa

namespace Go.Proofs.Ytfhicemfhkhjaaa
open Go.RowKit
set_option maxRecDepth 100000

theorem owns_frozen {w : World} {base g n cap : Nat} {l : List UInt8} (h : Owns w base (.slice (some ⟨g, 0, none⟩) n cap) l) (j : Nat) : w.frozen? ⟨g, j, none⟩ = false := by
  rcases h.2 with ⟨h1, _⟩ | ⟨g', cap', cur, hv, _, hg, _⟩
  · cases h1
  · cases hv
    simp [World.frozen?, hg]
theorem owns_set {w : World} {base g n cap : Nat} {l : List UInt8} (h : Owns w base (.slice (some ⟨g, 0, none⟩) n cap) l) (j : Nat) (c : UInt8) : Owns (w.setCell ⟨g, j, none⟩ (.int .u8 (c.toNat : Int))) base (.slice (some ⟨g, 0, none⟩) n cap) (l.set j c) := by
  rcases h.2 with ⟨h1, _⟩ | ⟨g', cap', cur, hv, hb, hg, hn, hm, hs, ht⟩
  · cases h1
  · cases hv
    refine ⟨by simp [bc_length], .inr ⟨g, cap, cur.setIfInBounds j (.int .u8 (c.toNat : Int)), by rw [List.length_set], hb, heap_setCell_same w g j _ _ _ hg, by rw [List.length_set]; exact hn, hm, by simpa using hs, ?_⟩⟩
    rw [List.length_set, Array.toList_setIfInBounds, List.take_set, ht]
    simp [bc, List.map_set]
set_option maxHeartbeats 4000000 in
theorem codecForm_any (v : Value) (l : List UInt8) (at' : Int) (turn : Nat) (w : World) (hr : Reads w v l) (hl : l.length ≤ 140737488355000) (ht : turn < 256) :
    Calls Try.prog 3 #[v, .int .i64 at', .int .u8 (turn : Int)] w fun e w' => e = .returned (.bool true) ∧ Below w.heap.size w w' := by
  have HR := hid hr
  obtain ⟨bo, bp, rfl⟩ := hr.form
  clear hr
  go_enter Try.func3, Try.ntmps3
  go_wp2_with fail
  refine Calls.mono (taken_any l _ w HR.out) ?_
  rintro e w1 ⟨k, hk, hk0, rfl, hb1⟩
  have B1 := hid hb1
  clear hb1
  go_wp2_with fail
  refine Calls.mono (works_any w1) ?_
  rintro e w2 ⟨rfl, hb2⟩
  have B2 := hid (B1.out.trans (hb2.mono B1.out.size))
  have hkl : ¬ k < 0 := by omega
  have hkg : ¬ 1 < k := by omega
  clear hb2 B1
  by_cases h0 : l = []
  · subst h0
    have hk1 := hk0 rfl
    subst hk1
    go_wp2
    go_ret
    exact ⟨rfl, B2.out⟩
  have hpos : 0 < l.length := List.length_pos_iff.2 h0
  have hI : ¬ ((l.length : Nat) : Int) = 0 := by omega
  have HR2 := hid (HR.out.below B2.out)
  have HN := hid (Owns.nil w2 w.heap.size)
  have hbz : w.heap.size ≤ w2.heap.size := B2.out.size
  have hlen : ([] : List UInt8).length + l.length ≤ 140737488355328 := by simp; omega
  clear hk hk0 h0
  go_wp2_with (at_builtin; go_loud (refine wpList_app rfl _ _ _ rfl Try.underlying22 u8info w.heap.size _ [] rfl HN.out _ l rfl HR2.out hlen hbz ?hnext))
  case hnext =>
  intro v3 w3 ho3 hg3
  have B3 := hid (show Below w.heap.size w w3 from B2.out.trans ⟨hg3.os, hg3.tape, hg3.output, hg3.size, fun j hj => hg3.block j (by omega) (fun e => by cases e)⟩)
  obtain ⟨g, cp, hv3, hc3, hm3, hcell3⟩ := ho3.form hpos
  subst hv3
  have HO3 := hid ho3
  clear ho3 hg3 HR2 HN B2
  obtain ⟨r, hr⟩ : ∃ r, at'.tmod (l.length : Int) = r := ⟨_, rfl⟩
  have hr1 : -(l.length : Int) < r := by rw [← hr]; have := Int.lt_tmod_of_pos at' (show (0 : Int) < (l.length : Int) by omega); omega
  have hr2 : r < (l.length : Int) := by rw [← hr]; exact Int.tmod_lt_of_pos at' (by omega)
  obtain ⟨kk, hkk, hlt⟩ : ∃ kk : Nat, (if r < 0 then r + (l.length : Int) else r) = (kk : Int) ∧ kk < l.length := by
    by_cases h : r < 0
    · rw [if_pos h]; exact ⟨(r + l.length).toNat, by omega, by omega⟩
    · rw [if_neg h]; exact ⟨r.toNat, by omega, by omega⟩
  have ck := hcell3 kk hlt
  have fk : w3.frozen? ⟨g, kk, none⟩ = false := owns_frozen HO3.out kk
  obtain ⟨c, hc⟩ : ∃ c : UInt8, bits .xor .u8 ((l[kk]'hlt).toNat : Int) (turn : Int) = (c.toNat : Int) := by
    have hu := UInt8.toNat_lt (l[kk]'hlt)
    refine ⟨UInt8.ofNat ((l[kk]'hlt).toNat ^^^ turn), ?_⟩
    rw [u8_xor_nat _ _ (by omega) (by omega), UInt8.toNat_ofNat']
    have : (l[kk]'hlt).toNat ^^^ turn < 2 ^ 8 := Nat.xor_lt_two_pow (by omega) (by omega)
    omega
  generalize (l[kk]'hlt).toNat = tk at *
  obtain ⟨W, hW⟩ : ∃ W, w3.setCell ⟨g, kk, none⟩ (.int .u8 (c.toNat : Int)) = W := ⟨_, rfl⟩
  have HO6 := hid (show Owns W w.heap.size (.slice (some ⟨g, 0, none⟩) l.length cp) (l.set kk c) by rw [← hW]; exact owns_set HO3.out kk c)
  have HB6 := hid (show Below w.heap.size w W by
    rw [← hW]
    exact B3.out.setCell (p := ⟨g, kk, none⟩) (HO3.out.block_ge g rfl) _)
  clear hcell3 HO3 B3
  have HRW := hid HO6.out.reads
  clear HO6
  generalize l.set kk c = T2 at *
  generalize l.length = n at *
  have hkI : (kk : Int) < (n : Int) := by omega
  by_cases hneg : r < 0
  · rw [if_pos hneg] at hkk
    go_wp2_with fail
    refine Calls.mono (taken_any T2 _ W HRW.out) ?_
    rintro e w7 ⟨k7, hk7, _, rfl, hb7⟩
    have HB7 := hid (HB6.out.trans (hb7.mono HB6.out.size))
    clear hb7 ck fk hc hW
    rcases hk7 with rfl | rfl
    · go_wp2
      go_ret
      exact ⟨rfl, HB7.out⟩
    · go_wp2
      go_ret
      exact ⟨rfl, HB7.out⟩
  · rw [if_neg hneg] at hkk
    go_wp2_with fail
    refine Calls.mono (taken_any T2 _ W HRW.out) ?_
    rintro e w7 ⟨k7, hk7, _, rfl, hb7⟩
    have HB7 := hid (HB6.out.trans (hb7.mono HB6.out.size))
    clear hb7 ck fk hc hW
    rcases hk7 with rfl | rfl
    · go_wp2
      go_ret
      exact ⟨rfl, HB7.out⟩
    · go_wp2
      go_ret
      exact ⟨rfl, HB7.out⟩
end Go.Proofs.Ytfhicemfhkhjaaa
