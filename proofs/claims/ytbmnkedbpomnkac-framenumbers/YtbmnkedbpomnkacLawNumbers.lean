/-
  FrameNumbers: the law's own walk, out of the contracts.
-/
import Derived.Test.YtbmnkedbpomnkacWords
import Derived.Test.YtbmnkedbpomnkacLend
import Derived.Deep.CutRange
import Derived.Deep.RegionWith
import Derived.Deep.DrawnRows
namespace Go.Proofs.Ytbmnkedbpomnkac
open Go.RowKit
attribute [local go_sem ↓] Go.wp_at_zero Go.wp_at_succ

/-- a world behind another: nothing old has turned -/
def Since (w w' : World) : Prop := Below w.heap.size w w'

theorem text_since {w : World} {v : Value} {l : List UInt8} (h : Reads w v l) : ∀ w', Since w w' → (convert 22 9 v).run Try.prog w' = .ok (.string ⟨l.toArray⟩) w' :=
  fun _ hw => run_text 22 9 Try.underlying22 Try.underlying5 Try.underlying9 (h.below hw)

set_option maxRecDepth 100000 in
set_option maxHeartbeats 2000000 in
theorem numbers_any (v : Value) (l : List UInt8) (n : Nat) (w : World) (hr : Reads w v l) (hn : n < 18446744073709551616) (hl : l.length + 100 ≤ 140737488355328) :
    Calls Try.prog 3 #[v, .int .u64 n] w fun e w' => e = .returned (.bool true) ∧ Below w.heap.size w w' := by
  have HN : Hid (_) := hn
  clear hn
  go_enter Try.func3, Try.ntmps3
  go_wp2_with fail
  refine (lent_any v l w hr (by omega)).mono ?_
  rintro e w1 ⟨v1, rfl, hL1, hb1⟩
  have hr1 := hr.below hb1
  have hz1 := hb1.size
  clear hr
  go_wp2_with fail
  refine (putUint_any v1 l n w1 hL1.reads HN.out (by omega)).mono ?_
  rintro e w2 ⟨v2, rfl, ho2, hb2⟩
  have hr2 := hr1.below hb2
  have hL2 := hL1.below hb2
  have hz2 := hb2.size
  have hB2 := hb1.trans (hb2.mono hz1)
  clear hr1 hL1 hb1 hb2
  go_wp2_with fail
  refine (putWord_any v1 l n w2 hL2.reads (by omega)).mono ?_
  rintro e w3 ⟨v3, rfl, ho3, hb3⟩
  have hr3 := hr2.below hb3
  have hL3 := hL2.below hb3
  have hz3 := hb3.size
  have hB3 := hB2.trans (hb3.mono (Nat.le_trans hz1 hz2))
  have hp3 := ho2.reads.below hb3
  have hq3 := ho3.reads
  clear hr2 hL2 hB2 hb3 ho2 ho3
  have t2 := text_since hp3
  have t3 := text_since hq3
  have s0 : Since w3 w3.drew := (Below.refl _ _).drew
  clear hp3 hq3
  go_upto_region 4 with fail
  go_cut [41] from 26 to 41 (fun s wx => s = .bool false ∧ Below w3.heap.size w3 wx)
  case first =>
    go_region_with (first | (go_at_call 7; refine (refPutUint_any v l n _ ?_ HN.out ?_).mono ?_; (exact hr3.drew); omega; rintro e w4 ⟨v4, rfl, ho4, hb4⟩; have t4 := text_since ho4.reads; have s4 : Since w4 w4 := Below.refl _ _; have s34 : Since w3 w4 := Below.trans s0 hb4; clear ho4 hb4) | (go_at_call 8; refine (refPutWord_any v l n _ ?_ HN.out ?_).mono ?_; (exact hr3.below s34); omega; rintro e w5 ⟨v5, rfl, ho5, hb5⟩; have t5 := text_since ho5.reads; have s5 : Since w5 w5 := Below.refl _ _; have s35 : Since w3 w5 := Below.trans s34 (hb5.mono (Below.size s34)); clear ho5 hb5))
    all_goals (go_wp2_with fail; go_meet; exact ⟨rfl, by assumption⟩)
  case rest =>
  obtain ⟨rfl, hbc⟩ := hcut
  have hr4 := hr3.below hbc
  have hL4 := hL3.below hbc
  have hB4 := hB3.trans (hbc.mono (Nat.le_trans (Nat.le_trans hz1 hz2) hz3))
  clear hr3 hL3 hB3 hbc t2 t3 s0 hz1 hz2 hz3
  obtain ⟨r1, r2, r3, hrd⟩ : ∃ a b c : Int, rdV l = .tuple #[.int .u64 a, .int .i64 b, .int .i64 c] := ⟨_, _, _, rfl⟩
  obtain ⟨x1, x2, hwd⟩ : ∃ a b : Int, wordV l = .tuple #[.int .u64 a, .int .i64 b] := by
    unfold wordV
    split
    · exact ⟨_, _, rfl⟩
    · exact ⟨_, _, rfl⟩
  have HU1 : Hid (_) := uint_any v1 l wc hL4.reads (by omega)
  have HU2 : Hid (_) := refUint_any v l wc hr4 (by omega)
  have HW1 : Hid (_) := word_any v1 l wc hL4.reads
  have HW2 : Hid (_) := refWord_any v l wc hr4
  have HK : Hid (_) := kept_any v1 v l wc hL4 hr4 (by omega)
  rw [hrd] at HU1 HU2
  rw [hwd] at HW1 HW2
  clear hrd hwd hr4 hL4
  go_wp2_with fail
  refine Calls.mono HU1.out ?_
  rintro e w' ⟨rfl, rfl⟩
  go_wp2_with fail
  refine Calls.mono HU2.out ?_
  rintro e w' ⟨rfl, rfl⟩
  go_wp2_with fail
  refine Calls.mono HW1.out ?_
  rintro e w' ⟨rfl, rfl⟩
  go_wp2_with fail
  refine Calls.mono HW2.out ?_
  rintro e w' ⟨rfl, rfl⟩
  go_wp2_with fail
  refine Calls.mono HK.out ?_
  rintro e w' ⟨rfl, rfl⟩
  go_wp2
  go_ret
  exact ⟨rfl, hB4⟩
end Go.Proofs.Ytbmnkedbpomnkac
