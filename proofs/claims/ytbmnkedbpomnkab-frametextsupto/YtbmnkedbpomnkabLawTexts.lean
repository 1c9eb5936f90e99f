/-
  FrameTexts: the law's own walk, out of the contracts.
-/
import Derived.Test.YtbmnkedbpomnkabTexts
import Derived.Test.YtbmnkedbpomnkabSince
namespace Go.Proofs.Ytbmnkedbpomnkab
open Go.RowKit
attribute [local go_sem ↓] Go.wp_at_zero Go.wp_at_succ

set_option maxRecDepth 100000 in
set_option maxHeartbeats 2000000 in
theorem texts_any (v : Value) (l : List UInt8) (s : ByteArray) (n : Int) (w : World) (hr : Reads w v l) (h0 : -9223372036854775808 ≤ n) (h1 : n ≤ 9223372036854775807) (hl : l.length + s.size + 100 ≤ 140737488355328) :
    Calls Try.prog 4 #[v, .string s, .int .i64 n] w fun e w' => e = .returned (.bool true) ∧ Below w.heap.size w w' := by
  have H0 : Hid (_) := h0
  have H1 : Hid (_) := h1
  clear h0 h1
  go_enter Try.func4, Try.ntmps4
  go_wp2_with fail
  refine (lent_any v l w hr (by omega)).mono ?_
  rintro e w1 ⟨v1, rfl, hL1, hb1⟩
  have hr1 := hr.below hb1
  have hz1 := hb1.size
  clear hr
  go_wp2_with fail
  refine (putText_any v1 l s w1 hL1.reads (by omega)).mono ?_
  rintro e w3 ⟨v2, rfl, ho2, hb2⟩
  have hr3 := hr1.below hb2
  have hL3 := hL1.below hb2
  have hz2 := hb2.size
  have hB3 := hb1.trans (hb2.mono hz1)
  have hp3 := ho2.reads
  clear hr1 hL1 hb1 hb2 ho2
  have t2 := text_since hp3
  have s0 : Since w3 w3.drew := (Below.refl _ _).drew
  clear hp3
  go_upto_region 3 with fail
  go_cut [26] from 20 to 26 (fun s wx => s = .bool false ∧ Below w3.heap.size w3 wx)
  case first =>
    go_region_with (go_at_call 12; refine (refPutText_any v l s _ ?_ ?_).mono ?_; (exact hr3.drew); omega; rintro e w4 ⟨v4, rfl, ho4, hb4⟩; have t4 := text_since ho4.reads; have s4 : Since w4 w4 := Below.refl _ _; have s34 : Since w3 w4 := Below.trans s0 hb4; clear ho4 hb4)
    all_goals (go_wp2_with fail; go_meet; exact ⟨rfl, by assumption⟩)
  case rest =>
  obtain ⟨rfl, hbc⟩ := hcut
  have hr4 := hr3.below hbc
  have hL4 := hL3.below hbc
  have hB4 := hB3.trans (hbc.mono (Nat.le_trans hz1 hz2))
  clear hr3 hL3 hB3 hbc t2 s0 hz1 hz2
  obtain ⟨r1, r2, r3, hrd⟩ : ∃ (a : ByteArray) (b c : Int), txV l n = .tuple #[.string a, .int .i64 b, .int .i64 c] := by
    unfold txV
    split
    · exact ⟨_, _, _, rfl⟩
    · split
      · exact ⟨_, _, _, rfl⟩
      · split
        · exact ⟨_, _, _, rfl⟩
        · split
          · exact ⟨_, _, _, rfl⟩
          · exact ⟨_, _, _, rfl⟩
  have HU1 : Hid (_) := text_any v1 l n wc hL4.reads H1.out H0.out (by omega)
  have HU2 : Hid (_) := refText_any v l n wc hr4 H1.out H0.out (by omega)
  have HK : Hid (_) := kept_any v1 v l wc hL4 hr4 (by omega)
  rw [hrd] at HU1 HU2
  clear hrd hr4 hL4
  go_wp2_with fail
  refine Calls.mono HU1.out ?_
  rintro e w' ⟨rfl, rfl⟩
  go_wp2_with fail
  refine Calls.mono HU2.out ?_
  rintro e w' ⟨rfl, rfl⟩
  go_wp2_with fail
  refine Calls.mono HK.out ?_
  rintro e w' ⟨rfl, rfl⟩
  go_wp2
  go_ret
  exact ⟨rfl, hB4⟩
end Go.Proofs.Ytbmnkedbpomnkab
