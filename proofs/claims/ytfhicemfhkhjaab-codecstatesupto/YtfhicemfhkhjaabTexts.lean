/-
  Texts with their length: the contracts of those who write and read them.
-/
import Derived.Test.YtfhicemfhkhjaabRead
import Derived.Test.YtfhicemfhkhjaabInts
import Derived.Test.YtfhicemfhkhjaabStrs
namespace Go.Proofs.Ytfhicemfhkhjaab
open Go.RowKit

set_option maxRecDepth 100000 in
set_option maxHeartbeats 400000 in
theorem putText_any (v : Value) (l : List UInt8) (s : ByteArray) (w : World) (hr : Reads w v l) (hl : l.length + s.size + 100 ≤ 140737488355328) :
    Calls Try.prog 117 #[v, .string s] w fun e w' => ∃ v', e = .returned v' ∧ Owns w' w.heap.size v' (l ++ (grp s.size ++ s.data.toList)) ∧ Below w.heap.size w w' := by
  have hg := grp_le s.size (by omega)
  have hgp := grp_pos s.size
  go_enter Try.func117, Try.ntmps117
  go_wp2_with fail
  refine (fresh_any v l _ w hr ?_ ?_ (by omega)).mono ?_
  · omega
  · omega
  rintro e w1 ⟨v1, rfl, ho1, hb1⟩
  have hz := hb1.size
  clear hr
  go_wp2_with fail
  refine (appendUint_any w.heap.size v1 l s.size w1 ho1 hz (by omega) (by omega)).mono ?_
  rintro e w2 ⟨v2, rfl, ho2, hb2⟩
  have hz2 := hb2.size
  have hbb := hb1.trans hb2
  clear ho1 hb1 hb2
  go_wp2_with (at_builtin; refine wpList_app_str rfl _ _ 47 9 rfl Try.underlying47 Try.underlying9 u8info w.heap.size _ (l ++ grp s.size) rfl ho2 ?hpos s rfl ?hlen ?hbase ?hnext)
  case hpos => rw [List.length_append]; omega
  case hlen => rw [List.length_append]; omega
  case hbase => omega
  case hnext =>
    intro v3 w3 ho3 hg3
    go_wp2
    go_ret
    exact ⟨v3, rfl, ho3, hbb.grown hg3 (by omega) ho2.block_ge⟩

set_option maxRecDepth 100000 in
set_option maxHeartbeats 400000 in
theorem refPutText_any (v : Value) (l : List UInt8) (s : ByteArray) (w : World) (hr : Reads w v l) (hl : l.length + s.size + 100 ≤ 140737488355328) :
    Calls Try.prog 60 #[v, .string s] w fun e w' => ∃ v', e = .returned v' ∧ Owns w' w.heap.size v' (l ++ (grp s.size ++ s.data.toList)) ∧ Below w.heap.size w w' := by
  have hg := grp_le s.size (by omega)
  have kc := fun w => run_bytes_of_string (P := Try.prog) w 9 47 5 s Try.underlying9 Try.underlying47 Try.underlying5
  go_enter Try.func60, Try.ntmps60
  go_wp2_with fail
  refine (refPutUint_any v l s.size w hr (by omega) (by omega)).mono ?_
  rintro e w1 ⟨v1, rfl, ho1, hb1⟩
  have hz := hb1.size
  clear hr
  go_wp2_with fail
  have hgc := grownCap_ge w1 s.size 0 5
  have hb2 : Below w1.heap.size w1 (w1.alloc (.cells (bytesRow s (grownCap w1 s.size 0 5)) 5 ((bytesRow s (grownCap w1 s.size 0 5)).size, (bytesRow s (grownCap w1 s.size 0 5)).size + 1))).drew :=
    ((Below.refl _ _).alloc (Nat.le_refl _) _).drew
  have hds : s.data.toList.length = s.size := by rw [Array.length_toList]; rfl
  refine (joined_any _ _ (l ++ grp s.size) s.data.toList _ (ho1.reads.below hb2) (reads_bytes w1 s _ hgc _) ?_).mono ?_
  · rw [List.length_append, hds]; omega
  rintro e w3 ⟨v3, rfl, ho3, hb3⟩
  rw [List.append_assoc] at ho3
  have hz3 : w.heap.size ≤ (w1.alloc (.cells (bytesRow s (grownCap w1 s.size 0 5)) 5 ((bytesRow s (grownCap w1 s.size 0 5)).size, (bytesRow s (grownCap w1 s.size 0 5)).size + 1))).drew.heap.size := Nat.le_trans hz hb2.size
  have hB := (hb1.trans (hb2.mono hz)).trans (hb3.mono hz3)
  have hO := ho3.mono hz3
  clear ho3 hb3 hb2 ho1 hb1 kc
  go_wp2
  go_ret
  exact ⟨v3, rfl, hO, hB⟩

/-- what is read of a text -/
def txV (l : List UInt8) (most : Int) : Value :=
  if most < 0 then .tuple #[.string ⟨#[]⟩, .int .i64 0, .int .i64 2]
  else if (rd l 0 0).2.2 ≠ 0 then .tuple #[.string ⟨#[]⟩, .int .i64 ((rd l 0 0).2.1 : Nat), .int .i64 ((rd l 0 0).2.2 : Nat)]
  else if most < ((rd l 0 0).1 : Nat) then .tuple #[.string ⟨#[]⟩, .int .i64 0, .int .i64 12]
  else if l.length - (rd l 0 0).2.1 < (rd l 0 0).1 then .tuple #[.string ⟨#[]⟩, .int .i64 (l.length : Nat), .int .i64 3]
  else .tuple #[.string ⟨((l.drop (rd l 0 0).2.1).take (rd l 0 0).1).toArray⟩, .int .i64 ((rd l 0 0).2.1 + (rd l 0 0).1 : Nat), .int .i64 0]

theorem txV_neg (l : List UInt8) (most : Int) (h : most < 0) : txV l most = .tuple #[.string ⟨#[]⟩, .int .i64 0, .int .i64 2] := if_pos h
theorem txV_nil (most : Int) (h : ¬ most < 0) : txV [] most = .tuple #[.string ⟨#[]⟩, .int .i64 0, .int .i64 3] := (if_neg h).trans rfl
theorem rdV_nil : rdV [] = .tuple #[.int .u64 0, .int .i64 0, .int .i64 3] := rfl

theorem rd_at (l : List UInt8) : (rd l 0 0).2.1 ≤ l.length := by
  have := rd_le l 0 0
  omega

theorem reads_part {w : World} {b off cap : Nat} {l : List UInt8} (hcell : ∀ j (hj : j < l.length), w.cell? ⟨b, off + j, none⟩ = some (.int .u8 (l[j].toNat : Int))) (p n : Nat) (h : p + n ≤ l.length) (hcap : l.length ≤ cap) :
    Reads w (.slice (some ⟨b, off + p, none⟩) n (cap - p)) ((l.drop p).take n) := by
  have hl : ((l.drop p).take n).length = n := by rw [List.length_take, List.length_drop]; omega
  refine .inr ⟨b, off + p, cap - p, by rw [hl], by omega, fun j hj => ?_⟩
  rw [hl] at hj
  have h1 := hcell (p + j) (by omega)
  rw [← Nat.add_assoc] at h1
  rw [h1]
  simp

set_option maxRecDepth 100000 in
set_option maxHeartbeats 1000000 in
theorem text_some (b off cap : Nat) (l : List UInt8) (most : Int) (w : World) (hr : Reads w (.slice (some ⟨b, off, none⟩) l.length cap) l) (hcap : l.length ≤ cap) (hm1 : most ≤ 9223372036854775807) (hm0 : -9223372036854775808 ≤ most) (hl : l.length ≤ 140737488355328)
    (hcell : ∀ j (hj : j < l.length), w.cell? ⟨b, off + j, none⟩ = some (.int .u8 (l[j].toNat : Int))) :
    Calls Try.prog 128 #[.slice (some ⟨b, off, none⟩) l.length cap, .int .i64 most] w fun e w' => e = .returned (txV l most) ∧ w' = w := by
  have HU : Hid (_) := uint_any _ l w hr hl
  have hat := rd_at l
  have HL : Hid (_) := rd_lt l 0 0 (by omega) Nat.one_pos
  have HC : Hid (_) := fun p n h => run_text (P := Try.prog) 47 9 Try.underlying47 Try.underlying5 Try.underlying9 (reads_part hcell p n h hcap)
  have HZ : Hid (_) := fun c => run_text (P := Try.prog) (w := w) 47 9 Try.underlying47 Try.underlying5 Try.underlying9 (show Reads w (.slice (some ⟨b, off, none⟩) 0 c) [] from .inl ⟨rfl, _, c, rfl, fun h => by cases h⟩)
  unfold rdV at HU
  unfold txV
  generalize rd l 0 0 = r at HU HL hat ⊢
  obtain ⟨n, p, x⟩ := r
  clear hr hcell
  simp only at HU HL hat ⊢
  by_cases h1 : most < 0
  · rw [if_pos h1]
    go_enter Try.func128, Try.ntmps128
    go_wp2
    go_ret3
    exact ⟨rfl, rfl⟩
  · rw [if_neg h1]
    have h1' : 0 ≤ most := by omega
    clear h1
    by_cases h2 : x ≠ 0
    · rw [if_pos h2]
      have h2' : ((x : Int) != 0) = true := by simp; omega
      clear h2
      go_enter Try.func128, Try.ntmps128
      go_wp2_with fail
      refine Calls.mono HU.out ?_
      rintro e w' ⟨rfl, rfl⟩
      go_wp2
      go_ret3
      exact ⟨rfl, rfl⟩
    · rw [if_neg h2]
      have h2' : ((x : Int) != 0) = false := by simp; omega
      clear h2
      by_cases h3 : most < (n : Int)
      · rw [if_pos h3]
        go_enter Try.func128, Try.ntmps128
        go_wp2_with fail
        refine Calls.mono HU.out ?_
        rintro e w' ⟨rfl, rfl⟩
        go_wp2
        go_ret3
        exact ⟨rfl, rfl⟩
      · rw [if_neg h3]
        by_cases h4 : l.length - p < n
        · rw [if_pos h4]
          go_enter Try.func128, Try.ntmps128
          go_wp2_with fail
          refine Calls.mono HU.out ?_
          rintro e w' ⟨rfl, rfl⟩
          go_wp2
          go_ret3
          exact ⟨rfl, rfl⟩
        · rw [if_neg h4]
          have hx : x = 0 := by simp at h2'; omega
          subst hx
          by_cases hpc : p < cap
          · have hc := HC.out p n (by omega)
            go_enter Try.func128, Try.ntmps128
            go_wp2_with fail
            refine Calls.mono HU.out ?_
            rintro e w' ⟨rfl, rfl⟩
            go_wp2
            go_ret3
            exact ⟨rfl, rfl⟩
          · have hn : n = 0 := by omega
            subst hn
            have hc := HZ.out
            go_enter Try.func128, Try.ntmps128
            go_wp2_with fail
            refine Calls.mono HU.out ?_
            rintro e w' ⟨rfl, rfl⟩
            go_wp2
            go_ret3
            exact ⟨rfl, rfl⟩

set_option maxRecDepth 100000 in
set_option maxHeartbeats 400000 in
theorem text_none (ao : Option Addr) (cap : Nat) (most : Int) (w : World) (hr : Reads w (.slice ao 0 cap) []) (hm1 : most ≤ 9223372036854775807) (hm0 : -9223372036854775808 ≤ most) :
    Calls Try.prog 128 #[.slice ao 0 cap, .int .i64 most] w fun e w' => e = .returned (txV [] most) ∧ w' = w := by
  have HU : Hid (_) := uint_any _ [] w hr (by simp)
  rw [rdV_nil] at HU
  clear hr
  by_cases h1 : most < 0
  · rw [txV_neg [] most h1]
    go_enter Try.func128, Try.ntmps128
    go_wp2
    go_ret3
    exact ⟨rfl, rfl⟩
  · rw [txV_nil most h1]
    have h1' : 0 ≤ most := by omega
    clear h1
    go_enter Try.func128, Try.ntmps128
    go_wp2_with fail
    refine Calls.mono HU.out ?_
    rintro e w' ⟨rfl, rfl⟩
    go_wp2
    go_ret3
    exact ⟨rfl, rfl⟩

theorem text_any (v : Value) (l : List UInt8) (most : Int) (w : World) (hr : Reads w v l) (hm1 : most ≤ 9223372036854775807) (hm0 : -9223372036854775808 ≤ most) (hl : l.length ≤ 140737488355328) :
    Calls Try.prog 128 #[v, .int .i64 most] w fun e w' => e = .returned (txV l most) ∧ w' = w := by
  have hr0 := hr
  rcases hr with ⟨rfl, ao, cap, rfl, _⟩ | ⟨b, off, cap, rfl, hcap, hcell⟩
  · exact text_none ao cap most w hr0 hm1 hm0
  · exact text_some b off cap l most w hr0 hcap hm1 hm0 hl hcell

set_option maxRecDepth 100000 in
set_option maxHeartbeats 1000000 in
theorem refText_some (b off cap : Nat) (l : List UInt8) (most : Int) (w : World) (hr : Reads w (.slice (some ⟨b, off, none⟩) l.length cap) l) (hcap : l.length ≤ cap) (hm1 : most ≤ 9223372036854775807) (hm0 : -9223372036854775808 ≤ most) (hl : l.length ≤ 140737488355328)
    (hcell : ∀ j (hj : j < l.length), w.cell? ⟨b, off + j, none⟩ = some (.int .u8 (l[j].toNat : Int))) :
    Calls Try.prog 90 #[.slice (some ⟨b, off, none⟩) l.length cap, .int .i64 most] w fun e w' => e = .returned (txV l most) ∧ w' = w := by
  have HU : Hid (_) := refUint_any _ l w hr hl
  have hat := rd_at l
  have HL : Hid (_) := rd_lt l 0 0 (by omega) Nat.one_pos
  have HC : Hid (_) := fun p n h => run_text (P := Try.prog) 47 9 Try.underlying47 Try.underlying5 Try.underlying9 (reads_part hcell p n h hcap)
  have HZ : Hid (_) := fun c => run_text (P := Try.prog) (w := w) 47 9 Try.underlying47 Try.underlying5 Try.underlying9 (show Reads w (.slice (some ⟨b, off, none⟩) 0 c) [] from .inl ⟨rfl, _, c, rfl, fun h => by cases h⟩)
  unfold rdV at HU
  unfold txV
  generalize rd l 0 0 = r at HU HL hat ⊢
  obtain ⟨n, p, x⟩ := r
  clear hr hcell
  simp only at HU HL hat ⊢
  by_cases h1 : most < 0
  · rw [if_pos h1]
    go_enter Try.func90, Try.ntmps90
    go_wp2
    go_ret3
    exact ⟨rfl, rfl⟩
  · rw [if_neg h1]
    have h1' : 0 ≤ most := by omega
    clear h1
    by_cases h2 : x ≠ 0
    · rw [if_pos h2]
      have h2' : ((x : Int) != 0) = true := by simp; omega
      clear h2
      go_enter Try.func90, Try.ntmps90
      go_wp2_with fail
      refine Calls.mono HU.out ?_
      rintro e w' ⟨rfl, rfl⟩
      go_wp2
      go_ret3
      exact ⟨rfl, rfl⟩
    · rw [if_neg h2]
      have h2' : ((x : Int) != 0) = false := by simp; omega
      clear h2
      by_cases h3 : most < (n : Int)
      · rw [if_pos h3]
        go_enter Try.func90, Try.ntmps90
        go_wp2_with fail
        refine Calls.mono HU.out ?_
        rintro e w' ⟨rfl, rfl⟩
        go_wp2
        go_ret3
        exact ⟨rfl, rfl⟩
      · rw [if_neg h3]
        by_cases h4 : l.length - p < n
        · rw [if_pos h4]
          go_enter Try.func90, Try.ntmps90
          go_wp2_with fail
          refine Calls.mono HU.out ?_
          rintro e w' ⟨rfl, rfl⟩
          go_wp2
          go_ret3
          exact ⟨rfl, rfl⟩
        · rw [if_neg h4]
          have hx : x = 0 := by simp at h2'; omega
          subst hx
          by_cases hpc : p < cap
          · have hc := HC.out p n (by omega)
            go_enter Try.func90, Try.ntmps90
            go_wp2_with fail
            refine Calls.mono HU.out ?_
            rintro e w' ⟨rfl, rfl⟩
            go_wp2
            go_ret3
            exact ⟨rfl, rfl⟩
          · have hn : n = 0 := by omega
            subst hn
            have hc := HZ.out
            go_enter Try.func90, Try.ntmps90
            go_wp2_with fail
            refine Calls.mono HU.out ?_
            rintro e w' ⟨rfl, rfl⟩
            go_wp2
            go_ret3
            exact ⟨rfl, rfl⟩

set_option maxRecDepth 100000 in
set_option maxHeartbeats 400000 in
theorem refText_none (ao : Option Addr) (cap : Nat) (most : Int) (w : World) (hr : Reads w (.slice ao 0 cap) []) (hm1 : most ≤ 9223372036854775807) (hm0 : -9223372036854775808 ≤ most) :
    Calls Try.prog 90 #[.slice ao 0 cap, .int .i64 most] w fun e w' => e = .returned (txV [] most) ∧ w' = w := by
  have HU : Hid (_) := refUint_any _ [] w hr (by simp)
  rw [rdV_nil] at HU
  clear hr
  by_cases h1 : most < 0
  · rw [txV_neg [] most h1]
    go_enter Try.func90, Try.ntmps90
    go_wp2
    go_ret3
    exact ⟨rfl, rfl⟩
  · rw [txV_nil most h1]
    have h1' : 0 ≤ most := by omega
    clear h1
    go_enter Try.func90, Try.ntmps90
    go_wp2_with fail
    refine Calls.mono HU.out ?_
    rintro e w' ⟨rfl, rfl⟩
    go_wp2
    go_ret3
    exact ⟨rfl, rfl⟩

theorem refText_any (v : Value) (l : List UInt8) (most : Int) (w : World) (hr : Reads w v l) (hm1 : most ≤ 9223372036854775807) (hm0 : -9223372036854775808 ≤ most) (hl : l.length ≤ 140737488355328) :
    Calls Try.prog 90 #[v, .int .i64 most] w fun e w' => e = .returned (txV l most) ∧ w' = w := by
  have hr0 := hr
  rcases hr with ⟨rfl, ao, cap, rfl, _⟩ | ⟨b, off, cap, rfl, hcap, hcell⟩
  · exact refText_none ao cap most w hr0 hm1 hm0
  · exact refText_some b off cap l most w hr0 hcap hm1 hm0 hl hcell

end Go.Proofs.Ytfhicemfhkhjaab
