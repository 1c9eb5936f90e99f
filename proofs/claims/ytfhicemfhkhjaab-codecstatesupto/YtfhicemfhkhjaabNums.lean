/-
  What the functions on numbers do to memory: one contract a function.
-/
import Derived.Test.YtfhicemfhkhjaabBytes
import Derived.Test.YtfhicemfhkhjaabGroups
import Derived.Laws.BitsAllLaws
namespace Go.Proofs.Ytfhicemfhkhjaab
open Go.RowKit

theorem u8info : (Try.prog.info? 5).map (fun i => (i.zero, i.size, i.bytes)) = some (some (.int .u8 0), 1, 1) := by kernel_rfl

set_option maxRecDepth 100000 in
set_option maxHeartbeats 400000 in
theorem appendUint_any (base : Nat) (v : Value) (l : List UInt8) (n : Nat) (w : World) (hown : Owns w base v l) (hb : base ≤ w.heap.size) (hn : n < 18446744073709551616) (hl : l.length + 10 ≤ 140737488355328) :
    Calls Try.prog 119 #[v, .int .u64 n] w fun e w' => ∃ v', e = .returned v' ∧ Owns w' base v' (l ++ grp n) ∧ Below base w w' := by
  have HG : Hid (_) := grp_le n hn
  have HN : Hid (_) := hn
  have HL : Hid (_) := hl
  clear hn hl
  go_enter Try.func119, Try.ntmps119
  go_wp2
  go_loopw [0, 1] (fun v x wr => ∃ (L : List UInt8) (N : Nat), x = .int .u64 N ∧ N ≤ n ∧ Owns wr base v L ∧ Below base w wr ∧ Hid (L ++ grp N = l ++ grp n)) (fun _ x _ => (intOf x).toNat)
  case atStart => exact ⟨l, n, rfl, Nat.le_refl _, hown, Below.refl _ _, rfl⟩
  case round =>
    obtain ⟨L, N, rfl, hN, ho, hbl, HE⟩ := hrel
    have hz := hbl.size
    have HLL : Hid (L.length + 1 ≤ 140737488355328) := by
      have h1 := congrArg List.length HE.out
      have h2 := HG.out
      have h3 := HL.out
      have h4 := grp_pos N
      simp only [List.length_append] at h1
      show L.length + 1 ≤ 140737488355328
      omega
    by_cases h : N < 128
    · go_wp2_with (at_builtin; refine wpList_app rfl _ _ 47 rfl Try.underlying47 u8info base _ L rfl (ho.alloc _) _ [lb N] rfl (reads_one _ _ _ ?hx) ?hlen ?hbase ?hnext)
      case hx => rw [lb_toNat]; omega
      case hlen => exact HLL.out
      case hbase => simp; omega
      case hnext =>
        intro v' w1 ho' hg
        go_wp2
        go_ret
        refine ⟨v', rfl, ?_, (hbl.alloc (by omega) _).grown hg (by simp; omega) ho.block_ge⟩
        rw [← HE.out, grp_small N h]
        exact ho'
    · go_wp2_with (at_builtin; refine wpList_app rfl _ _ 47 rfl Try.underlying47 u8info base _ L rfl (ho.alloc _) _ [gb N] rfl (reads_one _ _ _ ?hx2) ?hlen2 ?hbase2 ?hnext2)
      case hx2 =>
        rw [gb_toNat, show ((N : Int) % 256) = ((N % 256 : Nat) : Int) by omega, show (128 : Int) = ((128 : Nat) : Int) from rfl, u8_or_nat _ _ (by omega) (by omega), or_high _ (by omega)]
        omega
      case hlen2 => exact HLL.out
      case hbase2 => simp; omega
      case hnext2 =>
        intro v' w1 ho' hg
        go_wp2
        go_roundw
        case rel =>
          refine ⟨L ++ [gb N], N / 128, by go_num, by omega, ho', (hbl.alloc (by omega) _).grown hg (by simp; omega) ho.block_ge, ?_⟩
          show _ = _
          rw [← HE.out, grp_more N h, List.append_assoc]
          rfl
        case measure => simp [intOf]; omega

set_option maxRecDepth 100000 in
set_option maxHeartbeats 400000 in
theorem groups_any (n : Nat) (w : World) (hn : n < 18446744073709551616) :
    Calls Try.prog 84 #[.int .u64 n] w fun e w' => ∃ v', e = .returned v' ∧ Owns w' w.heap.size v' (grp n) ∧ Below w.heap.size w w' := by
  have HG : Hid (_) := grp_le n hn
  have HN : Hid (_) := hn
  clear hn
  go_enter Try.func84, Try.ntmps84
  go_wp2
  go_loopw [0, 3] (fun x v wr => ∃ (L : List UInt8) (N : Nat), x = .int .u64 N ∧ N ≤ n ∧ Owns wr w.heap.size v L ∧ Below w.heap.size w wr ∧ Hid (L ++ grp N = grp n)) (fun x _ _ => (intOf x).toNat)
  case atStart => exact ⟨[], n, rfl, Nat.le_refl _, Owns.nil _ _, Below.refl _ _, rfl⟩
  case round =>
    obtain ⟨L, N, rfl, hN, ho, hbl, HE⟩ := hrel
    have hz := hbl.size
    have hq : IntKind.u64.wrap ((N : Int) / 128) = (N : Int) / 128 := by have h2 := HN.out; rw [IntKind.wrap_u64]; omega
    have HLL : Hid (L.length + 1 ≤ 140737488355328) := by
      have h1 := congrArg List.length HE.out
      have h2 := HG.out
      have h4 := grp_pos N
      simp only [List.length_append] at h1
      show L.length + 1 ≤ 140737488355328
      omega
    by_cases h : N < 128
    · go_wp2_with (at_builtin; refine wpList_app rfl _ _ 47 rfl Try.underlying47 u8info w.heap.size _ L rfl (ho.alloc _) _ [lb N] rfl (reads_one _ _ _ ?hx) ?hlen ?hbase ?hnext)
      case hx => rw [lb_toNat]; omega
      case hlen => exact HLL.out
      case hbase => simp; omega
      case hnext =>
        intro v' w1 ho' hg
        go_wp2
        go_ret
        refine ⟨v', rfl, ?_, (hbl.alloc (by omega) _).grown hg (by simp; omega) ho.block_ge⟩
        rw [← HE.out, grp_small N h]
        exact ho'
    · go_wp2_with (at_builtin; refine wpList_app rfl _ _ 47 rfl Try.underlying47 u8info w.heap.size _ L rfl (ho.alloc _) _ [gb N] rfl (reads_one _ _ _ ?hx2) ?hlen2 ?hbase2 ?hnext2)
      case hx2 => rw [gb_toNat]; omega
      case hlen2 => exact HLL.out
      case hbase2 => simp; omega
      case hnext2 =>
        intro v' w1 ho' hg
        go_wp2
        go_roundw
        case rel =>
          refine ⟨L ++ [gb N], N / 128, by go_num, by omega, ho', (hbl.alloc (by omega) _).grown hg (by simp; omega) ho.block_ge, ?_⟩
          show _ = _
          rw [← HE.out, grp_more N h, List.append_assoc]
          rfl
        case measure => simp [intOf]; omega

set_option maxRecDepth 100000 in
set_option maxHeartbeats 400000 in
theorem fresh_any (v : Value) (l : List UInt8) (room : Int) (w : World) (hr : Reads w v l) (h0 : 0 ≤ room) (h1 : room ≤ 140737488355328) (hl : l.length ≤ 140737488355328) :
    Calls Try.prog 120 #[v, .int .i64 room] w fun e w' => ∃ v', e = .returned v' ∧ Owns w' w.heap.size v' l ∧ Below w.heap.size w w' := by
  obtain ⟨ao, cap, rfl⟩ := hr.form
  go_enter Try.func120, Try.ntmps120
  go_wp2_with (at_make; refine wpList_mk rfl _ _ 47 rfl Try.underlying47 u8info w.heap.size .i64 .i64 _ rfl rfl ?hC ?b2 (Nat.le_refl _) ?hnext)
  case hC => omega
  case b2 => omega
  case hnext =>
    intro v1 w1 ho1 hg1
    have hb1 := (Below.refl w.heap.size w).grown hg1 (Nat.le_refl _) (by intro k hk; cases hk)
    have hz := hb1.size
    have hr1 := hr.below hb1
    go_wp2_with (at_builtin; refine wpList_app rfl _ _ 47 rfl Try.underlying47 u8info w.heap.size _ [] rfl ho1 _ l rfl hr1 (by simp; omega) hz ?hnext2)
    case hnext2 =>
      intro v2 w2 ho2 hg2
      go_wp2
      go_ret
      exact ⟨v2, rfl, ho2, hb1.grown hg2 hz ho1.block_ge⟩

set_option maxRecDepth 100000 in
set_option maxHeartbeats 400000 in
theorem joined_any (va vb : Value) (l m : List UInt8) (w : World) (ha : Reads w va l) (hb : Reads w vb m) (hl : l.length + m.length ≤ 140737488355328) :
    Calls Try.prog 83 #[va, vb] w fun e w' => ∃ v', e = .returned v' ∧ Owns w' w.heap.size v' (l ++ m) ∧ Below w.heap.size w w' := by
  go_enter Try.func83, Try.ntmps83
  go_wp2_with (at_builtin; refine wpList_app rfl (.tmp 6) (.tmp 7) 47 rfl Try.underlying47 u8info w.heap.size _ [] rfl (Owns.nil _ _) _ l rfl ha (by simp; omega) (Nat.le_refl _) ?hnext)
  case hnext =>
    intro v1 w1 ho1 hg1
    have hb1 := (Below.refl w.heap.size w).grown hg1 (Nat.le_refl _) (by intro k hk; cases hk)
    have hz := hb1.size
    go_wp2_with (at_builtin; refine wpList_app rfl (.tmp 9) (.tmp 10) 47 rfl Try.underlying47 u8info w.heap.size _ l rfl ho1 _ m rfl (hb.below hb1) (by omega) hz ?hnext2)
    case hnext2 =>
      intro v2 w2 ho2 hg2
      go_wp2
      go_ret
      exact ⟨v2, rfl, ho2, hb1.grown hg2 hz ho1.block_ge⟩

set_option maxRecDepth 100000 in
set_option maxHeartbeats 400000 in
theorem putUint_any (v : Value) (l : List UInt8) (n : Nat) (w : World) (hr : Reads w v l) (hn : n < 18446744073709551616) (hl : l.length + 10 ≤ 140737488355328) :
    Calls Try.prog 115 #[v, .int .u64 n] w fun e w' => ∃ v', e = .returned v' ∧ Owns w' w.heap.size v' (l ++ grp n) ∧ Below w.heap.size w w' := by
  have HN : Hid (_) := hn
  clear hn
  go_enter Try.func115, Try.ntmps115
  go_wp2_with fail
  refine (fresh_any v l 10 w hr (by omega) (by omega) (by omega)).mono ?_
  rintro e w1 ⟨v1, rfl, ho1, hb1⟩
  have hz := hb1.size
  go_wp2_with fail
  refine (appendUint_any w.heap.size v1 l n w1 ho1 hz HN.out hl).mono ?_
  rintro e w2 ⟨v2, rfl, ho2, hb2⟩
  go_wp2
  go_ret
  exact ⟨v2, rfl, ho2, hb1.trans hb2⟩

set_option maxRecDepth 100000 in
set_option maxHeartbeats 400000 in
theorem refPutUint_any (v : Value) (l : List UInt8) (n : Nat) (w : World) (hr : Reads w v l) (hn : n < 18446744073709551616) (hl : l.length + 10 ≤ 140737488355328) :
    Calls Try.prog 86 #[v, .int .u64 n] w fun e w' => ∃ v', e = .returned v' ∧ Owns w' w.heap.size v' (l ++ grp n) ∧ Below w.heap.size w w' := by
  have HN : Hid (_) := hn
  have hg := grp_le n hn
  clear hn
  go_enter Try.func86, Try.ntmps86
  go_wp2_with fail
  refine (groups_any n w HN.out).mono ?_
  rintro e w1 ⟨v1, rfl, ho1, hb1⟩
  have hz := hb1.size
  have hr1 := hr.below hb1
  go_wp2_with fail
  refine (joined_any v v1 l (grp n) w1 hr1 ho1.reads (by omega)).mono ?_
  rintro e w2 ⟨v2, rfl, ho2, hb2⟩
  go_wp2
  go_ret
  exact ⟨v2, rfl, ho2.mono hz, hb1.trans (hb2.mono hz)⟩
end Go.Proofs.Ytfhicemfhkhjaab
