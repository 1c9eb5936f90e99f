/-
  Words of eight bytes: the contracts of those who write and read them.
-/
import Derived.Test.YtghkfhbjfmdnmaaRead
namespace Go.Proofs.Ytghkfhbjfmdnmaa
open Go.RowKit

/-- the lowest k bytes of a number, the lowest first -/
def lows : Nat → Nat → List UInt8
  | 0, _ => []
  | k + 1, n => lb n :: lows k (n / 256)

theorem lows_length (k n : Nat) : (lows k n).length = k := by
  induction k generalizing n with
  | zero => rfl
  | succ k ih => simp [lows, ih]

/-- the number that some bytes are, the lowest first -/
def le : List UInt8 → Nat
  | [] => 0
  | c :: r => c.toNat + 256 * le r

theorem le_lt (l : List UInt8) : le l < 256 ^ l.length := by
  induction l with
  | nil => simp [le]
  | cons c r ih =>
    have := UInt8.toNat_lt c
    simp only [le, List.length_cons, Nat.pow_succ]
    omega

theorem le_snoc (l : List UInt8) (c : UInt8) : le (l ++ [c]) = le l + c.toNat * 256 ^ l.length := by
  induction l with
  | nil => simp [le]
  | cons d r ih =>
    simp only [List.cons_append, le, ih, List.length_cons, Nat.pow_succ]
    rw [Nat.mul_add, Nat.add_assoc]
    congr 2
    rw [Nat.mul_comm 256, Nat.mul_assoc]

theorem join_bytes (i n m : Nat) (h : n < 256 ^ i) : n ||| m * 256 ^ i = n + m * 256 ^ i := by
  have e : (256 : Nat) ^ i = 2 ^ (8 * i) := by rw [Nat.pow_mul]
  rw [e] at h ⊢
  rw [Nat.or_comm, Nat.mul_comm, ← Nat.two_pow_add_eq_or_of_lt h, Nat.add_comm]

theorem pow256_le (i : Nat) (h : i ≤ 8) : 256 ^ i ≤ 18446744073709551616 :=
  Nat.le_trans (Nat.pow_le_pow_right (by decide) h) (by decide)

theorem byte_next (i n m : Nat) (h : n < 256 ^ i) (hm : m < 256) : n + m * 256 ^ i < 256 ^ (i + 1) := by
  rw [Nat.pow_succ]
  have : m * 256 ^ i ≤ 255 * 256 ^ i := Nat.mul_le_mul_right _ (by omega)
  omega

set_option maxRecDepth 100000 in
set_option maxHeartbeats 400000 in
theorem appendLow_any (base : Nat) (v : Value) (l : List UInt8) (n : Nat) (c : Nat) (w : World) (hown : Owns w base v l) (hb : base ≤ w.heap.size) (hc : c < 100) (hl : l.length + 100 ≤ 140737488355328) :
    Calls Try.prog 21 #[v, .int .u64 n, .int .i64 c] w fun e w' => ∃ v', e = .returned v' ∧ Owns w' base v' (l ++ lows c n) ∧ Below base w w' := by
  go_enter Try.func21, Try.ntmps21
  go_wp2
  go_loopw [0, 1, 8] (fun v x i wr => ∃ (L : List UInt8) (N k : Nat), x = .int .u64 N ∧ k ≤ c ∧ i = .int .i64 k ∧ Owns wr base v L ∧ Below base w wr ∧ Hid (L ++ lows (c - k) N = l ++ lows c n)) (fun _ _ i _ => c - (intOf i).toNat)
  case atStart => exact ⟨l, n, 0, rfl, by omega, rfl, hown, Below.refl _ _, rfl⟩
  case round =>
    obtain ⟨L, N, k, rfl, hk, rfl, ho, hbl, HE⟩ := hrel
    have hz := hbl.size
    have HLL : Hid (L.length + 1 ≤ 140737488355328) := by
      have h1 := congrArg List.length HE.out
      simp only [List.length_append, lows_length] at h1
      show L.length + 1 ≤ 140737488355328
      omega
    by_cases h : k < c
    · go_wp2_with (at_builtin; refine wpList_app rfl _ _ 22 rfl Try.underlying22 u8info base _ L rfl (ho.alloc _) _ [lb N] rfl (reads_one _ _ _ ?hx) ?hlen ?hbase ?hnext)
      case hx => rw [lb_toNat]; omega
      case hlen => exact HLL.out
      case hbase => simp; omega
      case hnext =>
        intro v' w1 ho' hg
        go_wp2
        go_roundw
        case rel =>
          refine ⟨L ++ [lb N], N / 256, k + 1, by go_num, by omega, by go_num, ho', (hbl.alloc (by omega) _).grown hg (by simp; omega) ho.block_ge, ?_⟩
          show _ = _
          rw [← HE.out, show c - k = (c - (k + 1)) + 1 by omega, List.append_assoc]
          rfl
        case measure => simp [intOf]; omega
    · have e : k = c := by omega
      subst e
      go_wp2
      go_ret
      refine ⟨_, rfl, ?_, hbl⟩
      have h := HE.out
      rw [Nat.sub_self] at h
      rw [← h]
      simpa [lows] using ho

set_option maxRecDepth 100000 in
set_option maxHeartbeats 400000 in
theorem putWord_any (v : Value) (l : List UInt8) (n : Nat) (w : World) (hr : Reads w v l) (hl : l.length + 100 ≤ 140737488355328) :
    Calls Try.prog 16 #[v, .int .u64 n] w fun e w' => ∃ v', e = .returned v' ∧ Owns w' w.heap.size v' (l ++ lows 8 n) ∧ Below w.heap.size w w' := by
  go_enter Try.func16, Try.ntmps16
  go_wp2_with fail
  refine (fresh_any v l 8 w hr (by omega) (by omega) (by omega)).mono ?_
  rintro e w1 ⟨v1, rfl, ho1, hb1⟩
  have hz := hb1.size
  go_wp2_with fail
  refine (appendLow_any w.heap.size v1 l n 8 w1 ho1 hz (by omega) hl).mono ?_
  rintro e w2 ⟨v2, rfl, ho2, hb2⟩
  go_wp2
  go_ret
  exact ⟨v2, rfl, ho2, hb1.trans hb2⟩

set_option maxRecDepth 100000 in
set_option maxHeartbeats 400000 in
theorem refPutWord_any (v : Value) (l : List UInt8) (n : Nat) (w : World) (hr : Reads w v l) (hn : n < 18446744073709551616) (hl : l.length + 100 ≤ 140737488355328) :
    Calls Try.prog 17 #[v, .int .u64 n] w fun e w' => ∃ v', e = .returned v' ∧ Owns w' w.heap.size v' (l ++ lows 8 n) ∧ Below w.heap.size w w' := by
  have HN : Hid (_) := hn
  clear hn
  go_enter Try.func17, Try.ntmps17
  go_wp2_with fail
  refine (joined_any v (.slice none 0 0) l [] w hr (Reads.nil _) (by simp; omega)).mono ?_
  rintro e w1 ⟨v1, rfl, ho1, hb1⟩
  rw [List.append_nil] at ho1
  clear hr
  go_wp2
  go_loopw [1, 5, 6] (fun x v i wr => ∃ (L : List UInt8) (N k : Nat), x = .int .u64 N ∧ Hid (N < 18446744073709551616) ∧ k ≤ 8 ∧ i = .int .i64 k ∧ Owns wr w.heap.size v L ∧ Below w.heap.size w wr ∧ Hid (L ++ lows (8 - k) N = l ++ lows 8 n)) (fun _ _ i _ => 8 - (intOf i).toNat)
  case atStart => exact ⟨l, n, 0, rfl, HN, by omega, rfl, ho1, hb1, rfl⟩
  case round =>
    obtain ⟨L, N, k, rfl, HN1, hk, rfl, ho, hbl, HE⟩ := hrel
    have hz := hbl.size
    have HLL : Hid (L.length + 1 ≤ 140737488355328) := by
      have h1 := congrArg List.length HE.out
      simp only [List.length_append, lows_length] at h1
      show L.length + 1 ≤ 140737488355328
      omega
    have hq : IntKind.u64.wrap ((N : Int) / 256) = (N : Int) / 256 := by have h2 := HN1.out; rw [IntKind.wrap_u64]; omega
    by_cases h : k < 8
    · go_wp2_with (at_builtin; refine wpList_app rfl _ _ 22 rfl Try.underlying22 u8info w.heap.size _ L rfl (ho.alloc _) _ [lb N] rfl (reads_one _ _ _ ?hx) ?hlen ?hbase ?hnext)
      case hx => rw [lb_toNat]; omega
      case hlen => exact HLL.out
      case hbase => simp; omega
      case hnext =>
        intro v' w2 ho' hg
        go_wp2
        go_roundw
        case rel =>
          refine ⟨L ++ [lb N], N / 256, k + 1, by go_num, ?_, by omega, by go_num, ho', (hbl.alloc (by omega) _).grown hg (by simp; omega) ho.block_ge, ?_⟩
          · have := HN1.out
            show _ < _
            omega
          · show _ = _
            rw [← HE.out, show 8 - k = (8 - (k + 1)) + 1 by omega, List.append_assoc]
            rfl
        case measure => simp [intOf]; omega
    · have e : k = 8 := by omega
      subst e
      go_wp2
      go_ret
      refine ⟨_, rfl, ?_, hbl⟩
      have h := HE.out
      rw [Nat.sub_self] at h
      rw [← h]
      simpa [lows] using ho

theorem shl_byte (acc c k : Nat) (P : Int) (hP : P = ((2 ^ (8 * k) : Nat) : Int)) (ha : acc < 256 ^ k) (hc : c < 256) (hk : k < 8) :
    bits BinOp.or IntKind.u64 (acc : Int) (IntKind.u64.wrap ((c : Int) * P)) = ((acc + c * 256 ^ k : Nat) : Int) := by
  have e3 : (2 : Nat) ^ (8 * k) = 256 ^ k := by rw [Nat.pow_mul]
  have hs : acc + c * 256 ^ k < 18446744073709551616 := Nat.lt_of_lt_of_le (byte_next k acc c ha hc) (pow256_le (k + 1) (by omega))
  have e4 : IntKind.u64.wrap ((c : Int) * ((256 ^ k : Nat) : Int)) = ((c * 256 ^ k : Nat) : Int) := by
    rw [← Int.natCast_mul, IntKind.wrap_u64]
    generalize c * 256 ^ k = x at hs
    omega
  have hx : c * 256 ^ k < 18446744073709551616 := Nat.lt_of_le_of_lt (Nat.le_add_left _ _) hs
  have hA : acc < 18446744073709551616 := Nat.lt_of_le_of_lt (Nat.le_add_right _ _) hs
  rw [hP, e3, e4, u64_or_nat _ _ hA hx, join_bytes k acc c ha]

theorem pow8_int (k : Nat) : (2 : Int) ^ (8 * k) = ((2 ^ (8 * k) : Nat) : Int) := by simp

set_option maxRecDepth 100000 in
set_option maxHeartbeats 400000 in
theorem low_some (b off cap : Nat) (l : List UInt8) (w : World) (hl : l.length = 8)
    (hcell : ∀ j (hj : j < l.length), w.cell? ⟨b, off + j, none⟩ = some (.int .u8 (l[j].toNat : Int))) :
    Calls Try.prog 24 #[.slice (some ⟨b, off, none⟩) 8 cap] w fun e w' => e = .returned (.int .u64 (le l)) ∧ w' = w := by
  have HC : Hid (_) := hcell
  have HL : Hid (_) := hl
  clear hcell hl
  go_enter Try.func24, Try.ntmps24
  go_wp2
  go_loop [3, 8] (fun n i => ∃ k acc : Nat, k ≤ 8 ∧ i = .int .i64 k ∧ n = .int .u64 acc ∧ Hid (acc = le (l.take k))) (fun _ i => 8 - (intOf i).toNat)
  case atStart => exact ⟨0, 0, by omega, rfl, rfl, rfl⟩
  case round =>
    obtain ⟨k, acc, hk, rfl, rfl, HA⟩ := hrel
    by_cases hlt : k < 8
    · have hkl : k < l.length := by have := HL.out; omega
      have hc := HC.out k hkl
      have hu := UInt8.toNat_lt l[k]
      have htl : (l.take k).length = k := by rw [List.length_take]; omega
      have hb : acc < 256 ^ k := by
        have h1 := le_lt (l.take k)
        rw [htl] at h1
        rw [HA.out]
        exact h1
      have HV : Hid (_) := shl_byte acc l[k].toNat k _ (pow8_int k) hb (by omega) hlt
      have HE : Hid (acc + l[k].toNat * 256 ^ k = le (l.take (k + 1))) := by
        have h1 := le_snoc (l.take k) l[k]
        rw [htl] at h1
        show _ = _
        rw [List.take_succ_eq_append_getElem hkl, h1, ← HA.out]
      generalize l[k].toNat = c at hc hu HV HE
      clear hb htl hkl
      go_wp2
      go_round
      case rel => exact ⟨k + 1, acc + c * 256 ^ k, by omega, by go_num, congrArg _ HV.out, HE⟩
      case measure => simp [intOf]; omega
    · have e : k = 8 := by omega
      subst e
      go_wp2
      go_ret
      refine ⟨ret_int ?_, rfl⟩
      rw [HA.out, List.take_of_length_le (by have := HL.out; omega)]

def wordV (l : List UInt8) : Value := if l.length < 8 then .tuple #[.int .u64 0, .int .i64 3] else .tuple #[.int .u64 (le (l.take 8)), .int .i64 0]

set_option maxRecDepth 100000 in
set_option maxHeartbeats 400000 in
theorem word_short (ao : Option Addr) (cap : Nat) (l : List UInt8) (w : World) (h : l.length < 8) :
    Calls Try.prog 18 #[.slice ao l.length cap] w fun e w' => e = .returned (wordV l) ∧ w' = w := by
  have e : wordV l = .tuple #[.int .u64 0, .int .i64 3] := if_pos h
  rw [e]
  clear e
  go_enter Try.func18, Try.ntmps18
  go_wp2
  go_ret2
  exact ⟨rfl, rfl⟩

set_option maxRecDepth 100000 in
set_option maxHeartbeats 400000 in
theorem word_some (b off cap : Nat) (l : List UInt8) (w : World) (h : ¬ l.length < 8) (hl : l.length ≤ cap)
    (hcell : ∀ j (hj : j < l.length), w.cell? ⟨b, off + j, none⟩ = some (.int .u8 (l[j].toNat : Int))) :
    Calls Try.prog 18 #[.slice (some ⟨b, off, none⟩) l.length cap] w fun e w' => e = .returned (wordV l) ∧ w' = w := by
  have e : wordV l = .tuple #[.int .u64 (le (l.take 8)), .int .i64 0] := if_neg h
  rw [e]
  clear e
  have hw := fun c => low_some b off c (l.take 8) w (by rw [List.length_take]; omega) (fun j hj => by
    have hj' : j < l.length := by rw [List.length_take] at hj; omega
    rw [hcell j hj', List.getElem_take])
  have HW : Hid (_) := hw
  have h8 : 8 ≤ l.length := by omega
  clear hw h hcell
  go_enter Try.func18, Try.ntmps18
  go_wp2_with fail
  refine (HW.out cap).mono ?_
  rintro e w' ⟨rfl, rfl⟩
  go_wp2
  go_ret2
  exact ⟨rfl, rfl⟩

theorem word_any (v : Value) (l : List UInt8) (w : World) (hr : Reads w v l) :
    Calls Try.prog 18 #[v] w fun e w' => e = .returned (wordV l) ∧ w' = w := by
  by_cases h : l.length < 8
  · obtain ⟨ao, cap, rfl⟩ := hr.form
    exact word_short ao cap l w h
  · rcases hr with ⟨rfl, _⟩ | ⟨b, off, cap, rfl, hl, hcell⟩
    · simp at h
    · exact word_some b off cap l w h hl hcell

set_option maxRecDepth 100000 in
set_option maxHeartbeats 400000 in
theorem refWord_short (ao : Option Addr) (cap : Nat) (l : List UInt8) (w : World) (h : l.length < 8) :
    Calls Try.prog 20 #[.slice ao l.length cap] w fun e w' => e = .returned (wordV l) ∧ w' = w := by
  have e : wordV l = .tuple #[.int .u64 0, .int .i64 3] := if_pos h
  rw [e]
  clear e
  go_enter Try.func20, Try.ntmps20
  go_wp2
  go_ret2
  exact ⟨rfl, rfl⟩

theorem ret2 {k1 k2 : IntKind} {a b a' b' : Int} (h1 : a = a') (h2 : b = b') :
    Ending.returned (.tuple #[.int k1 a, .int k2 b]) = .returned (.tuple #[.int k1 a', .int k2 b']) := by rw [h1, h2]

theorem up_byte (acc c : Nat) (h : acc * 256 + c < 18446744073709551616) :
    IntKind.u64.wrap (IntKind.u64.wrap ((acc : Int) * 256) + (c : Int)) = ((c + 256 * acc : Nat) : Int) := by
  rw [IntKind.wrap_u64, IntKind.wrap_u64]
  omega

set_option maxRecDepth 100000 in
set_option maxHeartbeats 400000 in
theorem refWord_some (b off cap : Nat) (l : List UInt8) (w : World) (h : ¬ l.length < 8)
    (hcell : ∀ j (hj : j < l.length), w.cell? ⟨b, off + j, none⟩ = some (.int .u8 (l[j].toNat : Int))) :
    Calls Try.prog 20 #[.slice (some ⟨b, off, none⟩) l.length cap] w fun e w' => e = .returned (wordV l) ∧ w' = w := by
  have e : wordV l = .tuple #[.int .u64 (le (l.take 8)), .int .i64 0] := if_neg h
  rw [e]
  clear e
  have h8 : 8 ≤ l.length := by omega
  have HC : Hid (_) := hcell
  clear h hcell
  go_enter Try.func20, Try.ntmps20
  go_wp2
  go_loop [4, 5] (fun n i => ∃ k acc : Nat, k ≤ 8 ∧ i = .int .i64 ((k : Int) - 1) ∧ n = .int .u64 acc ∧ Hid (acc = le ((l.take 8).drop k))) (fun _ i => (intOf i + 1).toNat)
  case atStart =>
    refine ⟨8, 0, by omega, rfl, rfl, ?_⟩
    show _ = _
    rw [List.drop_eq_nil_of_le (by rw [List.length_take]; omega)]
    rfl
  case round =>
    obtain ⟨k, acc, hk, rfl, rfl, HA⟩ := hrel
    by_cases hlt : 0 < k
    · obtain ⟨j, rfl⟩ : ∃ j, k = j + 1 := ⟨k - 1, by omega⟩
      have hj : j < l.length := by omega
      have hc := HC.out j hj
      have hu := UInt8.toNat_lt l[j]
      have ht : (l.take 8).length = 8 := by rw [List.length_take]; omega
      have HE : Hid (l[j].toNat + 256 * acc = le ((l.take 8).drop j)) := by
        show _ = _
        rw [List.drop_eq_getElem_cons (by omega), List.getElem_take, HA.out]
        rfl
      have HV : Hid (_) := up_byte acc l[j].toNat (by
        have h1 := le_lt ((l.take 8).drop (j + 1))
        rw [← HA.out, List.length_drop, ht] at h1
        have h2 : 256 ^ (8 - (j + 1)) ≤ 256 ^ 7 := Nat.pow_le_pow_right (by decide) (by omega)
        have h3 : 256 ^ 7 = 72057594037927936 := by decide
        rw [h3] at h2
        have h4 := Nat.lt_of_lt_of_le h1 h2
        omega)
      generalize l[j].toNat = c at hc hu HE HV
      clear ht
      have ej : ((j + 1 : Nat) : Int) - 1 = (j : Int) := by omega
      rw [ej]
      clear ej
      go_wp2
      go_round
      case rel => exact ⟨j, c + 256 * acc, by omega, by go_num, congrArg _ HV.out, HE⟩
      case measure => simp [intOf]
    · have e : k = 0 := by omega
      subst e
      go_wp2
      go_ret2
      refine ⟨ret2 ?_ rfl, rfl⟩
      rw [HA.out]
      rfl

theorem refWord_any (v : Value) (l : List UInt8) (w : World) (hr : Reads w v l) :
    Calls Try.prog 20 #[v] w fun e w' => e = .returned (wordV l) ∧ w' = w := by
  by_cases h : l.length < 8
  · obtain ⟨ao, cap, rfl⟩ := hr.form
    exact refWord_short ao cap l w h
  · rcases hr with ⟨rfl, _⟩ | ⟨b, off, cap, rfl, hl, hcell⟩
    · simp at h
    · exact refWord_some b off cap l w h hcell
end Go.Proofs.Ytghkfhbjfmdnmaa
