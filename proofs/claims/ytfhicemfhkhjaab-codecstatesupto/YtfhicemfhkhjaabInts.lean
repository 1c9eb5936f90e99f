/-
  Ints as numbers: the contracts of those who write and read them.
-/
import Derived.Test.YtfhicemfhkhjaabRead
namespace Go.Proofs.Ytfhicemfhkhjaab
open Go.RowKit

/-- an int as a number -/
def foldI (n : Int) : Nat := if n < 0 then (-(n + 1)).toNat * 2 + 1 else n.toNat * 2

theorem foldI_lt (n : Int) (h0 : -9223372036854775808 ≤ n) (h1 : n ≤ 9223372036854775807) : foldI n < 18446744073709551616 := by
  unfold foldI
  split <;> omega

/-- the int that a number is -/
def unfI (u : Nat) : Int := if u % 2 = 1 then -((u / 2 : Nat) : Int) - 1 else ((u / 2 : Nat) : Int)

theorem rd_zero (l : List UInt8) : ∀ i n, (rd l i n).2.2 ≠ 0 → (rd l i n).1 = 0 := by
  induction l with
  | nil => intro i n _; rfl
  | cons c r ih =>
    intro i n
    unfold rd
    split
    · intro _; rfl
    · split
      · intro _; rfl
      · split
        · intro h; exact absurd rfl h
        · exact ih _ _

theorem rd_lt (l : List UInt8) : ∀ i n, i ≤ 9 → n < 128 ^ i → (rd l i n).1 < 18446744073709551616 := by
  induction l with
  | nil => intro i n _ _; simp [rd]
  | cons c r ih =>
    intro i n hi hn
    unfold rd
    split
    · simp
    · split
      · simp
      · split
        · exact sum_lt n c.toNat i hn hi (fun h => by omega)
        · have h1 : i ≠ 9 := by intro h; subst h; omega
          exact ih _ _ (by omega) (pow_next i n (c.toNat % 128) hn (Nat.mod_lt _ (by decide)))

theorem not_i64 (n : Int) (h0 : -9223372036854775808 ≤ n) (h1 : n ≤ 9223372036854775807) : bits BinOp.xor IntKind.i64 (-1) n = -n - 1 := by
  show IntKind.i64.wrap ((BitVec.ofInt 64 (-1) ^^^ BitVec.ofInt 64 n).toNat : Int) = _
  have e1 : BitVec.ofInt 64 (-1) = BitVec.allOnes 64 := by decide
  rw [e1, BitVec.allOnes_xor, BitVec.toNat_not, BitVec.toNat_ofInt, IntKind.wrap_i64]
  omega

theorem or_one (x : Nat) : x * 2 ||| 1 = x * 2 + 1 := by
  have h := Nat.two_pow_add_eq_or_of_lt (i := 1) (b := 1) (by decide) x
  rw [Nat.pow_one, Nat.mul_comm] at h
  exact h.symm

theorem fold_neg (n : Int) (h0 : -9223372036854775808 ≤ n) (h1 : n < 0) :
    bits BinOp.or IntKind.u64 (IntKind.u64.wrap (IntKind.u64.wrap (bits BinOp.xor IntKind.i64 (-1) n) * 2)) 1 = ((foldI n : Nat) : Int) := by
  rw [not_i64 n h0 (by omega)]
  obtain ⟨m, hm⟩ := Int.eq_ofNat_of_zero_le (show 0 ≤ -n - 1 by omega)
  rw [hm]
  have e1 : IntKind.u64.wrap (m : Int) = (m : Int) := by rw [IntKind.wrap_u64]; omega
  have e2 : IntKind.u64.wrap ((m : Int) * 2) = ((m * 2 : Nat) : Int) := by rw [IntKind.wrap_u64]; omega
  have e3 : foldI n = m * 2 + 1 := by unfold foldI; rw [if_pos h1]; omega
  rw [e1, e2, show (1 : Int) = ((1 : Nat) : Int) from rfl, u64_or_nat _ _ (by omega) (by omega), or_one, e3]

theorem fold_pos (n : Int) (h0 : 0 ≤ n) : n * 2 = ((foldI n : Nat) : Int) := by
  unfold foldI
  rw [if_neg (by omega)]
  omega

set_option maxRecDepth 100000 in
set_option maxHeartbeats 400000 in
theorem putInt_neg (v : Value) (l : List UInt8) (n : Int) (w : World) (hr : Reads w v l) (h0 : -9223372036854775808 ≤ n) (h1 : n < 0) (hl : l.length + 10 ≤ 140737488355328) :
    Calls Try.prog 118 #[v, .int .i64 n] w fun e w' => ∃ v', e = .returned v' ∧ Owns w' w.heap.size v' (l ++ grp (foldI n)) ∧ Below w.heap.size w w' := by
  have HP : Hid (_) := putUint_any v l (foldI n) w hr (foldI_lt n h0 (by omega)) hl
  have HE : Hid (_) := fold_neg n h0 h1
  clear hr hl
  go_enter Try.func118, Try.ntmps118
  go_wp2_with fail
  rw [HE.out]
  refine Calls.mono HP.out ?_
  rintro e w1 ⟨v1, rfl, ho1, hb1⟩
  go_wp2
  go_ret
  exact ⟨v1, rfl, ho1, hb1⟩

set_option maxRecDepth 100000 in
set_option maxHeartbeats 400000 in
theorem putInt_pos (v : Value) (l : List UInt8) (n : Int) (w : World) (hr : Reads w v l) (h0 : 0 ≤ n) (h1 : n ≤ 9223372036854775807) (hl : l.length + 10 ≤ 140737488355328) :
    Calls Try.prog 118 #[v, .int .i64 n] w fun e w' => ∃ v', e = .returned v' ∧ Owns w' w.heap.size v' (l ++ grp (foldI n)) ∧ Below w.heap.size w w' := by
  have HP : Hid (_) := putUint_any v l (foldI n) w hr (foldI_lt n (by omega) h1) hl
  have HE : Hid (_) := fold_pos n h0
  clear hr hl
  go_enter Try.func118, Try.ntmps118
  go_wp2_with fail
  rw [HE.out]
  refine Calls.mono HP.out ?_
  rintro e w1 ⟨v1, rfl, ho1, hb1⟩
  go_wp2
  go_ret
  exact ⟨v1, rfl, ho1, hb1⟩

theorem putInt_any (v : Value) (l : List UInt8) (n : Int) (w : World) (hr : Reads w v l) (h0 : -9223372036854775808 ≤ n) (h1 : n ≤ 9223372036854775807) (hl : l.length + 10 ≤ 140737488355328) :
    Calls Try.prog 118 #[v, .int .i64 n] w fun e w' => ∃ v', e = .returned v' ∧ Owns w' w.heap.size v' (l ++ grp (foldI n)) ∧ Below w.heap.size w w' := by
  by_cases h : n < 0
  · exact putInt_neg v l n w hr h0 h hl
  · exact putInt_pos v l n w hr (by omega) h1 hl

set_option maxRecDepth 100000 in
set_option maxHeartbeats 400000 in
theorem folded_any (n : Int) (w : World) (h0 : -9223372036854775808 ≤ n) (h1 : n ≤ 9223372036854775807) :
    Calls Try.prog 85 #[.int .i64 n] w fun e w' => e = .returned (.int .u64 (foldI n)) ∧ w' = w := by
  by_cases h : n < 0
  · go_enter Try.func85, Try.ntmps85
    go_wp2
    go_ret
    refine ⟨ret_int ?_, rfl⟩
    unfold foldI
    rw [if_pos h]
    omega
  · have h' : 0 ≤ n := by omega
    go_enter Try.func85, Try.ntmps85
    go_wp2
    go_ret
    refine ⟨ret_int ?_, rfl⟩
    unfold foldI
    rw [if_neg (by omega)]
    omega

set_option maxRecDepth 100000 in
set_option maxHeartbeats 400000 in
theorem refPutInt_any (v : Value) (l : List UInt8) (n : Int) (w : World) (hr : Reads w v l) (h0 : -9223372036854775808 ≤ n) (h1 : n ≤ 9223372036854775807) (hl : l.length + 10 ≤ 140737488355328) :
    Calls Try.prog 57 #[v, .int .i64 n] w fun e w' => ∃ v', e = .returned v' ∧ Owns w' w.heap.size v' (l ++ grp (foldI n)) ∧ Below w.heap.size w w' := by
  have HF : Hid (_) := foldI_lt n h0 h1
  have hg := grp_le (foldI n) HF.out
  have HD : Hid (_) := folded_any n w h0 h1
  clear h0 h1
  go_enter Try.func57, Try.ntmps57
  go_wp2_with fail
  refine Calls.mono HD.out ?_
  rintro e w' ⟨rfl, rfl⟩
  go_wp2_with fail
  refine (groups_any (foldI n) w' HF.out).mono ?_
  rintro e w1 ⟨v1, rfl, ho1, hb1⟩
  have hz := hb1.size
  have hr1 := hr.below hb1
  go_wp2_with fail
  refine (joined_any v v1 l (grp (foldI n)) w1 hr1 ho1.reads (by omega)).mono ?_
  rintro e w2 ⟨v2, rfl, ho2, hb2⟩
  go_wp2
  go_ret
  exact ⟨v2, rfl, ho2.mono hz, hb1.trans (hb2.mono hz)⟩

theorem half64 (u : Nat) (h : u < 18446744073709551616) : wrap64 ((u : Int) / 2) = (u : Int) / 2 := by unfold wrap64; omega
theorem half64' (u : Nat) (h : u < 18446744073709551616) : wrap64 (IntKind.u64.wrap ((u : Int) / 2)) = (u : Int) / 2 := by
  rw [IntKind.wrap_u64]
  unfold wrap64
  omega

theorem odd_u64 (u : Nat) (h : u < 18446744073709551616) : (bits BinOp.and IntKind.u64 (u : Int) 1 == 1) = decide (u % 2 = 1) := by
  rw [show (1 : Int) = ((1 : Nat) : Int) from rfl, u64_and_nat u 1 h (by omega), nat_mask1, Bool.eq_iff_iff]
  simp
  omega

theorem unf_odd (u : Nat) (h : u < 18446744073709551616) (ho : (bits BinOp.and IntKind.u64 (u : Int) 1 == 1) = true) : bits BinOp.xor IntKind.i64 (-1) (wrap64 ((u : Int) / 2)) = unfI u := by
  rw [odd_u64 u h] at ho
  rw [half64 u h, not_i64 _ (by omega) (by omega)]
  unfold unfI
  rw [if_pos (of_decide_eq_true ho)]
  omega

theorem unf_even (u : Nat) (h : u < 18446744073709551616) (ho : (bits BinOp.and IntKind.u64 (u : Int) 1 == 1) = false) : wrap64 ((u : Int) / 2) = unfI u := by
  rw [odd_u64 u h] at ho
  rw [half64 u h]
  unfold unfI
  rw [if_neg (of_decide_eq_false ho)]
  omega

theorem unf_odd' (u : Nat) (h : u < 18446744073709551616) (ho : ((u : Int) % 2 == 1) = true) : wrap64 (wrap64 (-wrap64 (IntKind.u64.wrap ((u : Int) / 2))) - 1) = unfI u := by
  have ho := beq_iff_eq.1 ho
  rw [half64' u h]
  unfold unfI wrap64
  rw [if_pos (by omega)]
  omega

theorem unf_even' (u : Nat) (h : u < 18446744073709551616) (ho : ((u : Int) % 2 == 1) = false) : wrap64 (IntKind.u64.wrap ((u : Int) / 2)) = unfI u := by
  have ho := beq_eq_false_iff_ne.1 ho
  rw [half64' u h]
  unfold unfI
  rw [if_neg (by omega)]
  omega

theorem err_ne (x : Nat) (h : ((x : Int) != 0) = true) : x ≠ 0 := by
  intro e
  subst e
  simp at h

theorem err_eq (x : Nat) (h : ((x : Int) != 0) = false) : (0 : Int) = x := by
  simp at h
  omega

def intV (l : List UInt8) : Value := .tuple #[.int .i64 (unfI (rd l 0 0).1), .int .i64 ((rd l 0 0).2.1 : Nat), .int .i64 ((rd l 0 0).2.2 : Nat)]

set_option maxRecDepth 100000 in
set_option maxHeartbeats 400000 in
theorem int_any (v : Value) (l : List UInt8) (w : World) (hr : Reads w v l) (hl : l.length ≤ 140737488355328) :
    Calls Try.prog 129 #[v] w fun e w' => e = .returned (intV l) ∧ w' = w := by
  have HU : Hid (_) := uint_any v l w hr hl
  have HL : Hid (_) := rd_lt l 0 0 (by omega) Nat.one_pos
  unfold rdV at HU
  unfold intV
  generalize rd l 0 0 = r at HU HL ⊢
  obtain ⟨u, p, x⟩ := r
  clear hr hl
  simp only at HU HL ⊢
  go_enter Try.func129, Try.ntmps129
  go_wp2_with fail
  refine Calls.mono HU.out ?_
  rintro e w' ⟨rfl, rfl⟩
  go_wp2
  · go_ret3
    exact ⟨ret3 (unf_odd u HL.out ‹_›) rfl rfl, rfl⟩
  · go_ret3
    exact ⟨ret3 (unf_even u HL.out ‹_›) rfl rfl, rfl⟩

set_option maxRecDepth 100000 in
set_option maxHeartbeats 400000 in
theorem refInt_any (v : Value) (l : List UInt8) (w : World) (hr : Reads w v l) (hl : l.length ≤ 140737488355328) :
    Calls Try.prog 88 #[v] w fun e w' => e = .returned (intV l) ∧ w' = w := by
  have HU : Hid (_) := refUint_any v l w hr hl
  have HL : Hid (_) := rd_lt l 0 0 (by omega) Nat.one_pos
  have HZ : Hid (_) := rd_zero l 0 0
  unfold rdV at HU
  unfold intV
  generalize rd l 0 0 = r at HU HL HZ ⊢
  obtain ⟨u, p, x⟩ := r
  clear hr hl
  simp only at HU HL HZ ⊢
  go_enter Try.func88, Try.ntmps88
  go_wp2_with fail
  refine Calls.mono HU.out ?_
  rintro e w' ⟨rfl, rfl⟩
  go_wp2
  · go_ret3
    refine ⟨ret3 ?_ rfl rfl, rfl⟩
    have h0 := HZ.out (err_ne x ‹_›)
    rw [h0]
    rfl
  · go_ret3
    exact ⟨ret3 (unf_odd' u HL.out ‹_›) rfl (err_eq x ‹_›), rfl⟩
  · go_ret3
    exact ⟨ret3 (unf_even' u HL.out ‹_›) rfl (err_eq x ‹_›), rfl⟩
end Go.Proofs.Ytfhicemfhkhjaab
