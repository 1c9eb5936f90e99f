/-
  Least: the lowest pick that can come first.
-/
import Derived.Test.YtaiccmbhdgecgaaSc1
import Derived.Laws.Bits64b
namespace Go.Proofs.Ytaiccmbhdgecgaa
open Go.RowKit
set_option maxRecDepth 100000

/-- the handlers that the first i picks keep behind them -/
def bh (R : List Int) (B : List Nat) : Nat → Nat
  | 0 => 0
  | i + 1 => bh R B i ||| B.getD (R.getD i 0).toNat 0
/-- may pick i come first? -/
def fr (R : List Int) (B : List Nat) (i : Nat) : Bool := !(bh R B i).testBit (R.getD i 0).toNat
/-- the place of the lowest of the first i that can -/
def lw (R : List Int) (B : List Nat) : Nat → Nat
  | 0 => 0
  | i + 1 => if fr R B i && decide (R.getD i 0 < R.getD (lw R B i) 0) then i else lw R B i
theorem lw_lt (R : List Int) (B : List Nat) : ∀ i, 0 < i → lw R B i < i
  | 0, h => by omega
  | i + 1, _ => by
    unfold lw
    split
    · omega
    · by_cases c : i = 0
      · subst c; show (0 : Nat) < 1; omega
      · have := lw_lt R B i (by omega); omega
theorem bh_lt (R : List Int) (B : List Nat) (hb : ∀ b ∈ B, b < 65536) : ∀ i, bh R B i < 65536
  | 0 => by show 0 < 65536; omega
  | i + 1 => by
    have h1 := bh_lt R B hb i
    unfold bh
    refine Nat.or_lt_two_pow (n := 16) h1 ?_
    rw [List.getD_eq_getElem?_getD]
    cases h : B[(R.getD i 0).toNat]? with
    | none => simp
    | some b => exact hb b (List.mem_of_getElem? h)
theorem and_one (V q : Nat) (h : V < 65536) : bits BinOp.and IntKind.u64 ((V : Int) / 2 ^ q) 1 = (((V / 2 ^ q) % 2 : Nat) : Int) := by
  have e : ((V : Int) / 2 ^ q) = ((V / 2 ^ q : Nat) : Int) := by push_cast; rfl
  have hle : V / 2 ^ q ≤ V := Nat.div_le_self _ _
  rw [e]
  have := bits_and_u64_nat (V / 2 ^ q) 1 (by omega) (by omega)
  rw [Nat.and_one_is_mod] at this
  exact this
theorem tb (V q : Nat) : V.testBit q = decide ((V / 2 ^ q) % 2 = 1) := Nat.testBit_eq_decide_div_mod_eq
/-- masks as cells -/
def uc (B : List Nat) : List Value := B.map fun (b : Nat) => Value.int .u64 (b : Int)
set_option maxHeartbeats 2000000 in
theorem lowestFree_any (v : Value) (R : List Int) (B : List Nat) (w : World) (hr : RI w v R) (hl : R.length ≤ 512) (hin : ∀ i (h : i < R.length), 0 ≤ R[i] ∧ R[i] < 16) (hB : B.length = 16) (hb : ∀ b ∈ B, b < 65536) :
    Calls Try.prog 47 #[v, .agg (uc B).toArray] w fun e w' => e = .returned (.int .i64 (lw R B R.length : Int)) ∧ Below w.heap.size w w' := by
  obtain ⟨ao, cap, rfl, hc, hn0, hcell⟩ := hr
  have HC := hid hcell
  have HI := hid hin
  have HBB := hid hb
  obtain ⟨W, hW⟩ : ∃ W, w.alloc (.cells (uc B).toArray 72) = W := ⟨_, rfl⟩
  have HBW := hid (show Below w.heap.size w W by rw [← hW]; exact (Below.refl _ _).alloc (Nat.le_refl _) _)
  have HCW := hid (show ∀ j (h : j < B.length), W.cell? ⟨w.heap.size, j, none⟩ = some (.int .u64 (B[j] : Int)) from fun j h => by
    rw [← hW, cell_of_row _ w.heap.size j _ _ _ (heap_alloc_new w _)]
    simp [uc, h])
  clear hcell hn0 hin hb
  revert hW HCW HBB
  match B, hB with
  | [b0, b1, b2, b3, b4, b5, b6, b7, b8, b9, b10, b11, b12, b13, b14, b15], hB =>
  intro HBB hW HCW
  simp only [uc, List.map_cons, List.map_nil] at hW ⊢
  go_enter Try.func47, Try.ntmps47
  have HWW := hid hW
  clear hW
  go_wp2
  obtain ⟨B, hBl⟩ : ∃ B, B = [b0, b1, b2, b3, b4, b5, b6, b7, b8, b9, b10, b11, b12, b13, b14, b15] := ⟨_, rfl⟩
  rw [← hBl] at hB HCW HBB
  have HBL := hid hBl
  clear hBl
  go_loopw [5, 6, 7, 8, 11] (fun vl vb _ _ vi wx => ∃ i : Nat, i ≤ R.length ∧ vi = .int .i64 (i : Int) ∧ vl = .int .i64 (lw R B i : Int) ∧ vb = .int .u64 (bh R B i : Int) ∧ wx = W) (fun _ _ _ _ vi _ => R.length - (intOf vi).toNat)
  case atStart => exact ⟨0, Nat.zero_le _, rfl, rfl, rfl, HWW.out⟩
  case round =>
    obtain ⟨i, hi, rfl, rfl, rfl, rfl⟩ := hrel
    by_cases h : i < R.length
    · have hI : (i : Int) < (R.length : Int) := by omega
      obtain ⟨g, off, hao, cx⟩ := HC.out i h
      subst hao
      have c1 := below_cells HBW.out _ _ cx
      obtain ⟨z0, z1⟩ := HI.out i h
      have hgd : R.getD i 0 = R[i] := by rw [List.getD_eq_getElem?_getD, List.getElem?_eq_getElem h]; rfl
      have hlw : lw R B i < R.length := by
        by_cases c : i = 0
        · subst c; show 0 < R.length; omega
        · have := lw_lt R B i (by omega); omega
      have hlI : ((lw R B i : Nat) : Int) < (R.length : Int) := by omega
      obtain ⟨g', off', hao', cl⟩ := HC.out (lw R B i) hlw
      cases hao'
      have c2 := below_cells HBW.out _ _ cl
      have hgl : R.getD (lw R B i) 0 = R[lw R B i] := by rw [List.getD_eq_getElem?_getD, List.getElem?_eq_getElem hlw]; rfl
      have hq : R[i].toNat < B.length := by omega
      have c3 := HCW.out R[i].toNat hq
      have hV := bh_lt R B HBB.out i
      have hO := bits_or_u64_nat (bh R B i) (B[R[i].toNat]) (by omega) (by have := HBB.out _ (List.getElem_mem hq); omega)
      have HO1 := hid (show bh R B (i + 1) = bh R B i ||| B[R[i].toNat] by show bh R B i ||| B.getD (R.getD i 0).toNat 0 = _; rw [hgd, List.getD_eq_getElem?_getD, List.getElem?_eq_getElem hq]; rfl)
      have HLW := hid (show lw R B (i + 1) = if !decide ((bh R B i / 2 ^ R[i].toNat) % 2 = 1) && decide (R[i] < R[lw R B i]) then i else lw R B i by
        show (if fr R B i && decide (R.getD i 0 < R.getD (lw R B i) 0) then i else lw R B i) = _
        unfold fr
        rw [tb, hgd, hgl])
      have hA := and_one (bh R B i) R[i].toNat hV
      have hm2 : (bh R B i / 2 ^ R[i].toNat) % 2 = 0 ∨ (bh R B i / 2 ^ R[i].toNat) % 2 = 1 := by omega
      rw [← HO1.out] at hO
      clear cx cl hgd hgl
      generalize hzz : R[i] = z at c1 z0 z1 hq c3 hO HLW hA hm2
      generalize hyy : R[lw R B i] = y at c2 HLW
      rcases hm2 with hm | hm
      · rw [hm] at hA
        by_cases hlt : z < y
        · have HL1 := hid (show lw R B (i + 1) = i by rw [HLW.out, hm, decide_eq_true hlt]; rfl)
          clear HLW hm
          go_wp2
          go_roundw
          case rel => exact ⟨i + 1, by omega, by go_num, by rw [HL1.out], by first | rfl | trivial, by first | rfl | trivial⟩
          case measure => simp [intOf]; omega
        · have HL1 := hid (show lw R B (i + 1) = lw R B i by rw [HLW.out, hm, decide_eq_false hlt]; rfl)
          clear HLW hm
          go_wp2
          go_roundw
          case rel => exact ⟨i + 1, by omega, by go_num, by rw [HL1.out], by first | rfl | trivial, by first | rfl | trivial⟩
          case measure => simp [intOf]; omega
      · rw [hm] at hA
        have HL1 := hid (show lw R B (i + 1) = lw R B i by rw [HLW.out, hm]; rfl)
        clear HLW hm
        go_wp2
        go_roundw
        case rel => exact ⟨i + 1, by omega, by go_num, by rw [HL1.out], by first | rfl | trivial, by first | rfl | trivial⟩
        case measure => simp [intOf]; omega
    · have hI : ¬ (i : Int) < (R.length : Int) := by omega
      obtain rfl : i = R.length := by omega
      go_wp2
      go_ret
      rw [← HBL.out]
      exact ⟨rfl, HBW.out⟩
end Go.Proofs.Ytaiccmbhdgecgaa
