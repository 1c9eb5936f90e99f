/-
  The ways of a register: what 'larderref01' reckons a join by. The plain mathematics, and the contracts.
-/
import Derived.Test.YtbmnkedbpomnkaaSum
import Derived.Test.YtbmnkedbpomnkaaBytes
import Derived.Deep.MidRow
namespace Go.Proofs.Ytbmnkedbpomnkaa
open Go.RowKit

/-- what a list of where each bit goes makes of a register: the first k bits -/
def goTo (f : List Nat) (c : Nat) : Nat → Nat
  | 0 => 0
  | k + 1 => if c.testBit k then goTo f c k ^^^ f.getD k 0 else goTo f c k

theorem goTo_lt (f : List Nat) (c : Nat) (hf : ∀ i, f.getD i 0 < 4294967296) : ∀ k, goTo f c k < 4294967296
  | 0 => by simp [goTo]
  | k + 1 => by
    unfold goTo
    split
    · exact Nat.xor_lt_two_pow (n := 32) (goTo_lt f c hf k) (hf k)
    · exact goTo_lt f c hf k

/-- a row of 32 registers, as cells -/
def rowC (f : List Nat) : Array Value := (f.map fun (x : Nat) => Value.int .u32 (x : Int)).toArray

theorem rowC_size (f : List Nat) : (rowC f).size = f.length := by simp [rowC]
theorem rowC_at (f : List Nat) (j : Nat) (h : j < f.length) : (rowC f)[j]? = some (.int .u32 ((f.getD j 0 : Nat) : Int)) := by simp [rowC, h]

theorem bit_at (c k : Nat) (hc : c < 4294967296) : (bits BinOp.and IntKind.u32 ((c : Int) / 2 ^ k) 1 == 1) = c.testBit k := by
  have e : (c : Int) / 2 ^ k = ((c / 2 ^ k : Nat) : Int) := by simp
  have hd : c / 2 ^ k ≤ c := Nat.div_le_self _ _
  rw [e, odd_of _ (Int.natCast_nonneg _) (by omega), Int.toNat_natCast, Nat.testBit_eq_decide_div_mod_eq]

set_option maxRecDepth 100000 in
set_option maxHeartbeats 400000 in
theorem gone_any (f : List Nat) (c : Nat) (w : World) (hf : f.length = 32) (hb : ∀ i, f.getD i 0 < 4294967296) (hc : c < 4294967296) :
    Calls Try.prog 10 #[.agg (rowC f), .int .u32 c] w fun e w' => e = .returned (.int .u32 (goTo f c 32)) ∧ w' = w.alloc (.cells (rowC f) 32) := by
  have HB : Hid (_) := hb
  have HF : Hid (_) := hf
  clear hb hf
  go_enter Try.func10, Try.ntmps10
  go_wp2
  go_loop [5, 6] (fun o i => ∃ k : Nat, k ≤ 32 ∧ i = .int .i64 k ∧ o = .int .u32 (goTo f c k : Nat)) (fun _ i => 32 - (intOf i).toNat)
  case atStart => exact ⟨0, by omega, rfl, rfl⟩
  case round =>
    obtain ⟨k, hk, rfl, rfl⟩ := hrel
    by_cases hlt : k < 32
    · have hcell : (w.alloc (.cells (rowC f) 32)).cell? ⟨w.heap.size, k, none⟩ = some (.int .u32 ((f.getD k 0 : Nat) : Int)) := by
        rw [World.cell?_alloc_mark, rowC_at f k (by rw [HF.out]; exact hlt)]
      have h1 := goTo_lt f c HB.out k
      have h2 := HB.out k
      have H3 : Hid (goTo f c (k + 1) = if c.testBit k then goTo f c k ^^^ f.getD k 0 else goTo f c k) := rfl
      generalize f.getD k 0 = x at hcell h2 H3
      have hbit := bit_at c k hc
      cases ht : c.testBit k
      all_goals
        rw [ht] at hbit
        have H4 : Hid (_ = _) := ht
        clear ht
        go_wp2
        go_round
        case rel =>
          refine ⟨k + 1, by omega, by go_num, ?_⟩
          rw [H3.out, H4.out]
          first | rfl | (rw [u32_xor_nat _ _ h1 h2]; rfl)
        case measure => simp [intOf]; omega
    · have e : k = 32 := by omega
      subst e
      go_wp2
      go_ret
      exact ⟨rfl, rfl⟩

/-- the register behind some bytes -/
def onL (c : Nat) (l : List UInt8) : Nat := l.foldl (fun r b => Poly.itr 8 (r ^^^ b.toNat)) c

theorem onL_lt (l : List UInt8) : ∀ c, c < 4294967296 → onL c l < 4294967296 := by
  induction l with
  | nil => intro c h; exact h
  | cons b r ih =>
    intro c h
    have := UInt8.toNat_lt b
    exact ih _ (Poly.itr_lt 8 _ (Nat.xor_lt_two_pow (n := 32) h (by omega)))

theorem onL_snoc (c : Nat) (l : List UInt8) (b : UInt8) : onL c (l ++ [b]) = Poly.itr 8 (onL c l ^^^ b.toNat) := by
  unfold onL
  rw [List.foldl_append]
  rfl

set_option maxRecDepth 100000 in
set_option maxHeartbeats 800000 in
theorem on_some (b off cap : Nat) (l : List UInt8) (c : Nat) (w : World) (hc : c < 4294967296) (hl : l.length ≤ 140737488355328)
    (hcell : ∀ j (hj : j < l.length), w.cell? ⟨b, off + j, none⟩ = some (.int .u8 (l[j].toNat : Int))) :
    Calls Try.prog 9 #[.int .u32 c, .slice (some ⟨b, off, none⟩) l.length cap] w fun e w' => e = .returned (.int .u32 (onL c l)) ∧ w' = w := by
  have HC : Hid (_) := hcell
  clear hcell
  go_enter Try.func9, Try.ntmps9
  go_wp2
  go_loop [0, 5] (fun r i => ∃ k : Nat, k ≤ l.length ∧ i = .int .i64 k ∧ r = .int .u32 (onL c (l.take k) : Nat)) (fun _ i => l.length - (intOf i).toNat)
  case atStart => exact ⟨0, by omega, rfl, rfl⟩
  case round =>
    obtain ⟨k, hk, rfl, rfl⟩ := hrel
    by_cases hlt : k < l.length
    · have hcl := HC.out k hlt
      have hu := UInt8.toNat_lt l[k]
      have hr := onL_lt (l.take k) c hc
      have HE : Hid (onL c (l.take (k + 1)) = Poly.itr 8 (onL c (l.take k) ^^^ l[k].toNat)) := by
        show _ = _
        rw [List.take_succ_eq_append_getElem hlt, onL_snoc]
      have HX : Hid (_) := u32_xor_nat (onL c (l.take k)) l[k].toNat hr (by omega)
      have hx : onL c (l.take k) ^^^ l[k].toNat < 4294967296 := Nat.xor_lt_two_pow (n := 32) hr (by omega)
      generalize l[k].toNat = x at hcl hu HE HX hx
      generalize onL c (l.take k) = r at hr HE HX hx ⊢
      go_wp2
      go_loop [0, 6] (fun v j => ∃ m : Nat, m ≤ 8 ∧ j = .int .i64 m ∧ v = .int .u32 (Poly.itr m (r ^^^ x) : Nat)) (fun _ j => 8 - (intOf j).toNat)
      case atStart => exact ⟨0, by omega, rfl, congrArg _ HX.out⟩
      case round =>
        obtain ⟨m, hm, rfl, rfl⟩ := hrel
        by_cases hm8 : m < 8
        · have hi := Poly.itr_lt m (r ^^^ x) hx
          have HM : Hid (Poly.itr (m + 1) (r ^^^ x) = Poly.mv (Poly.itr m (r ^^^ x))) := rfl
          generalize Poly.itr m (r ^^^ x) = y at hi HM ⊢
          go_wp2
          · go_round
            case rel => exact ⟨m + 1, by omega, by go_num, congrArg _ ((mv_odd y (by omega) (by omega) ‹_›).trans (by rw [HM.out, Int.toNat_natCast]))⟩
            case measure => simp [intOf]; omega
          · go_round
            case rel => exact ⟨m + 1, by omega, by go_num, congrArg _ ((mv_even y (by omega) (by omega) ‹_›).trans (by rw [HM.out, Int.toNat_natCast]))⟩
            case measure => simp [intOf]; omega
        · have e8 : m = 8 := by omega
          subst e8
          go_wp2
          go_round
          case rel => exact ⟨k + 1, by omega, by go_num, by rw [HE.out]⟩
          case measure => simp [intOf]; omega
    · have e : k = l.length := by omega
      subst e
      go_wp2
      go_ret
      exact ⟨rfl, rfl⟩
end Go.Proofs.Ytbmnkedbpomnkaa
