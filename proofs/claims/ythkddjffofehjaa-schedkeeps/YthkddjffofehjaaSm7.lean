/-
  The document's Mixed.
-/
import Derived.Test.YthkddjffofehjaaSm6
import Derived.Laws.Cover1
namespace Go.Proofs.Ythkddjffofehjaa
open Go.RowKit Go.Shelf
set_option maxRecDepth 100000

theorem mxL_block (s : Int) (n len q : Nat) (hl : 1 ≤ len) : mxL s n len (q * len + len) = mxL s n len (q * len) ++ mxB s n len q := by
  unfold mxL
  rw [List.range_add, List.map_append, List.map_map]
  congr 1
  apply List.ext_getElem
  · simp [mxB_len]
  · intro i h1 h2
    rw [mxB_len] at h2
    have e1 : (q * len + i) / len = q := by rw [Nat.mul_comm, Nat.mul_add_div (by omega), Nat.div_eq_of_lt h2]; rfl
    have e2 : (q * len + i) % len = i := by rw [Nat.mul_comm, Nat.mul_add_mod, Nat.mod_eq_of_lt h2]
    simp [mxP, e1, e2, List.getD_eq_getElem?_getD, mxB_len, h2]
theorem RI.take {w : World} {ao : Option Addr} {c m z : Nat} {R : List Int} (h : RI w (.slice ao m c) R) (hz : z ≤ m) : RI w (.slice ao z c) (R.take z) ∧ m = R.length ∧ m ≤ c := by
  obtain ⟨ao', c', hv, hc, hn, hr⟩ := h
  cases hv
  refine ⟨⟨_, _, by rw [List.length_take, Nat.min_eq_left hz], by rw [List.length_take]; omega, hn, fun i hi => ?_⟩, rfl, hc⟩
  rw [List.length_take] at hi
  obtain ⟨g, off, ha, hcell⟩ := hr i (by omega)
  exact ⟨g, off, ha, by rw [List.getElem_take]; exact hcell⟩
def lenV : Value → Nat
  | .slice _ n _ => n
  | _ => 0

set_option maxHeartbeats 1000000 in
theorem rmixed_any (s : Int) (n len kk most : Nat) (w : World) (hn : 1 ≤ n) (hn2 : n ≤ 16) (hnl : n ≤ len) (hl2 : len ≤ 1000) (hk : (kk + 1) / 2 = len) (hok : okM (n : Int) (kk : Int) = true) (hmost : most ≤ 65537) :
    Calls Try.prog 23 #[.int .u64 s, .int .i64 (n : Int), .int .i64 (kk : Int), .int .i64 (most : Int)] w fun e w' => (∃ v, e = .returned v ∧ RI w' v ((mxL s n len 65536).take most)) ∧ Below w.heap.size w w' := by
  have HC := hid (canMix_any (n : Int) (kk : Int))
  rw [hok] at HC
  have h1 : UBox 63 (w.alloc (.cells #[.int .u64 s] 63)) w.heap.size s := heap_alloc_new w _
  have hb1 := alloc_below w (.cells #[.int .u64 s] 63)
  have hz1 : (w.alloc (.cells #[.int .u64 s] 63)).heap.size = w.heap.size + 1 := by simp
  have H1 := hid h1
  have B1 := hid hb1
  clear hok h1 hb1
  go_enter Try.func23, Try.ntmps23
  go_wp2_with (first
    | (go_at_call 38; refine (HC.out _).mono ?_; rintro e w3 ⟨rfl, rfl⟩))
  go_loopw [9] (fun v wr => ∃ q : Nat, q * len ≤ 67000 ∧ OI wr (w3.heap.size + 1) v (mxL s n len (q * len)) ∧ UBox 63 wr w3.heap.size (mxS s n len q) ∧ Below w3.heap.size w3 wr) (fun v _ => 70000 - lenV v)
  case atStart => exact ⟨0, by omega, by rw [Nat.zero_mul]; exact OI.nil _ _, H1.out, B1.out⟩
  case round =>
    obtain ⟨q, hq, ho, hu, hb⟩ := hrel
    have HO := hid ho
    have HU := hid hu
    have HB := hid hb
    have hlen := mxL_len s n len (q * len)
    have hsz : w3.heap.size + 1 ≤ wr.heap.size := by have := hu.facts.2.2; omega
    have HLB := hid (mxL_block s n len q (by omega))
    obtain ⟨m, hm⟩ : ∃ m, q * len = m := ⟨_, rfl⟩
    have hm1 : (q + 1) * len = m + len := by rw [Nat.add_mul, hm]; omega
    have HM1 := hid hm1
    have HM := hid hm
    obtain ⟨ao, cap, hv⟩ := ho.reads.len0
    subst hv
    rw [hlen, hm] at HO
    rw [hm] at hq HLB
    rw [hlen, hm]
    have hqI : (m : Int) ≤ 67000 := by omega
    have hmI : (most : Int) ≤ 65537 := by omega
    have HQ := hid hq
    have HMo := hid hmost
    clear ho hu hb hm hm1 hlen hq hmost
    by_cases hc : m < most ∧ m < 65536
    · have hc1 : (m : Int) < (most : Int) := by omega
      have hc2 : (m : Int) < 65536 := by omega
      have HBk := hid (rblock_any w3.heap.size (mxS s n len q) n len kk wr HU.out hk hn hn2 hnl hl2)
      have HCC := hid hc
      clear hc
      go_wp2_with fail
      refine HBk.out.mono ?_
      rintro e w5 ⟨⟨v5, rfl, ho5⟩, hu5, hch5⟩
      have HB5 := hid (show OI w5 wr.heap.size v5 (mxB s n len q) from ho5)
      have HU5 := hid (show UBox 63 w5 w3.heap.size (mxS s n len (q + 1)) from hu5)
      have HO5 := hid (show OI w5 (w3.heap.size + 1) (.slice ao m cap) (mxL s n len m) from own_chg HO.out hch5 (Nat.le_refl _))
      have HW5 := hid (hch5.below HB.out (Nat.le_refl _) (Nat.le_refl _))
      have hz5 : w3.heap.size + 1 ≤ w5.heap.size := by have := hch5.size; omega
      clear ho5 hu5 hch5 HBk
      go_wp2_with (at_builtin; refine wpList_appI rfl _ _ rfl (w3.heap.size + 1) _ (mxL s n len m) rfl HO5.out _ (mxB s n len q) rfl HB5.out.reads ?hlen ?hbase ?hnext2)
      case hlen => rw [mxL_len, mxB_len]; omega
      case hbase => omega
      case hnext2 =>
        intro v2 w2 ho2 hg2
        have HO2 := hid (show OI w2 (w3.heap.size + 1) v2 (mxL s n len ((q + 1) * len)) by rw [HM1.out, HLB.out]; exact ho2)
        have HU2 := hid (UBox.grown HU5.out hg2 (fun k hk => by have := HO5.out.block_ge k hk; omega))
        have HW2 := hid (HW5.out.grown hg2 (by omega) (fun k hk => by have := HO5.out.block_ge k hk; omega))
        have hv2 : lenV v2 = m + len := by
          obtain ⟨_, _, hv⟩ := ho2.reads.len0
          rw [hv, List.length_append, mxL_len, mxB_len]
          rfl
        have HV2 := hid hv2
        clear ho2 hg2 hv2
        go_wp2
        go_roundw
        case rel => exact ⟨q + 1, by rw [HM1.out]; have := HCC.out; omega, HO2.out, HU2.out, HW2.out⟩
        case measure => rw [HV2.out]; have := HCC.out; simp only [lenV]; omega
    · obtain ⟨z, hz⟩ : ∃ z : Nat, min m (min most 65536) = z := ⟨_, rfl⟩
      have hzm : z ≤ m := by omega
      have HRz := hid (HO.out.reads.take hzm)
      have hzl : (mxL s n len m).take z = (mxL s n len 65536).take most := by
        rw [mxL_take s n len z m hzm]
        by_cases hh : most ≤ 65536
        · rw [mxL_take s n len most 65536 hh]; congr 1; omega
        · rw [List.take_of_length_le (by rw [mxL_len]; omega)]; congr 1; omega
      rw [hzl] at HRz
      have hcap := HRz.out.2.2
      have HZ := hid hz
      have hcs : ((m : Int) < (most : Int) ∧ ¬ (m : Int) < 65536 ∧ ¬ (65536 : Int) < (m : Int) ∧ z = m) ∨ (¬ (m : Int) < (most : Int) ∧ (most : Int) < (m : Int) ∧ ((65536 : Int) < (most : Int) ∧ z = 65536 ∨ ¬ (65536 : Int) < (most : Int) ∧ z = most)) ∨ (¬ (m : Int) < (most : Int) ∧ ¬ (most : Int) < (m : Int) ∧ ((65536 : Int) < (m : Int) ∧ z = 65536 ∨ ¬ (65536 : Int) < (m : Int) ∧ z = m)) := by
        have := HMo.out
        omega
      clear hzl hc
      have hzc : z ≤ cap := by omega
      rcases hcs with ⟨h1, h2, h3, rfl⟩ | ⟨h1, h2, ⟨h3, rfl⟩ | ⟨h3, rfl⟩⟩ | ⟨h1, h2, ⟨h3, rfl⟩ | ⟨h3, rfl⟩⟩
      all_goals go_wp2
      all_goals go_ret
      all_goals first
        | exact ⟨⟨_, rfl, HRz.out.1⟩, HB.out⟩
        | (obtain rfl : z = 0 := by omega
           exact ⟨⟨_, rfl, HRz.out.1⟩, HB.out⟩)
theorem rmixed_no (s n k most : Int) (w : World) (hok : okM n k = false) :
    Calls Try.prog 23 #[.int .u64 s, .int .i64 n, .int .i64 k, .int .i64 most] w fun e w' => (∃ v, e = .returned v ∧ RI w' v []) ∧ Below w.heap.size w w' := by
  have HC := hid (canMix_any n k)
  rw [hok] at HC
  clear hok
  go_enter Try.func23, Try.ntmps23
  go_wp2_with (first
    | (go_at_call 38; refine (HC.out _).mono ?_; rintro e w3 ⟨rfl, rfl⟩))
  go_ret
  exact ⟨⟨_, rfl, RI.nil _⟩, Below.refl _ _⟩
end Go.Proofs.Ythkddjffofehjaa
