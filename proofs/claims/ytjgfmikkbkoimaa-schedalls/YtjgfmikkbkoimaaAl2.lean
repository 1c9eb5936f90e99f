/-
  All: the document's Next and CanAll.
-/
import Derived.Test.YtjgfmikkbkoimaaAl1
namespace Go.Proofs.Ytjgfmikkbkoimaa
open Go.RowKit
set_option maxRecDepth 100000
set_option linter.unusedVariables false
set_option linter.unusedSimpArgs false

def apN (a : Array Value) : Sem Value := Builtin.append_ #[36, 36] 36 a
theorem apN_op (a : Array Value) : Builtin.append_ #[36, 36] 36 a = apN a := rfl
attribute [local go_sem ↓] apN_op
theorem RI.src {w : World} {v : Value} {R : List Int} (h : RI w v R) : (v = .slice none 0 0 ∧ R = []) ∨ ∃ ad cp, v = .slice (some ad) R.length cp ∧ ∀ j u, (R.flatMap eN)[j]? = some u → w.cell? (ad.add j) = some u := by
  obtain ⟨ao, c, rfl, hc, hn, hr⟩ := h
  cases ao with
  | none =>
    have : c = 0 := hn rfl
    subst this
    have : R = [] := List.eq_nil_of_length_eq_zero (by omega)
    subst this
    exact .inl ⟨rfl, rfl⟩
  | some ad =>
    refine .inr ⟨ad, c, rfl, fun j u hj => ?_⟩
    rw [fl_ic] at hj
    have hjl : j < R.length := by have := (List.getElem?_eq_some_iff.1 hj).1; rwa [ic_len] at this
    obtain ⟨g, off, e, hcell⟩ := hr j hjl
    injection e with e
    subst e
    rw [ic_at R j hjl] at hj
    injection hj with hj
    subst hj
    rw [Addr.add_lit]
    exact hcell
/-- what Next answers to the n-th list -/
def NxA (b d n : Nat) (w : World) (e : Ending) (w' : World) : Prop := ∃ v ok, e = .returned (.tuple #[v, .bool ok]) ∧ ((n + 1 < b ^ d ∧ ok = true ∧ OwI w' w.heap.size v (dig b (n + 1) d)) ∨ (n + 1 = b ^ d ∧ ok = false ∧ v = .slice none 0 0)) ∧ Below w.heap.size w w'
theorem nx_more {b c i k n d : Nat} (hb : 1 ≤ b) (hd : d = i + 1 + k) (hn : n + 1 = (c + 1) * b ^ k) (hlt : n < b ^ d) (hr : c % b + 1 < b) : n + 1 < b ^ d ∧ dig b (n + 1) d = dig b (c / b) i ++ (((c % b : Nat) : Int) + 1) :: List.replicate k 0 := by
  subst hd
  refine ⟨?_, ?_⟩
  · rcases Nat.lt_or_ge (n + 1) (b ^ (i + 1 + k)) with h | h
    · exact h
    · exfalso
      have e : (c + 1) * b ^ k = b ^ (i + 1) * b ^ k := by rw [← hn, ← Nat.pow_add]; omega
      have e2 : c + 1 = b ^ (i + 1) := Nat.eq_of_mul_eq_mul_right (Nat.pow_pos (by omega)) e
      have e3 : (c + 1) % b = 0 := by rw [e2, Nat.pow_succ, Nat.mul_mod_left]
      have e4 : (c + 1) % b = c % b + 1 := by
        rw [Nat.add_mod, Nat.mod_eq_of_lt (a := c % b + 1 % b)]
        · rw [Nat.mod_eq_of_lt (a := 1) (by omega)]
        · rw [Nat.mod_eq_of_lt (a := 1) (by omega)]; exact hr
      omega
  · rw [hn, dig_zeros b hb (i + 1) k (c + 1), dig_up b c i hb hr, List.append_assoc]
    rfl
theorem nx_carry {b c k n : Nat} (hb : 1 ≤ b) (hn : n + 1 = (c + 1) * b ^ k) (hr : ¬ c % b + 1 < b) : n + 1 = (c / b + 1) * b ^ (k + 1) := by
  have h1 : c % b < b := Nat.mod_lt _ (by omega)
  have e : c + 1 = (c / b + 1) * b := by
    have := Nat.div_add_mod c b
    rw [Nat.add_mul, Nat.one_mul, Nat.mul_comm]
    omega
  rw [hn, e, Nat.mul_assoc, Nat.pow_succ, Nat.mul_comm b]
set_option maxHeartbeats 4000000 in
theorem next_any (b d n : Nat) (l : Value) (hb : 1 ≤ b ∧ b ≤ 16) (hd : d ≤ 24) (hlt : n < b ^ d) (w : World) (hl : RI w l (dig b n d)) :
    Calls Try.prog 11 #[l, .int .i64 (b : Int)] w fun e w' => NxA b d n w e w' := by
  obtain ⟨v1, w1, col1, hap, ho1, _, hg1, _, _⟩ := run_appD (enc := eN) (col := fun _ => 0) (c := 0) (base := w.heap.size) (v := .slice none 0 0) (L := []) iinf Try.underlying36 rfl (by decide) eN_len (Ow.nil _ _ w _) l (dig b n d) hl.src (fun x hx => eN_one x) (by rw [dig_len]; simp; omega) (by rw [dig_len]; simp [maxLen]; omega) (Nat.le_refl _) 36
  rw [List.nil_append] at ho1
  have ho : OwI w1 w.heap.size v1 (dig b n d) := ⟨ho1.1, fun _ _ => rfl⟩
  have hB1 : Below w.heap.size w w1 := gb_below (Below.refl _ _) (Nat.le_refl _) hg1 (fun g e => by simp [Value.ownBlock] at e)
  rw [apN_op] at hap
  obtain ⟨lo, lc, hlv⟩ := hl.len0
  subst hlv
  rw [dig_len] at hap
  obtain ⟨o1, c1, hv1⟩ := ho.sl
  subst hv1
  rw [dig_len] at hap ho
  have HO1 := hid ho
  have HB1 := hid hB1
  clear hl ho1 hg1 ho hB1
  rw [dig_len]
  go_enter Try.func11, Try.ntmps11
  go_wp2_with fail
  go_loopw [7] (fun s7 wr => ∃ (j c : Nat) (z : Int), j ≤ d ∧ s7 = .int .i64 z ∧ Hid (z = (j : Int) - 1) ∧ Hid (n + 1 = (c + 1) * b ^ (d - j)) ∧ Hid (OwI wr w.heap.size (.slice o1 d c1) (dig b c j ++ List.replicate (d - j) 0)) ∧ Hid (Below w.heap.size w wr)) (fun s7 _ => (intOf s7 + 1).toNat)
  case atStart => exact ⟨d, n, _, Nat.le_refl _, rfl, hid rfl, hid (by simp), hid (by simpa using HO1.out), HB1⟩
  case round =>
    obtain ⟨j, c, z, hj, h7, HZ, HN, HO, HBr⟩ := hrel
    subst h7
    by_cases hj1 : 1 ≤ j
    · obtain ⟨i, rfl⟩ : ∃ i, j = i + 1 := ⟨j - 1, by omega⟩
      have hz : z = (i : Int) := by have := HZ.out; omega
      subst hz
      have hI : (0 : Int) ≤ (i : Int) := by omega
      have hID : (i : Int) < (d : Int) := by omega
      obtain ⟨k, hk⟩ : ∃ k, d - (i + 1) = k := ⟨_, rfl⟩
      have hdk : d = i + 1 + k := by omega
      rw [hk] at HN HO
      have hlist : dig b c (i + 1) ++ List.replicate k (0 : Int) = dig b (c / b) i ++ ((c % b : Nat) : Int) :: List.replicate k 0 := by rw [dig, List.append_assoc]; rfl
      rw [hlist] at HO
      have hiL : i < (dig b (c / b) i ++ ((c % b : Nat) : Int) :: List.replicate k 0).length := by simp [dig_len]
      obtain ⟨g, cp, e, hcp, hcell, hfr, hBg⟩ := HO.out.atI i hiL
      have hget : (dig b (c / b) i ++ ((c % b : Nat) : Int) :: List.replicate k 0)[i] = ((c % b : Nat) : Int) := by
        rw [List.getElem_append_right (by simp [dig_len])]
        simp [dig_len]
      rw [hget] at hcell
      injection e with e1 e2 e3
      subst e1 e3
      have hlen : (dig b (c / b) i ++ ((c % b : Nat) : Int) :: List.replicate k 0).length = d := by simp [dig_len]; omega
      rw [hlen] at hcp
      have hset : ∀ y : Int, (dig b (c / b) i ++ ((c % b : Nat) : Int) :: List.replicate k 0).set i y = dig b (c / b) i ++ y :: List.replicate k 0 := fun y => by
        rw [List.set_append_right _ _ (by simp [dig_len])]
        simp [dig_len]
      have hs1 : ∀ y : Int, OwI (wr.setCell ⟨g, i, none⟩ (.int .i64 y)) w.heap.size (.slice (some ⟨g, 0, none⟩) d c1) (dig b (c / b) i ++ y :: List.replicate k 0) := fun y => by
        have := HO.out.set1 eN_len i hiL y rfl rfl
        rw [hset y] at this
        exact this
      have hs2 : ∀ y : Int, Below w.heap.size w (wr.setCell ⟨g, i, none⟩ (.int .i64 y)) := fun y => HBr.out.setCell (p := ⟨g, i, none⟩) hBg _
      have HS := hid (And.intro hs1 hs2)
      have hrb : c % b < b := Nat.mod_lt _ (by omega)
      by_cases hr : c % b + 1 < b
      · obtain ⟨m1, m2⟩ := nx_more hb.1 hdk HN.out hlt hr
        have HMo := hid (And.intro m1 m2)
        obtain ⟨r, hrr⟩ : ∃ r, c % b = r := ⟨_, rfl⟩
        rw [hrr] at hcell hr HMo hrb
        have hrI : (r : Int) + 1 < (b : Int) := by omega
        clear hset hs1 hs2 hget hlist hlen hiL hk e2 m1 m2 hr hrr
        go_wp2
        go_ret2
        exact ⟨_, true, rfl, .inl ⟨HMo.out.1, rfl, by rw [HMo.out.2]; exact HS.out.1 _⟩, HS.out.2 _⟩
      · have HN2 := hid (nx_carry hb.1 HN.out hr)
        have HO2 := hid (show OwI (wr.setCell ⟨g, i, none⟩ (.int .i64 0)) w.heap.size (.slice (some ⟨g, 0, none⟩) d c1) (dig b (c / b) i ++ List.replicate (d - i) 0) by rw [show d - i = k + 1 by omega, List.replicate_succ]; exact HS.out.1 0)
        rw [show k + 1 = d - i by omega] at HN2
        obtain ⟨r, hrr⟩ : ∃ r, c % b = r := ⟨_, rfl⟩
        rw [hrr] at hcell hr hrb
        have hrI : ¬ (r : Int) + 1 < (b : Int) := by omega
        clear hset hs1 hs2 hget hlist hlen hiL hk e2 hr hrr
        go_wp2
        go_roundw
        case rel => exact ⟨i, c / b, (i : Int) - 1, by omega, by first | rfl | go_num, hid rfl, HN2, HO2, hid (HS.out.2 _)⟩
        case measure => first | (simp [intOf]; done) | (simp [intOf]; omega)
    · have hz : z = -1 := by have := HZ.out; omega
      subst hz
      have hj0 : j = 0 := by omega
      subst hj0
      have HF := hid (show n + 1 = b ^ d by
        have h1 := HN.out
        rw [Nat.sub_zero] at h1
        rcases Nat.eq_zero_or_pos c with h0 | h0
        · rw [h1, h0]; simp
        · have : 2 * b ^ d ≤ (c + 1) * b ^ d := Nat.mul_le_mul_right _ (by omega)
          have : 1 ≤ b ^ d := Nat.pow_pos (by omega)
          omega)
      clear hj1
      go_wp2
      go_ret2
      exact ⟨_, false, rfl, .inr ⟨HF.out, rfl, rfl⟩, HBr.out⟩
/-- All goes over something -/
def okA (h d : Int) : Bool := decide (1 ≤ h ∧ h ≤ 16 ∧ 0 ≤ d ∧ d ≤ 24 ∧ h.toNat ^ d.toNat ≤ 1048576)
theorem okA_nat (h d : Nat) (h1 : 1 ≤ h ∧ h ≤ 16) (h2 : d ≤ 24) : okA (h : Int) (d : Int) = decide (h ^ d ≤ 1048576) := by
  unfold okA
  simp only [Int.toNat_natCast]
  congr 1
  simp only [eq_iff_iff]
  constructor
  · exact fun x => x.2.2.2.2
  · exact fun x => ⟨by omega, by omega, by omega, by omega, x⟩
theorem pow_up {h i d : Nat} (h1 : 1 ≤ h) (hi : i ≤ d) : h ^ i ≤ h ^ d := Nat.pow_le_pow_right h1 hi
set_option maxHeartbeats 4000000 in
theorem canAll_any (h d : Int) (w : World) : Calls Try.prog 8 #[.int .i64 h, .int .i64 d] w fun e w' => e = .returned (.bool (okA h d)) ∧ w' = w := by
  by_cases hok : 1 ≤ h ∧ h ≤ 16 ∧ 0 ≤ d ∧ d ≤ 24
  · obtain ⟨a1, a2, a3, a4⟩ := hok
    obtain ⟨H, rfl⟩ : ∃ H : Nat, h = (H : Int) := ⟨h.toNat, by omega⟩
    obtain ⟨D, rfl⟩ : ∃ D : Nat, d = (D : Int) := ⟨d.toNat, by omega⟩
    rw [okA_nat H D (by omega) (by omega)]
    have hh : ¬ (H : Int) < 1 := by omega
    have hh2 : ¬ (16 : Int) < (H : Int) := by omega
    have hd1 : ¬ (D : Int) < 0 := by omega
    have hd2 : ¬ (24 : Int) < (D : Int) := by omega
    have hD1 : 1 ≤ H := by omega
    have hD16 : H ≤ 16 := by omega
    have hD24 : D ≤ 24 := by omega
    go_enter Try.func8, Try.ntmps8
    go_wp2_with fail
    go_loopw [5, 6] (fun s5 s6 wr => ∃ (i n : Nat), i ≤ D ∧ s5 = .int .i64 (n : Int) ∧ s6 = .int .i64 (i : Int) ∧ Hid (n = H ^ i) ∧ n ≤ 1048576 ∧ wr = w) (fun _ s6 _ => D - (intOf s6).toNat)
    case atStart => exact ⟨0, 1, Nat.zero_le _, rfl, rfl, hid rfl, by omega, rfl⟩
    case round =>
      obtain ⟨i, n, hi, h5, h6, HN, hn, hw⟩ := hrel
      subst h5 h6
      replace hw := hw.symm
      subst hw
      by_cases hlt : i < D
      · have hI : (i : Int) < (D : Int) := by omega
        have hdI : decide (i < D) = true := by simp; exact hlt
        have hm : n * H ≤ 16777216 := Nat.le_trans (Nat.mul_le_mul hn hD16) (by omega)
        obtain ⟨m, hmm⟩ : ∃ m, m = n * H := ⟨_, rfl⟩
        have hmi : (n : Int) * (H : Int) = (m : Int) := by rw [hmm]; simp
        have HM := hid (show m = H ^ (i + 1) by rw [hmm, HN.out, Nat.pow_succ])
        rw [← hmm] at hm
        clear hmm
        by_cases hbig : 1048576 < m
        · have hbI : (1048576 : Int) < (m : Int) := by omega
          have HF := hid (show decide (H ^ D ≤ 1048576) = false from decide_eq_false (by have := pow_up (h := H) (i := i + 1) (d := D) hD1 hlt; have := HM.out; omega))
          clear hbig
          go_wp2
          go_ret
          exact ⟨by rw [HF.out]; rfl, rfl⟩
        · have hbI : ¬ (1048576 : Int) < (m : Int) := by omega
          have hmle : m ≤ 1048576 := by omega
          clear hbig
          go_wp2
          go_roundw
          case rel => exact ⟨i + 1, m, by omega, by first | rfl | go_num | simp [hmi], by go_num, HM, hmle, by first | rfl | trivial⟩
          case measure => simp [intOf]; omega
      · have hI : ¬ (i : Int) < (D : Int) := by omega
        have hdI : decide (i < D) = false := by simp; omega
        have hiD : i = D := by omega
        have HF := hid (show decide (H ^ D ≤ 1048576) = true from decide_eq_true (by rw [← hiD, ← HN.out]; exact hn))
        clear hiD hlt
        go_wp2
        go_ret
        exact ⟨by rw [HF.out]; rfl, rfl⟩
  · have HF := hid (show okA h d = false from decide_eq_false fun x => hok ⟨x.1, x.2.1, x.2.2.1, x.2.2.2.1⟩)
    by_cases b1 : h < 1
    · clear hok
      go_enter Try.func8, Try.ntmps8
      go_wp2
      go_ret
      exact ⟨by rw [HF.out]; rfl, rfl⟩
    · by_cases b2 : 16 < h
      · clear hok
        go_enter Try.func8, Try.ntmps8
        go_wp2
        go_ret
        exact ⟨by rw [HF.out]; rfl, rfl⟩
      · by_cases b3 : d < 0
        · clear hok
          go_enter Try.func8, Try.ntmps8
          go_wp2
          go_ret
          exact ⟨by rw [HF.out]; rfl, rfl⟩
        · have b4 : 24 < d := by omega
          clear hok
          go_enter Try.func8, Try.ntmps8
          go_wp2
          go_ret
          exact ⟨by rw [HF.out]; rfl, rfl⟩
end Go.Proofs.Ytjgfmikkbkoimaa
