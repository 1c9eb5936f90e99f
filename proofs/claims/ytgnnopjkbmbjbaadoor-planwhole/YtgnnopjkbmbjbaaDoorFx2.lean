/-
  Floats, pure: what the nearest word stands for; bounds, exactness, order.
-/
import Derived.Test.YtgnnopjkbmbjbaaDoorFx1
namespace Go.Proofs.YtgnnopjkbmbjbaaDoor
open Go.RowKit
set_option maxRecDepth 100000
set_option linter.unusedSimpArgs false

/-- b is finite, of this sign, and of this size in units of 2 ^ -1074 -/
def FV (b : Nat) (s : Bool) (v : Nat) : Prop := ∃ m e, rdF b = .number s m e ∧ -1074 ≤ e ∧ sc m e (-1074) = v
theorem word_val (s : Bool) (a k : Nat) (hk : k ≤ 9007199254740992) (hl : 0 < a → 4503599627370496 ≤ k) (hr : a * 4503599627370496 + k < 9218868437227405312) : FV (dbl.word s (a * 4503599627370496 + k)) s (k * 2 ^ a) := by
  have hb : dbl.binade = 4503599627370496 := by decide +kernel
  have hi : dbl.infRung = 9218868437227405312 := by decide +kernel
  have hs : dbl.signWeight = 9223372036854775808 := by decide +kernel
  have hlp : dbl.leastPlace = -1074 := by decide +kernel
  generalize hrq : a * 4503599627370496 + k = r at *
  have e1 : dbl.word s r % 9223372036854775808 = r := by unfold Ieee.Format.word; rw [hs]; cases s <;> simp <;> omega
  have e2 : (dbl.word s r / 9223372036854775808 % 2 == 1) = s := by unfold Ieee.Format.word; rw [hs]; cases s <;> simp <;> omega
  unfold FV rdF Ieee.Format.read
  simp only [hb, hi, hs, e1, e2, hlp]
  by_cases h1 : r < 4503599627370496
  · rw [if_pos h1]
    refine ⟨_, _, rfl, by omega, ?_⟩
    obtain rfl : a = 0 := by
      rcases Nat.eq_zero_or_pos a with h | h
      · exact h
      · omega
    unfold sc
    simp
    omega
  · rw [if_neg h1, if_pos hr]
    refine ⟨_, _, rfl, by omega, ?_⟩
    unfold sc
    by_cases h2 : k = 9007199254740992
    · have d1 : r / 4503599627370496 = a + 2 := by omega
      have d2 : r % 4503599627370496 = 0 := by omega
      rw [d1, d2, h2]
      have e3 : (-1074 + ((a + 2 - 1 : Nat) : Int) - -1074).toNat = a + 1 := by omega
      rw [e3, Nat.pow_succ]
      omega
    · have d1 : r / 4503599627370496 = a + 1 := by
        rcases Nat.eq_zero_or_pos a with h | h
        · omega
        · have := hl h; omega
      have d2 : 4503599627370496 + r % 4503599627370496 = k := by
        rcases Nat.eq_zero_or_pos a with h | h
        · omega
        · have := hl h; omega
      rw [d1, d2]
      have e3 : (-1074 + ((a + 1 - 1 : Nat) : Int) - -1074).toNat = a := by omega
      rw [e3]
theorem nearest_kep (s : Bool) {m : Nat} (hm : m ≠ 0) (i : Int) : dbl.nearest s m i = dbl.word s (min ((lastP m i + 1074).toNat * 4503599627370496 + kep m i) 9218868437227405312) := by
  have hb : dbl.binade = 4503599627370496 := by decide +kernel
  have hi : dbl.infRung = 9218868437227405312 := by decide +kernel
  have hlp : dbl.leastPlace = -1074 := by decide +kernel
  have hf : dbl.fractionBits = 52 := by decide +kernel
  unfold Ieee.Format.nearest
  rw [if_neg hm]
  simp only [hb, hi, hlp, cut_even, hf]
  have e : max (i + (m.log2 : Int) - ((52 : Nat) : Int)) (-1074) = lastP m i := rfl
  rw [e]
  unfold kep
  have e2 : lastP m i - -1074 = lastP m i + 1074 := by omega
  rw [e2]
/-- not above a number that the format has -/
theorem near_le (s : Bool) {m c : Nat} {i q b : Int} (hc : c < 9007199254740992) (hq : -1074 ≤ q) (hq2 : q ≤ 900) (hbi : b ≤ i) (hbq : b ≤ q) (hbl : b ≤ -1074) (h : sc m i b ≤ sc c q b) :
    ∃ v, FV (dbl.nearest s m i) s v ∧ v ≤ sc c q (-1074) ∧ (m ≠ 0 → (lastP m i + 1074).toNat * 4503599627370496 + kep m i < 9218868437227405312) := by
  by_cases hm : m = 0
  · subst hm
    refine ⟨0, ?_, Nat.zero_le _, fun h => absurd rfl h⟩
    have e0 : dbl.nearest s 0 i = dbl.word s 0 := by unfold Ieee.Format.nearest; rw [if_pos rfl]
    have hw := word_val s 0 0 (by omega) (fun h => absurd h (Nat.lt_irrefl 0)) (by rw [Nat.zero_mul, Nat.zero_add]; decide)
    simp only [Nat.zero_mul, Nat.zero_add] at hw
    rw [e0]
    exact hw
  have hl0 : -1074 ≤ lastP m i := by unfold lastP; omega
  have hlq : lastP m i ≤ q := by
    rcases Int.lt_or_le q (lastP m i) with hlt | hle
    · exfalso
      have hl2 : lastP m i = i + m.log2 - 52 := by unfold lastP at hlt hl0 ⊢; omega
      have hn : 2 ^ m.log2 ≤ m := Nat.log2_self_le hm
      have h1 : 2 ^ (m.log2 + (i - b).toNat) ≤ sc m i b := by unfold sc; rw [Nat.pow_add]; exact Nat.mul_le_mul_right _ hn
      have h2 : sc c q b < 2 ^ (53 + (q - b).toNat) := by
        unfold sc
        rw [Nat.pow_add]
        have h6 : (2 : Nat) ^ 53 = 9007199254740992 := by decide
        rw [h6]
        exact (Nat.mul_lt_mul_right (two_pos _)).2 hc
      have h3 : 2 ^ (m.log2 + (i - b).toNat) < 2 ^ (53 + (q - b).toNat) := by omega
      have h4 := (Nat.pow_lt_pow_iff_right (by omega : 1 < 2)).1 h3
      omega
    · exact hle
  have hk : kep m i ≤ c * 2 ^ (q - lastP m i).toNat := by
    rw [kep_sc hbi (show b ≤ lastP m i by omega)]
    apply rnd_le
    refine Nat.le_trans h ?_
    unfold sc
    rw [Nat.mul_assoc, ← Nat.pow_add]
    have : (q - b).toNat = (q - lastP m i).toNat + (lastP m i - b).toNat := by omega
    rw [this]
    exact Nat.le_refl _
  have hkh := kep_hi m i
  obtain ⟨a, ha⟩ : ∃ a : Nat, lastP m i = a - 1074 := ⟨(lastP m i + 1074).toNat, by omega⟩
  have ha2 : (lastP m i + 1074).toNat = a := by omega
  have hra : a * 4503599627370496 + kep m i < 9218868437227405312 := by omega
  refine ⟨kep m i * 2 ^ a, ?_, ?_, fun _ => by rw [ha2]; exact hra⟩
  · rw [nearest_kep s hm, ha2, Nat.min_eq_left (by omega)]
    exact word_val s a _ hkh (fun h0 => kep_lo hm (by omega)) hra
  · unfold sc
    have : (q - -1074).toNat = (q - lastP m i).toNat + a := by omega
    rw [this, Nat.pow_add, ← Nat.mul_assoc]
    exact Nat.mul_le_mul_right _ hk
/-- not below a number that the format has -/
theorem near_ge (s : Bool) {m c v : Nat} {i q b : Int} (hc : c < 9007199254740992) (hq : -1074 ≤ q) (hbi : b ≤ i) (hbq : b ≤ q) (hbl : b ≤ -1074) (h : sc c q b ≤ sc m i b) (hv : FV (dbl.nearest s m i) s v) (hlt0 : m ≠ 0 → (lastP m i + 1074).toNat * 4503599627370496 + kep m i < 9218868437227405312) :
    sc c q (-1074) ≤ v := by
  by_cases hm : m = 0
  · subst hm
    have h0 : sc 0 i b = 0 := by unfold sc; simp
    rw [h0] at h
    have hc0 : c = 0 := by
      unfold sc at h
      have := two_pos (q - b).toNat
      rcases Nat.eq_zero_or_pos c with hh | hh
      · exact hh
      · have := Nat.mul_pos hh this; omega
    subst hc0
    unfold sc
    simp
  have hlt := hlt0 hm
  have hl0 : -1074 ≤ lastP m i := by unfold lastP; omega
  have hkh := kep_hi m i
  obtain ⟨a, ha⟩ : ∃ a : Nat, lastP m i = a - 1074 := ⟨(lastP m i + 1074).toNat, by omega⟩
  have ha2 : (lastP m i + 1074).toNat = a := by omega
  rw [ha2] at hlt
  have hw : FV (dbl.nearest s m i) s (kep m i * 2 ^ a) := by
    rw [nearest_kep s hm, ha2, Nat.min_eq_left (by omega)]
    exact word_val s a _ hkh (fun h0 => kep_lo hm (by omega)) hlt
  have ev : v = kep m i * 2 ^ a := by
    obtain ⟨m1, e1, r1, _, rfl⟩ := hv
    obtain ⟨m2, e2, r2, _, h2⟩ := hw
    rw [r1] at r2
    cases r2
    exact h2
  rw [ev]
  rcases Int.le_total (lastP m i) q with hlq | hql
  · have hk : c * 2 ^ (q - lastP m i).toNat ≤ kep m i := by
      rw [kep_sc hbi (show b ≤ lastP m i by omega)]
      apply rnd_ge
      refine Nat.le_trans ?_ h
      unfold sc
      rw [Nat.mul_assoc, ← Nat.pow_add]
      have : (q - b).toNat = (q - lastP m i).toNat + (lastP m i - b).toNat := by omega
      rw [this]
      exact Nat.le_refl _
    unfold sc
    have : (q - -1074).toNat = (q - lastP m i).toNat + a := by omega
    rw [this, Nat.pow_add, ← Nat.mul_assoc]
    exact Nat.mul_le_mul_right _ hk
  · rcases Int.lt_or_eq_of_le hql with hlt2 | heq
    · have hk := kep_lo hm (show -1074 < lastP m i by omega)
      unfold sc
      have h1 : c * 2 ^ (q - -1074).toNat ≤ 9007199254740992 * 2 ^ (q - -1074).toNat := Nat.mul_le_mul_right _ (by omega)
      have h2 : 4503599627370496 * 2 ^ a ≤ kep m i * 2 ^ a := Nat.mul_le_mul_right _ hk
      have h3 : 9007199254740992 * 2 ^ (q - -1074).toNat ≤ 4503599627370496 * 2 ^ a := by
        have : 9007199254740992 * 2 ^ (q - -1074).toNat = 4503599627370496 * 2 ^ ((q - -1074).toNat + 1) := by rw [Nat.pow_succ]; omega
        rw [this]
        exact Nat.mul_le_mul_left _ (Nat.pow_le_pow_right (by omega) (by omega))
      omega
    · have hk : c * 2 ^ (q - lastP m i).toNat ≤ kep m i := by
        rw [kep_sc hbi (show b ≤ lastP m i by omega)]
        apply rnd_ge
        refine Nat.le_trans ?_ h
        unfold sc
        rw [Nat.mul_assoc, ← Nat.pow_add]
        have : (q - b).toNat = (q - lastP m i).toNat + (lastP m i - b).toNat := by omega
        rw [this]
        exact Nat.le_refl _
      unfold sc
      have : (q - -1074).toNat = (q - lastP m i).toNat + a := by omega
      rw [this, Nat.pow_add, ← Nat.mul_assoc]
      exact Nat.mul_le_mul_right _ hk
theorem FV.same {b : Nat} {s s' : Bool} {v v' : Nat} (h : FV b s v) (h' : FV b s' v') : s = s' ∧ v = v' := by
  obtain ⟨m, e, r, _, rfl⟩ := h
  obtain ⟨m', e', r', _, rfl⟩ := h'
  rw [r] at r'
  cases r'
  exact ⟨rfl, rfl⟩
/-- a number that the format has is hit -/
theorem near_eq (s : Bool) {m c : Nat} {i q b : Int} (hc : c < 9007199254740992) (hq : -1074 ≤ q) (hq2 : q ≤ 900) (hbi : b ≤ i) (hbq : b ≤ q) (hbl : b ≤ -1074) (h : sc m i b = sc c q b) : FV (dbl.nearest s m i) s (sc c q (-1074)) := by
  obtain ⟨v, hv, hle, hlt⟩ := near_le s hc hq hq2 hbi hbq hbl (Nat.le_of_eq h)
  have hge := near_ge s hc hq hbi hbq hbl (Nat.le_of_eq h.symm) hv hlt
  have : v = sc c q (-1074) := by omega
  rw [← this]
  exact hv
/-- what is greater is not rounded below -/
theorem near_mono {s s' : Bool} {m m' v v' : Nat} {i i' b : Int} (hbi : b ≤ i) (hbi' : b ≤ i') (hbl : b ≤ -1074) (h : sc m i b ≤ sc m' i' b) (hv : FV (dbl.nearest s m i) s v) (hv' : FV (dbl.nearest s' m' i') s' v')
    (hlt0 : m ≠ 0 → (lastP m i + 1074).toNat * 4503599627370496 + kep m i < 9218868437227405312) (hlt0' : m' ≠ 0 → (lastP m' i' + 1074).toNat * 4503599627370496 + kep m' i' < 9218868437227405312) : v ≤ v' := by
  by_cases hm : m = 0
  · subst hm
    have e0 : dbl.nearest s 0 i = dbl.word s 0 := by unfold Ieee.Format.nearest; rw [if_pos rfl]
    have hw := word_val s 0 0 (by omega) (fun h => absurd h (Nat.lt_irrefl 0)) (by rw [Nat.zero_mul, Nat.zero_add]; decide)
    simp only [Nat.zero_mul, Nat.zero_add] at hw
    rw [e0] at hv
    rw [(hv.same hw).2]
    exact Nat.zero_le _
  have hm' : m' ≠ 0 := by
    intro h0
    subst h0
    have e1 : sc 0 i' b = 0 := by unfold sc; simp
    rw [e1] at h
    unfold sc at h
    have := Nat.mul_pos (Nat.pos_of_ne_zero hm) (two_pos (i - b).toNat)
    omega
  have val : ∀ {s : Bool} {m v : Nat} {i : Int}, m ≠ 0 → FV (dbl.nearest s m i) s v → (lastP m i + 1074).toNat * 4503599627370496 + kep m i < 9218868437227405312 → v = kep m i * 2 ^ (lastP m i + 1074).toNat := by
    intro s m v i hm hv hlt
    have hw : FV (dbl.nearest s m i) s (kep m i * 2 ^ (lastP m i + 1074).toNat) := by
      rw [nearest_kep s hm, Nat.min_eq_left (by omega)]
      exact word_val s _ _ (kep_hi m i) (fun h0 => kep_lo hm (by omega)) hlt
    exact (hv.same hw).2
  rw [val hm hv (hlt0 hm), val hm' hv' (hlt0' hm')]
  have hlog : i + m.log2 ≤ i' + m'.log2 := by
    have h1 : 2 ^ (m.log2 + (i - b).toNat) ≤ sc m i b := by unfold sc; rw [Nat.pow_add]; exact Nat.mul_le_mul_right _ (Nat.log2_self_le hm)
    have h2 : sc m' i' b < 2 ^ (m'.log2 + 1 + (i' - b).toNat) := by unfold sc; rw [Nat.pow_add 2 (m'.log2 + 1)]; exact (Nat.mul_lt_mul_right (two_pos _)).2 Nat.lt_log2_self
    have h3 : 2 ^ (m.log2 + (i - b).toNat) < 2 ^ (m'.log2 + 1 + (i' - b).toNat) := by omega
    have h4 := (Nat.pow_lt_pow_iff_right (by omega : 1 < 2)).1 h3
    omega
  have hl : lastP m i ≤ lastP m' i' := by unfold lastP; omega
  have hl0 : -1074 ≤ lastP m i := by unfold lastP; omega
  rcases Int.lt_or_eq_of_le hl with hlt | heq
  · have hk := kep_lo hm' (show -1074 < lastP m' i' by omega)
    have hk2 := kep_hi m i
    have a1 : kep m i * 2 ^ (lastP m i + 1074).toNat ≤ 9007199254740992 * 2 ^ (lastP m i + 1074).toNat := Nat.mul_le_mul_right _ hk2
    have a2 : 4503599627370496 * 2 ^ (lastP m' i' + 1074).toNat ≤ kep m' i' * 2 ^ (lastP m' i' + 1074).toNat := Nat.mul_le_mul_right _ hk
    have a3 : 9007199254740992 * 2 ^ (lastP m i + 1074).toNat ≤ 4503599627370496 * 2 ^ (lastP m' i' + 1074).toNat := by
      have : 9007199254740992 * 2 ^ (lastP m i + 1074).toNat = 4503599627370496 * 2 ^ ((lastP m i + 1074).toNat + 1) := by rw [Nat.pow_succ]; omega
      rw [this]
      exact Nat.mul_le_mul_left _ (Nat.pow_le_pow_right (by omega) (by omega))
    omega
  · rw [heq]
    apply Nat.mul_le_mul_right
    rw [kep_sc hbi (show b ≤ lastP m i by omega), kep_sc hbi' (show b ≤ lastP m' i' by omega), heq]
    exact rnd_mono h
end Go.Proofs.YtgnnopjkbmbjbaaDoor
