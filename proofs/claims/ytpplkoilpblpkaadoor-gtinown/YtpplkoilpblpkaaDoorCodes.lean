/-
  Sums of digits from the last on, every second one three times: the plain mathematics. No Go in sight.
-/
namespace Go.Proofs.YtpplkoilpblpkaaDoor

/-- the worth of a byte as a digit, round the byte's end -/
def dv (c : UInt8) : Nat := (c.toNat + 208) % 256

/-- the digit at a place, counted from the end; 0 beyond -/
def dg (l : List UInt8) (i : Nat) : Nat := (l.reverse[i]?.map dv).getD 0

/-- the first n, every second one three times -/
def wsum (f : Nat → Nat) : Nat → Nat
  | 0 => 0
  | i + 1 => wsum f i + (if i % 2 = 1 then 3 * f i else f i)

def sm (l : List UInt8) : Nat := wsum (dg l) l.length

def IsD (c : UInt8) : Prop := 48 ≤ c.toNat ∧ c.toNat ≤ 57
def AllD (l : List UInt8) : Prop := ∀ c ∈ l, IsD c

theorem wsum_congr (f g : Nat → Nat) (n : Nat) (h : ∀ i, i < n → f i = g i) : wsum f n = wsum g n := by
  induction n with
  | zero => rfl
  | succ n ih =>
    unfold wsum
    rw [ih (fun i hi => h i (by omega)), h n (by omega)]

theorem wsum_more (f : Nat → Nat) (n k : Nat) (hz : ∀ i, n ≤ i → f i = 0) : wsum f (n + k) = wsum f n := by
  induction k with
  | zero => rfl
  | succ k ih =>
    show wsum f (n + k) + (if (n + k) % 2 = 1 then 3 * f (n + k) else f (n + k)) = _
    rw [ih, hz (n + k) (by omega)]
    split <;> omega

def wt (i : Nat) : Nat := if i % 2 = 1 then 3 else 1

theorem wt_mul (i x : Nat) : (if i % 2 = 1 then 3 * x else x) = wt i * x := by
  unfold wt
  split <;> omega

theorem wsum_one (f g : Nat → Nat) (n j : Nat) (hj : j < n) (h : ∀ i, i ≠ j → f i = g i) : wsum f n + wt j * g j = wsum g n + wt j * f j := by
  induction n with
  | zero => omega
  | succ n ih =>
    unfold wsum
    rw [wt_mul, wt_mul]
    by_cases e : j = n
    · subst e
      rw [wsum_congr f g j (fun i hi => h i (by omega))]
      omega
    · rw [h n (fun x => e x.symm)]
      have := ih (by omega)
      omega

theorem wsum_swap (f g : Nat → Nat) (n j : Nat) (hj : j + 1 < n) (h : ∀ i, i ≠ j → i ≠ j + 1 → f i = g i) (h1 : g j = f (j + 1)) (h2 : g (j + 1) = f j) :
    wsum f n + wt j * f (j + 1) + wt (j + 1) * f j = wsum g n + wt j * f j + wt (j + 1) * f (j + 1) := by
  have a := wsum_one f (fun i => if i = j then f (j + 1) else f i) n j (by omega) (fun i hi => by simp [hi])
  have b := wsum_one (fun i => if i = j then f (j + 1) else f i) g n (j + 1) (by omega) (fun i hi => by
    by_cases e : i = j
    · subst e; simp [h1]
    · simp [e, h i e hi])
  simp only [if_pos, h2, show j + 1 ≠ j by omega, if_false] at a b
  omega

theorem dg_lt (l : List UInt8) (h : AllD l) (i : Nat) : dg l i < 10 := by
  unfold dg
  cases e : l.reverse[i]? with
  | none => simp
  | some c =>
    have hd := h c (by
      have := List.mem_of_getElem? e
      simpa using this)
    simp only [Option.map_some, Option.getD_some, dv]
    unfold IsD at hd
    omega

theorem dg_beyond (l : List UInt8) (i : Nat) (h : l.length ≤ i) : dg l i = 0 := by
  unfold dg
  rw [List.getElem?_eq_none (by simpa using h)]
  rfl

theorem dg_at (l : List UInt8) (i : Nat) (h : i < l.length) : dg l i = dv (l[l.length - 1 - i]'(by omega)) := by
  unfold dg
  rw [List.getElem?_eq_getElem (by simpa using h)]
  simp [List.getElem_reverse]

theorem dg_snoc_zero (l : List UInt8) (c : UInt8) : dg (l ++ [c]) 0 = dv c := by simp [dg]
theorem dg_snoc_succ (l : List UInt8) (c : UInt8) (i : Nat) : dg (l ++ [c]) (i + 1) = dg l i := by simp [dg]

theorem dg_zero_ahead (l : List UInt8) (i : Nat) : dg (48 :: l) i = dg l i := by
  unfold dg
  rw [List.reverse_cons, List.getElem?_append]
  split
  · rfl
  · next h =>
    rw [List.getElem?_eq_none (l := l.reverse) (by omega)]
    by_cases e : i - l.reverse.length = 0
    · rw [e]; rfl
    · rw [List.getElem?_eq_none (by simp only [List.length_cons, List.length_nil]; omega)]

theorem sm_upto (l : List UInt8) (k : Nat) : wsum (dg l) (l.length + k) = sm l := wsum_more _ _ _ (fun i hi => dg_beyond l i hi)

theorem sm_zero_ahead (l : List UInt8) : sm (48 :: l) = sm l := by
  unfold sm
  rw [show dg (48 :: l) = dg l from funext (dg_zero_ahead l)]
  exact sm_upto l 1

theorem sm_zeros_ahead (k : Nat) (l : List UInt8) : sm (List.replicate k 48 ++ l) = sm l := by
  induction k with
  | zero => rfl
  | succ k ih => rw [List.replicate_succ, List.cons_append, sm_zero_ahead, ih]

/-- another last byte -/
theorem sm_snoc (l : List UInt8) (c d : UInt8) : sm (l ++ [c]) + dv d = sm (l ++ [d]) + dv c := by
  unfold sm
  have h := wsum_one (dg (l ++ [c])) (dg (l ++ [d])) (l.length + 1) 0 (by omega) (fun i hi => by
    cases i with
    | zero => exact absurd rfl hi
    | succ i => rw [dg_snoc_succ, dg_snoc_succ])
  rw [dg_snoc_zero, dg_snoc_zero] at h
  simp only [List.length_append, List.length_cons, List.length_nil, Nat.zero_add]
  have : wt 0 = 1 := rfl
  rw [this] at h
  omega

/-- the check digit -/
def ckN (l : List UInt8) : Nat := (10 - sm (l ++ [48]) % 10) % 10
def ck (l : List UInt8) : UInt8 := UInt8.ofNat (48 + ckN l)
theorem ckN_lt (l : List UInt8) : ckN l < 10 := Nat.mod_lt _ (by omega)
theorem ck_toNat (l : List UInt8) : (ck l).toNat = 48 + ckN l := by
  have := ckN_lt l
  unfold ck
  rw [UInt8.toNat_ofNat']
  omega
theorem ck_digit (l : List UInt8) : IsD (ck l) := by
  have := ckN_lt l
  unfold IsD
  rw [ck_toNat]
  omega
theorem dv_digit (c : UInt8) (h : IsD c) : dv c = c.toNat - 48 := by
  unfold IsD at h
  unfold dv
  omega
theorem dv_ck (l : List UInt8) : dv (ck l) = ckN l := by
  rw [dv_digit _ (ck_digit l), ck_toNat]
  omega

/-- just the check digit makes the sum even -/
theorem sm_ck (l : List UInt8) (d : UInt8) (hd : IsD d) : sm (l ++ [d]) % 10 = 0 ↔ d = ck l := by
  have h := sm_snoc l d 48
  have h48 : dv 48 = 0 := rfl
  have hdd := dv_digit d hd
  have hk := ckN_lt l
  unfold IsD at hd
  constructor
  · intro e
    apply UInt8.toNat_inj.mp
    rw [ck_toNat]
    unfold ckN
    omega
  · intro e
    rw [e] at h ⊢
    rw [dv_ck] at h
    unfold ckN at h
    omega

theorem sm_ck_self (l : List UInt8) : sm (l ++ [ck l]) % 10 = 0 := (sm_ck l _ (ck_digit l)).mpr rfl

/-- one byte replaced -/
theorem dg_set (l : List UInt8) (k : Nat) (hk : k < l.length) (c : UInt8) (i : Nat) : dg (l.set k c) i = if i = l.length - 1 - k then dv c else dg l i := by
  by_cases hi : i < l.length
  · rw [dg_at _ _ (by simpa using hi), dg_at _ _ hi]
    simp only [List.length_set, List.getElem_set]
    by_cases e : i = l.length - 1 - k
    · rw [if_pos e, if_pos (by omega)]
    · rw [if_neg e, if_neg (by omega)]
  · rw [dg_beyond _ _ (by simpa using hi), dg_beyond _ _ (by omega), if_neg (by omega)]

theorem sm_set (l : List UInt8) (k : Nat) (hk : k < l.length) (c : UInt8) :
    sm (l.set k c) + wt (l.length - 1 - k) * dv l[k] = sm l + wt (l.length - 1 - k) * dv c := by
  unfold sm
  have h := wsum_one (dg (l.set k c)) (dg l) l.length (l.length - 1 - k) (by omega) (fun i hi => by rw [dg_set l k hk, if_neg hi])
  rw [dg_set l k hk, if_pos rfl, dg_at l _ (by omega)] at h
  simp only [show l.length - 1 - (l.length - 1 - k) = k by omega] at h
  simpa using h

theorem wt_cases (i : Nat) : wt i = 1 ∧ wt (i + 1) = 3 ∨ wt i = 3 ∧ wt (i + 1) = 1 := by
  unfold wt
  split <;> split <;> omega

theorem sm_set_told (l : List UInt8) (k : Nat) (hk : k < l.length) (c : UInt8) (hs : sm l % 10 = 0) (hd : IsD l[k]) (hc : IsD c) (hne : c ≠ l[k]) : sm (l.set k c) % 10 ≠ 0 := by
  have h := sm_set l k hk c
  rw [dv_digit _ hd, dv_digit _ hc] at h
  have hn : c.toNat ≠ l[k].toNat := fun e => hne (UInt8.toNat_inj.mp e)
  unfold IsD at hd hc
  rcases wt_cases (l.length - 1 - k) with ⟨e, _⟩ | ⟨e, _⟩ <;> rw [e] at h <;> omega

theorem sm_swap (l : List UInt8) (k : Nat) (hk : k + 1 < l.length) (ha : AllD l) (hs : sm l % 10 = 0) :
    sm ((l.set k (l[k + 1]'hk)).set (k + 1) (l[k]'(by omega))) % 10 = 0 ↔ (l[k]'(by omega)).toNat = (l[k + 1]'hk).toNat ∨ (l[k]'(by omega)).toNat = (l[k + 1]'hk).toNat + 5 ∨ (l[k]'(by omega)).toNat + 5 = (l[k + 1]'hk).toNat := by
  have h1 := sm_set l k (by omega) (l[k + 1]'hk)
  have h2 := sm_set (l.set k (l[k + 1]'hk)) (k + 1) (by simpa using hk) (l[k]'(by omega))
  have hg : (l.set k (l[k + 1]'hk))[k + 1]'(by simpa using hk) = l[k + 1]'hk := by simp
  rw [hg] at h2
  simp only [List.length_set] at h2
  have ha1 := ha _ (List.getElem_mem (l := l) (n := k) (by omega))
  have ha2 := ha _ (List.getElem_mem (l := l) (n := k + 1) hk)
  rw [dv_digit _ ha1, dv_digit _ ha2] at h1 h2
  unfold IsD at ha1 ha2
  have hw : l.length - 1 - k = (l.length - 1 - (k + 1)) + 1 := by omega
  rw [hw] at h1
  generalize (l[k]'(by omega)).toNat = x at *
  generalize (l[k + 1]'hk).toNat = y at *
  rcases wt_cases (l.length - 1 - (k + 1)) with ⟨e, e2⟩ | ⟨e, e2⟩ <;> rw [e2] at h1 <;> rw [e] at h2 <;> omega

end Go.Proofs.YtpplkoilpblpkaaDoor
