/-
  Years, months, days, weeks and their numbers: the plain mathematics. No Go in sight.
-/
namespace Go.Proofs.YtjmainmidacmfaaDoor

/-- the number of a year's first day -/
def ys (y : Int) : Int := 365 * y + (y + 3) / 4 - (y + 99) / 100 + (y + 399) / 400

abbrev Lp (y : Int) : Prop := y % 4 = 0 ∧ (y % 100 ≠ 0 ∨ y % 400 = 0)

/-- a leap year's one day more -/
def lpN (y : Int) : Int := if Lp y then 1 else 0

theorem lpN_cases (y : Int) : (lpN y = 0 ∧ ¬ Lp y) ∨ (lpN y = 1 ∧ Lp y) := by
  unfold lpN
  split
  · exact .inr ⟨rfl, by assumption⟩
  · exact .inl ⟨rfl, by assumption⟩

theorem ys_next (y : Int) : ys (y + 1) = ys y + 365 + lpN y := by
  have h := lpN_cases y
  unfold Lp at h
  unfold ys
  omega

theorem ys_mono (a b : Int) (h : a < b) : ys a + 365 ≤ ys (a + 1) ∧ ys (a + 1) ≤ ys b := by
  constructor
  · rw [ys_next]; have := lpN_cases a; omega
  · unfold ys; omega

theorem ys_le (a b : Int) (h : a ≤ b) : ys a ≤ ys b := by unfold ys; omega
theorem ys_uniq (a b t : Int) (h1 : ys a ≤ t) (h2 : t < ys (a + 1)) (h3 : ys b ≤ t) (h4 : t < ys (b + 1)) : a = b := by
  have := ys_le (a + 1) b
  have := ys_le (b + 1) a
  omega
theorem ys_bounds (y : Int) (h : -2 ≤ y) (h2 : y ≤ 10001) : -800 ≤ ys y ∧ ys y ≤ 3653000 := by unfold ys; omega

/-- the days of a common year ahead of a month -/
def tab (m : Int) : Int :=
  if m = 1 then 0 else if m = 2 then 31 else if m = 3 then 59 else if m = 4 then 90 else if m = 5 then 120 else if m = 6 then 151 else if m = 7 then 181
  else if m = 8 then 212 else if m = 9 then 243 else if m = 10 then 273 else if m = 11 then 304 else if m = 12 then 334 else 365

/-- .. with the leap day -/
def ms (y m : Int) : Int := tab m + (if 2 < m then lpN y else 0)
def md (y m : Int) : Int := ms y (m + 1) - ms y m

theorem months (m : Int) (h1 : 1 ≤ m) (h2 : m ≤ 12) : m = 1 ∨ m = 2 ∨ m = 3 ∨ m = 4 ∨ m = 5 ∨ m = 6 ∨ m = 7 ∨ m = 8 ∨ m = 9 ∨ m = 10 ∨ m = 11 ∨ m = 12 := by omega

/-- as the document says it -/
def lg (y m : Int) : Int := if m = 4 ∨ m = 6 ∨ m = 9 ∨ m = 11 then 30 else if m = 2 then 28 + lpN y else 31

theorem md_lg (y m : Int) (h1 : 1 ≤ m) (h2 : m ≤ 12) : md y m = lg y m := by
  unfold md ms lg
  rcases months m h1 h2 with rfl | rfl | rfl | rfl | rfl | rfl | rfl | rfl | rfl | rfl | rfl | rfl <;> simp [tab] <;> omega

theorem lg_le (y m : Int) : 28 ≤ lg y m ∧ lg y m ≤ 31 := by
  unfold lg
  have := lpN_cases y
  repeat' split
  all_goals omega

theorem ms_step (y m : Int) (h1 : 1 ≤ m) (h2 : m ≤ 12) : ms y m + lg y m = ms y (m + 1) := by
  have := md_lg y m h1 h2
  unfold md at this
  omega
theorem ms_one (y : Int) : ms y 1 = 0 := by simp [ms, tab]
theorem ms_13 (y : Int) : ms y 13 = 365 + lpN y := by simp [ms, tab]
theorem ms_le (y a b : Int) (h0 : 1 ≤ a) (h : a ≤ b) (hb : b ≤ 13) : ms y a ≤ ms y b := by
  obtain ⟨k, hk⟩ : ∃ k : Nat, b = a + k := ⟨(b - a).toNat, by omega⟩
  subst hk
  induction k with
  | zero => simp
  | succ k ih =>
    have h3 := ms_step y (a + k) (by omega) (by omega)
    have h4 := lg_le y (a + k)
    have h5 := ih (by omega) (by omega)
    rw [show a + ((k + 1 : Nat) : Int) = a + k + 1 by omega]
    omega
theorem ms_long (y m : Int) (h0 : 1 ≤ m) (h : m ≤ 13) : ms y m ≤ 31 * (m - 1) ∧ 0 ≤ ms y m ∧ ms y m ≤ 366 := by
  have hl := lpN_cases y
  unfold ms
  by_cases e : m = 13
  · subst e; simp [tab]; omega
  · rcases months m h0 (by omega) with rfl | rfl | rfl | rfl | rfl | rfl | rfl | rfl | rfl | rfl | rfl | rfl <;> simp [tab] <;> omega

/-- a day -/
abbrev VD (y m d : Int) : Prop := 0 ≤ y ∧ y ≤ 9999 ∧ 1 ≤ m ∧ m ≤ 12 ∧ 1 ≤ d ∧ d ≤ lg y m
def nb (y m d : Int) : Int := ys y + ms y m + d - 1

theorem ys_zero : ys 0 = 0 := by decide
theorem ys_10000 : ys 10000 = 3652425 := by decide

theorem nb_year (y m d : Int) (h : VD y m d) : ys y ≤ nb y m d ∧ nb y m d < ys (y + 1) := by
  obtain ⟨_, _, h1, h2, h3, h4⟩ := h
  have a := ms_long y m h1 (by omega)
  have b := ms_step y m h1 h2
  have c := ms_le y (m + 1) 13 (by omega) (by omega) (by omega)
  rw [ms_13] at c
  rw [ys_next]
  unfold nb
  omega

theorem nb_range (y m d : Int) (h : VD y m d) : 0 ≤ nb y m d ∧ nb y m d ≤ 3652424 := by
  have h1 := nb_year y m d h
  have h2 := ys_le 0 y h.1
  have h3 := ys_le (y + 1) 10000 (by have := h.2.1; omega)
  rw [ys_zero] at h2
  rw [ys_10000] at h3
  omega

/-- a day has one number, and a number one day -/
theorem nb_uniq (y m d y' m' d' : Int) (h : VD y m d) (h' : VD y' m' d') (e : nb y m d = nb y' m' d') : y = y' ∧ m = m' ∧ d = d' := by
  have a := nb_year y m d h
  have b := nb_year y' m' d' h'
  have hy : y = y' := ys_uniq y y' (nb y m d) a.1 a.2 (by omega) (by omega)
  subst hy
  obtain ⟨_, _, h1, h2, h3, h4⟩ := h
  obtain ⟨_, _, k1, k2, k3, k4⟩ := h'
  have s1 := ms_step y m h1 h2
  have s2 := ms_step y m' k1 k2
  have hm : m = m' := by
    have l1 := fun x => ms_le y (m + 1) m' (by omega) x (by omega)
    have l2 := fun x => ms_le y (m' + 1) m (by omega) x (by omega)
    unfold nb at e
    omega
  subst hm
  unfold nb at e
  exact ⟨rfl, rfl, by omega⟩

/-- the day behind a day -/
theorem nb_succ (y m d : Int) (h : VD y m d) :
    (d < lg y m ∧ VD y m (d + 1) ∧ nb y m (d + 1) = nb y m d + 1) ∨
    (d = lg y m ∧ m < 12 ∧ VD y (m + 1) 1 ∧ nb y (m + 1) 1 = nb y m d + 1) ∨
    (d = lg y m ∧ m = 12 ∧ y < 9999 ∧ VD (y + 1) 1 1 ∧ nb (y + 1) 1 1 = nb y m d + 1) ∨ (y = 9999 ∧ m = 12 ∧ d = 31) := by
  obtain ⟨h1, h2, h3, h4, h5, h6⟩ := h
  by_cases hd : d < lg y m
  · exact .inl ⟨hd, ⟨h1, h2, h3, h4, by omega, by omega⟩, by unfold nb; omega⟩
  · have hs := ms_step y m h3 h4
    by_cases hm : m < 12
    · have := lg_le y (m + 1)
      exact .inr (.inl ⟨by omega, hm, ⟨h1, h2, by omega, by omega, by omega, by omega⟩, by unfold nb; omega⟩)
    · have hm12 : m = 12 := by omega
      subst hm12
      have h13 := ms_13 y
      have h1m := ms_one (y + 1)
      have hn := ys_next y
      have hl : lg y 12 = 31 := by simp [lg]
      have hs' : ms y 12 + lg y 12 = ms y 13 := hs
      by_cases hy : y < 9999
      · have hl1 : lg (y + 1) 1 = 31 := by simp [lg]
        exact .inr (.inr (.inl ⟨by omega, rfl, hy, ⟨by omega, by omega, by omega, by omega, by omega, by omega⟩, by unfold nb; omega⟩))
      · exact .inr (.inr (.inr ⟨by omega, rfl, by omega⟩))

/-- the day behind a day -/
def nx (x : Int × Int × Int) : Int × Int × Int := if x.2.2 < lg x.1 x.2.1 then (x.1, x.2.1, x.2.2 + 1) else if x.2.1 < 12 then (x.1, x.2.1 + 1, 1) else (x.1 + 1, 1, 1)
def dtN : Nat → Int × Int × Int
  | 0 => (0, 1, 1)
  | k + 1 => nx (dtN k)

theorem dtN_is (n : Nat) (h : n ≤ 3652424) : VD (dtN n).1 (dtN n).2.1 (dtN n).2.2 ∧ nb (dtN n).1 (dtN n).2.1 (dtN n).2.2 = n := by
  induction n with
  | zero => exact ⟨by decide, by decide⟩
  | succ n ih =>
    obtain ⟨hv, hn⟩ := ih (by omega)
    have hs : dtN (n + 1) = nx (dtN n) := rfl
    rw [hs]
    generalize dtN n = x at *
    obtain ⟨y, m, d⟩ := x
    have hl := lg_le y m
    rcases nb_succ y m d hv with ⟨c, a, b⟩ | ⟨c, c2, a, b⟩ | ⟨c, c2, c3, a, b⟩ | ⟨rfl, rfl, rfl⟩
    · have e : nx (y, m, d) = (y, m, d + 1) := by unfold nx; rw [if_pos c]
      rw [e]
      exact ⟨a, by show nb y m (d + 1) = _; have hn' : nb y m d = n := hn; omega⟩
    · have e : nx (y, m, d) = (y, m + 1, 1) := by unfold nx; rw [if_neg (by show ¬ d < lg y m; omega), if_pos c2]
      rw [e]
      exact ⟨a, by show nb y (m + 1) 1 = _; have hn' : nb y m d = n := hn; omega⟩
    · have e : nx (y, m, d) = (y + 1, 1, 1) := by unfold nx; rw [if_neg (by show ¬ d < lg y m; omega), if_neg (by show ¬ m < 12; omega)]
      rw [e]
      exact ⟨a, by show nb (y + 1) 1 1 = _; have hn' : nb y m d = n := hn; omega⟩
    · have e : nb 9999 12 31 = 3652424 := by decide
      have hn' : nb 9999 12 31 = n := hn
      omega

/-- the day of a number -/
def dt (n : Int) : Int × Int × Int := dtN n.toNat
def dY (n : Int) : Int := (dt n).1
def dM (n : Int) : Int := (dt n).2.1
def dD (n : Int) : Int := (dt n).2.2

theorem dt_is (n : Int) (h : 0 ≤ n ∧ n ≤ 3652424) : VD (dY n) (dM n) (dD n) ∧ nb (dY n) (dM n) (dD n) = n := by
  have e := dtN_is n.toNat (by omega)
  have hn : ((n.toNat : Nat) : Int) = n := by omega
  rw [hn] at e
  exact e

theorem dt_eq (y m d n : Int) (h : VD y m d) (e : nb y m d = n) : y = dY n ∧ m = dM n ∧ d = dD n := by
  have hr := nb_range y m d h
  have hd := dt_is n (by omega)
  exact nb_uniq _ _ _ _ _ _ h hd.1 (by omega)

/-- the day of the week, 0 Monday -/
def wd (n : Int) : Int := (n + 5) % 7
theorem wd_lt (n : Int) : 0 ≤ wd n ∧ wd n < 7 := by unfold wd; omega

/-- the Monday of a year's first week -/
def wkS (y : Int) : Int := ys y + 3 - wd (ys y + 3)
def wkN (y : Int) : Int := (wkS (y + 1) - wkS y) / 7

/-- the Thursday beside a day -/
def thu (n : Int) : Int := n - wd n + 3

/-- the week's year, if y is the day's -/
def wkY (y n : Int) : Int := if thu n < ys y then y - 1 else if ys (y + 1) ≤ thu n then y + 1 else y

theorem wkY_is (y n : Int) (h1 : ys y ≤ n) (h2 : n < ys (y + 1)) : ys (wkY y n) ≤ thu n ∧ thu n < ys (wkY y n + 1) := by
  have a := ys_mono (y - 1) y (by omega)
  have b := ys_mono (y + 1) (y + 2) (by omega)
  have e : y - 1 + 1 = y := by omega
  have e2 : y + 1 + 1 = y + 2 := by omega
  have hw := wd_lt n
  have ht : thu n = n - wd n + 3 := rfl
  unfold wkY
  split
  · rw [e] at a ⊢; omega
  · split
    · rw [e2] at *; omega
    · omega

theorem wkY_eq (y y' n : Int) (h1 : ys y ≤ n) (h2 : n < ys (y + 1)) (h3 : ys y' ≤ thu n) (h4 : thu n < ys (y' + 1)) : y' = wkY y n := by
  have := wkY_is y n h1 h2
  exact ys_uniq _ _ (thu n) h3 h4 this.1 this.2

theorem wkS_mod (y : Int) : (wkS y + 5) % 7 = 0 := by unfold wkS wd; omega

/-- the week's number, both ways of counting -/
theorem wk_num (y n : Int) : (thu n - ys y) / 7 = (n - wkS y) / 7 := by
  unfold thu wkS wd at *
  omega

theorem wkS_near (y : Int) : ys y - 3 ≤ wkS y ∧ wkS y ≤ ys y + 3 := by unfold wkS wd; omega

theorem wkN_is (y : Int) : wkS (y + 1) = wkS y + 7 * wkN y ∧ (wkN y = 52 ∨ wkN y = 53) := by
  have a := wkS_mod y
  have b := wkS_mod (y + 1)
  have c := wkS_near y
  have d := wkS_near (y + 1)
  have e := ys_next y
  have f := lpN_cases y
  have g : wkS y = ys y + 3 - wd (ys y + 3) := rfl
  have g' : wkS (y + 1) = ys (y + 1) + 3 - wd (ys (y + 1) + 3) := rfl
  unfold wd at g g'
  unfold wkN
  omega

/-- a day lies in its week -/
theorem wk_in (y n : Int) (h1 : ys y ≤ thu n) (h2 : thu n < ys (y + 1)) : 0 ≤ (n - wkS y) / 7 ∧ (n - wkS y) / 7 < wkN y ∧ n = wkS y + 7 * ((n - wkS y) / 7) + wd n := by
  have a := wkS_mod y
  have b := wkN_is y
  have g : wkS y = ys y + 3 - wd (ys y + 3) := rfl
  have g' : wkS (y + 1) = ys (y + 1) + 3 - wd (ys (y + 1) + 3) := rfl
  unfold thu at h1 h2
  unfold wd at *
  omega
end Go.Proofs.YtjmainmidacmfaaDoor
