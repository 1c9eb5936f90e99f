/-
  VCal: Years, months, days, weeks and their numbers: the plain mathematics. No Go in sight.
  VCfn: The program's own days: isLeap, yearStart, monthStart, monthDays, weekday.
  VReach: How far a text stands as a shape begins: reach, and the document's agrees.
  VDgs: Digits and the numbers that they spell; shapes; parts: lists alone.
  VReach2: How far a text stands as a shape begins: reach, and the document's agrees.
  VFit: The shape that a text has: fit, and the document's shaped; the document's num.
  VShap: The six shapes of a date, and what a text that has one of them holds where.
  VRefused: The parts of a text asked in turn: refused.
-/
import Derived.Test.YtmgfdnccmeahjaaGreatDoorRows
import Derived.Lib.LaidTab
import Derived.WalkKit
import Derived.ProofKit
import Derived.OpenShut
import Derived.Below
import Derived.BigQuiet
import Derived.Handy
import Derived.Lib.Builder
import Derived.Lib.BufferMore
import Derived.Laws.Rows
import Derived.WalkSmall
import Derived.Deep.RegionHeld
import Derived.Deep.DrawnRows
import Derived.Deep.CutRange
import Derived.Deep.RegionWith
import Derived.Lib.Atoi
import Derived.Test.YtmgfdnccmeahjaaGreatDoorShelf
import Derived.Shelf.Abstract
import Derived.Laws.EntriesVeiled
import Derived.Lib.SmallJoins
namespace Go.Proofs.YtmgfdnccmeahjaaGreatDoor

/-- the number of a year's first day -/
def ys (y : Int) : Int := 365 * y + (y + 3) / 4 - (y + 99) / 100 + (y + 399) / 400

abbrev Lp (y : Int) : Prop := y % 4 = 0 ∧ (y % 100 ≠ 0 ∨ y % 400 = 0)

/-- a leap year's one day more -/
def lpN (y : Int) : Int := if Lp y then 1 else 0

theorem lpN_cases (y : Int) : (lpN y = 0 ∧ ¬ Lp y) ∨ (lpN y = 1 ∧ Lp y) := by
  unfold lpN
  split
  · exact .inr ⟨rfl, by assumption⟩
  · exact .inl ⟨rfl, by assumption⟩

theorem ys_next (y : Int) : ys (y + 1) = ys y + 365 + lpN y := by
  have h := lpN_cases y
  unfold Lp at h
  unfold ys
  omega

theorem ys_le (a b : Int) (h : a ≤ b) : ys a ≤ ys b := by unfold ys; omega
theorem ys_uniq (a b t : Int) (h1 : ys a ≤ t) (h2 : t < ys (a + 1)) (h3 : ys b ≤ t) (h4 : t < ys (b + 1)) : a = b := by
  have := ys_le (a + 1) b
  have := ys_le (b + 1) a
  omega
theorem ys_bounds (y : Int) (h : -2 ≤ y) (h2 : y ≤ 10001) : -800 ≤ ys y ∧ ys y ≤ 3653000 := by unfold ys; omega

/-- the days of a common year ahead of a month -/
def tab (m : Int) : Int :=
  if m = 1 then 0 else if m = 2 then 31 else if m = 3 then 59 else if m = 4 then 90 else if m = 5 then 120 else if m = 6 then 151 else if m = 7 then 181
  else if m = 8 then 212 else if m = 9 then 243 else if m = 10 then 273 else if m = 11 then 304 else if m = 12 then 334 else 365

/-- .. with the leap day -/
def ms (y m : Int) : Int := tab m + (if 2 < m then lpN y else 0)
def md (y m : Int) : Int := ms y (m + 1) - ms y m

theorem months (m : Int) (h1 : 1 ≤ m) (h2 : m ≤ 12) : m = 1 ∨ m = 2 ∨ m = 3 ∨ m = 4 ∨ m = 5 ∨ m = 6 ∨ m = 7 ∨ m = 8 ∨ m = 9 ∨ m = 10 ∨ m = 11 ∨ m = 12 := by omega

/-- as the document says it -/
def lg (y m : Int) : Int := if m = 4 ∨ m = 6 ∨ m = 9 ∨ m = 11 then 30 else if m = 2 then 28 + lpN y else 31

theorem md_lg (y m : Int) (h1 : 1 ≤ m) (h2 : m ≤ 12) : md y m = lg y m := by
  unfold md ms lg
  rcases months m h1 h2 with rfl | rfl | rfl | rfl | rfl | rfl | rfl | rfl | rfl | rfl | rfl | rfl <;> simp [tab] <;> omega

theorem lg_le (y m : Int) : 28 ≤ lg y m ∧ lg y m ≤ 31 := by
  unfold lg
  have := lpN_cases y
  repeat' split
  all_goals omega

theorem ms_step (y m : Int) (h1 : 1 ≤ m) (h2 : m ≤ 12) : ms y m + lg y m = ms y (m + 1) := by
  have := md_lg y m h1 h2
  unfold md at this
  omega
theorem ms_one (y : Int) : ms y 1 = 0 := by simp [ms, tab]
theorem ms_13 (y : Int) : ms y 13 = 365 + lpN y := by simp [ms, tab]
theorem ms_le (y a b : Int) (h0 : 1 ≤ a) (h : a ≤ b) (hb : b ≤ 13) : ms y a ≤ ms y b := by
  obtain ⟨k, hk⟩ : ∃ k : Nat, b = a + k := ⟨(b - a).toNat, by omega⟩
  subst hk
  induction k with
  | zero => simp
  | succ k ih =>
    have h3 := ms_step y (a + k) (by omega) (by omega)
    have h4 := lg_le y (a + k)
    have h5 := ih (by omega) (by omega)
    rw [show a + ((k + 1 : Nat) : Int) = a + k + 1 by omega]
    omega
theorem ms_long (y m : Int) (h0 : 1 ≤ m) (h : m ≤ 13) : ms y m ≤ 31 * (m - 1) ∧ 0 ≤ ms y m ∧ ms y m ≤ 366 := by
  have hl := lpN_cases y
  unfold ms
  by_cases e : m = 13
  · subst e; simp [tab]; omega
  · rcases months m h0 (by omega) with rfl | rfl | rfl | rfl | rfl | rfl | rfl | rfl | rfl | rfl | rfl | rfl <;> simp [tab] <;> omega

/-- a day -/
abbrev VD (y m d : Int) : Prop := 0 ≤ y ∧ y ≤ 9999 ∧ 1 ≤ m ∧ m ≤ 12 ∧ 1 ≤ d ∧ d ≤ lg y m
def nb (y m d : Int) : Int := ys y + ms y m + d - 1

theorem ys_zero : ys 0 = 0 := by decide
theorem ys_10000 : ys 10000 = 3652425 := by decide

theorem nb_year (y m d : Int) (h : VD y m d) : ys y ≤ nb y m d ∧ nb y m d < ys (y + 1) := by
  obtain ⟨_, _, h1, h2, h3, h4⟩ := h
  have a := ms_long y m h1 (by omega)
  have b := ms_step y m h1 h2
  have c := ms_le y (m + 1) 13 (by omega) (by omega) (by omega)
  rw [ms_13] at c
  rw [ys_next]
  unfold nb
  omega

theorem nb_range (y m d : Int) (h : VD y m d) : 0 ≤ nb y m d ∧ nb y m d ≤ 3652424 := by
  have h1 := nb_year y m d h
  have h2 := ys_le 0 y h.1
  have h3 := ys_le (y + 1) 10000 (by have := h.2.1; omega)
  rw [ys_zero] at h2
  rw [ys_10000] at h3
  omega

/-- a day has one number, and a number one day -/
theorem nb_uniq (y m d y' m' d' : Int) (h : VD y m d) (h' : VD y' m' d') (e : nb y m d = nb y' m' d') : y = y' ∧ m = m' ∧ d = d' := by
  have a := nb_year y m d h
  have b := nb_year y' m' d' h'
  have hy : y = y' := ys_uniq y y' (nb y m d) a.1 a.2 (by omega) (by omega)
  subst hy
  obtain ⟨_, _, h1, h2, h3, h4⟩ := h
  obtain ⟨_, _, k1, k2, k3, k4⟩ := h'
  have s1 := ms_step y m h1 h2
  have s2 := ms_step y m' k1 k2
  have hm : m = m' := by
    have l1 := fun x => ms_le y (m + 1) m' (by omega) x (by omega)
    have l2 := fun x => ms_le y (m' + 1) m (by omega) x (by omega)
    unfold nb at e
    omega
  subst hm
  unfold nb at e
  exact ⟨rfl, rfl, by omega⟩

/-- the day behind a day -/
theorem nb_succ (y m d : Int) (h : VD y m d) :
    (d < lg y m ∧ VD y m (d + 1) ∧ nb y m (d + 1) = nb y m d + 1) ∨
    (d = lg y m ∧ m < 12 ∧ VD y (m + 1) 1 ∧ nb y (m + 1) 1 = nb y m d + 1) ∨
    (d = lg y m ∧ m = 12 ∧ y < 9999 ∧ VD (y + 1) 1 1 ∧ nb (y + 1) 1 1 = nb y m d + 1) ∨ (y = 9999 ∧ m = 12 ∧ d = 31) := by
  obtain ⟨h1, h2, h3, h4, h5, h6⟩ := h
  by_cases hd : d < lg y m
  · exact .inl ⟨hd, ⟨h1, h2, h3, h4, by omega, by omega⟩, by unfold nb; omega⟩
  · have hs := ms_step y m h3 h4
    by_cases hm : m < 12
    · have := lg_le y (m + 1)
      exact .inr (.inl ⟨by omega, hm, ⟨h1, h2, by omega, by omega, by omega, by omega⟩, by unfold nb; omega⟩)
    · have hm12 : m = 12 := by omega
      subst hm12
      have h13 := ms_13 y
      have h1m := ms_one (y + 1)
      have hn := ys_next y
      have hl : lg y 12 = 31 := by simp [lg]
      have hs' : ms y 12 + lg y 12 = ms y 13 := hs
      by_cases hy : y < 9999
      · have hl1 : lg (y + 1) 1 = 31 := by simp [lg]
        exact .inr (.inr (.inl ⟨by omega, rfl, hy, ⟨by omega, by omega, by omega, by omega, by omega, by omega⟩, by unfold nb; omega⟩))
      · exact .inr (.inr (.inr ⟨by omega, rfl, by omega⟩))

/-- the day behind a day -/
def nx (x : Int × Int × Int) : Int × Int × Int := if x.2.2 < lg x.1 x.2.1 then (x.1, x.2.1, x.2.2 + 1) else if x.2.1 < 12 then (x.1, x.2.1 + 1, 1) else (x.1 + 1, 1, 1)
def dtN : Nat → Int × Int × Int
  | 0 => (0, 1, 1)
  | k + 1 => nx (dtN k)

theorem dtN_is (n : Nat) (h : n ≤ 3652424) : VD (dtN n).1 (dtN n).2.1 (dtN n).2.2 ∧ nb (dtN n).1 (dtN n).2.1 (dtN n).2.2 = n := by
  induction n with
  | zero => exact ⟨by decide, by decide⟩
  | succ n ih =>
    obtain ⟨hv, hn⟩ := ih (by omega)
    have hs : dtN (n + 1) = nx (dtN n) := rfl
    rw [hs]
    generalize dtN n = x at *
    obtain ⟨y, m, d⟩ := x
    have hl := lg_le y m
    rcases nb_succ y m d hv with ⟨c, a, b⟩ | ⟨c, c2, a, b⟩ | ⟨c, c2, c3, a, b⟩ | ⟨rfl, rfl, rfl⟩
    · have e : nx (y, m, d) = (y, m, d + 1) := by unfold nx; rw [if_pos c]
      rw [e]
      exact ⟨a, by show nb y m (d + 1) = _; have hn' : nb y m d = n := hn; omega⟩
    · have e : nx (y, m, d) = (y, m + 1, 1) := by unfold nx; rw [if_neg (by show ¬ d < lg y m; omega), if_pos c2]
      rw [e]
      exact ⟨a, by show nb y (m + 1) 1 = _; have hn' : nb y m d = n := hn; omega⟩
    · have e : nx (y, m, d) = (y + 1, 1, 1) := by unfold nx; rw [if_neg (by show ¬ d < lg y m; omega), if_neg (by show ¬ m < 12; omega)]
      rw [e]
      exact ⟨a, by show nb (y + 1) 1 1 = _; have hn' : nb y m d = n := hn; omega⟩
    · have e : nb 9999 12 31 = 3652424 := by decide
      have hn' : nb 9999 12 31 = n := hn
      omega

/-- the day of a number -/
def dt (n : Int) : Int × Int × Int := dtN n.toNat
def dY (n : Int) : Int := (dt n).1
def dM (n : Int) : Int := (dt n).2.1
def dD (n : Int) : Int := (dt n).2.2

theorem dt_is (n : Int) (h : 0 ≤ n ∧ n ≤ 3652424) : VD (dY n) (dM n) (dD n) ∧ nb (dY n) (dM n) (dD n) = n := by
  have e := dtN_is n.toNat (by omega)
  have hn : ((n.toNat : Nat) : Int) = n := by omega
  rw [hn] at e
  exact e

theorem dt_eq (y m d n : Int) (h : VD y m d) (e : nb y m d = n) : y = dY n ∧ m = dM n ∧ d = dD n := by
  have hr := nb_range y m d h
  have hd := dt_is n (by omega)
  exact nb_uniq _ _ _ _ _ _ h hd.1 (by omega)

/-- the day of the week, 0 Monday -/
def wd (n : Int) : Int := (n + 5) % 7
theorem wd_lt (n : Int) : 0 ≤ wd n ∧ wd n < 7 := by unfold wd; omega

/-- the Monday of a year's first week -/
def wkS (y : Int) : Int := ys y + 3 - wd (ys y + 3)
def wkN (y : Int) : Int := (wkS (y + 1) - wkS y) / 7

theorem wkS_mod (y : Int) : (wkS y + 5) % 7 = 0 := by unfold wkS wd; omega

theorem wkS_near (y : Int) : ys y - 3 ≤ wkS y ∧ wkS y ≤ ys y + 3 := by unfold wkS wd; omega

theorem wkN_is (y : Int) : wkS (y + 1) = wkS y + 7 * wkN y ∧ (wkN y = 52 ∨ wkN y = 53) := by
  have a := wkS_mod y
  have b := wkS_mod (y + 1)
  have c := wkS_near y
  have d := wkS_near (y + 1)
  have e := ys_next y
  have f := lpN_cases y
  have g : wkS y = ys y + 3 - wd (ys y + 3) := rfl
  have g' : wkS (y + 1) = ys (y + 1) + 3 - wd (ys (y + 1) + 3) := rfl
  unfold wd at g g'
  unfold wkN
  omega

end Go.Proofs.YtmgfdnccmeahjaaGreatDoor

namespace Go.Proofs.YtmgfdnccmeahjaaGreatDoor
open Go.RowKit
set_option maxRecDepth 100000

theorem ret_intC {k : IntKind} {a b : Int} (h : a = b) : Ending.returned (.int k a) = .returned (.int k b) := by rw [h]
theorem ret_boolC {a b : Bool} (h : a = b) : Ending.returned (.bool a) = .returned (.bool b) := by rw [h]
theorem int_eqC {k : IntKind} {a b : Int} (h : a = b) : Value.int k a = .int k b := by rw [h]
theorem cell_old {w w' : World} {p : Addr} {v : Value} (h : w.cell? p = some v) (hb : Below w.heap.size w w') : w'.cell? p = some v :=
  (hb.cell (p := p) (World.block_lt_of_cell? _ _ h)).trans h

/-- the table of the days ahead of each month lies there -/
def HasAh (w : World) : Prop := ∀ k : Nat, k < 13 → w.cell? ⟨27, k, none⟩ = some (.int .i64 (tab ((k : Int) + 1)))

theorem HasAh.below {w w' : World} (h : HasAh w) (hb : Below w.heap.size w w') : HasAh w' := fun k hk => cell_old (h k hk) hb

theorem HasAh.lt {w : World} (h : HasAh w) : 27 < w.heap.size := World.block_lt_of_cell? _ _ (h 0 (by omega))
theorem HasAh.belowAt {B : Nat} {w w' : World} (h : HasAh w) (hb : Below B w w') (hB : 27 < B) : HasAh w' := fun k hk => (hb.cell (p := ⟨27, k, none⟩) hB).trans (h k hk)
theorem hidC {p : Prop} (h : p) : Hid p := h

def ahL : List Int := [0, 31, 59, 90, 120, 151, 181, 212, 243, 273, 304, 334, 365]
theorem ahL_tab : ∀ k : Fin 13, ahL.getD k.val 0 = tab ((k.val : Int) + 1) := by decide

theorem hasAh_of {n : String} {rest : List (String × DataW Unit)} {w : World} (hn : Tryz.prog.globalNamed n = some 27) (h : laidMet Tryz.prog ((n, Rows.laid_larder_cal_ahead) :: rest) w) : HasAh w := by
  have hT : Lib.TabIs Tryz.prog w n .i64 ahL := Lib.tabIs_of_head hn (show (Tryz.prog.globals[(27 : Nat)]?).map (·.type) = some 302 by kernel_rfl) Tryz.underlying302 Tryz.underlying3 (by kernel_rfl) (by kernel_rfl) h
  intro k hk
  rw [hT.cell hn k hk, ahL_tab ⟨k, hk⟩]

theorem isLeap_any (y : Int) (hy : 0 ≤ y) (w : World) :
    Calls Tryz.prog 267 #[.int .i64 y] w fun e w' => e = .returned (.bool (decide (Lp y))) ∧ w' = w := by
  obtain ⟨n, rfl⟩ := Int.eq_ofNat_of_zero_le hy
  unfold Lp
  by_cases h4 : (n : Int) % 4 = 0 <;> by_cases h100 : (n : Int) % 100 = 0 <;> by_cases h400 : (n : Int) % 400 = 0
  all_goals
    go_enter Tryz.func267, Tryz.ntmps267
    go_wp2
    all_goals go_ret
    all_goals exact ⟨ret_boolC (by simp [h4, h100, h400]), rfl⟩

theorem yearStart_any (y : Int) (h1 : -1 ≤ y) (h2 : y ≤ 10000) (w : World) :
    Calls Tryz.prog 240 #[.int .i64 y] w fun e w' => e = .returned (.int .i64 (ys y)) ∧ w' = w := by
  by_cases hy : 0 ≤ y
  · obtain ⟨n, rfl⟩ := Int.eq_ofNat_of_zero_le hy
    go_enter Tryz.func240, Tryz.ntmps240
    go_wp2
    go_ret
    exact ⟨ret_intC (by unfold ys; omega), rfl⟩
  · obtain rfl : y = -1 := by omega
    go_enter Tryz.func240, Tryz.ntmps240
    go_wp2
    go_ret
    exact ⟨rfl, rfl⟩

theorem monthStart_any (y m : Int) (hy : 0 ≤ y) (h1 : 1 ≤ m) (h2 : m ≤ 13) (w : World) (hA : HasAh w) :
    Calls Tryz.prog 247 #[.int .i64 y, .int .i64 m] w fun e w' => e = .returned (.int .i64 (ms y m)) ∧ w' = w := by
  obtain ⟨k, hk⟩ : ∃ k : Nat, m = (k : Int) + 1 := ⟨(m - 1).toNat, by omega⟩
  have hc := hA k (by omega)
  have hl := ms_long y m h1 h2
  have HL : Hid (_) := isLeap_any y hy w
  subst hk
  have hms : ms y ((k : Int) + 1) = tab ((k : Int) + 1) + (if 2 < (k : Int) + 1 then lpN y else 0) := rfl
  generalize tab ((k : Int) + 1) = t at hc hms
  generalize ms y ((k : Int) + 1) = r at hl hms ⊢
  have hn := lpN_cases y
  clear hA
  by_cases h2 : (2 : Int) < (k : Int) + 1
  · rw [if_pos h2] at hms
    rcases hn with ⟨hn, hp⟩ | ⟨hn, hp⟩
    · rw [decide_eq_false hp] at HL
      clear hp
      go_enter Tryz.func247, Tryz.ntmps247
      go_wp2_with fail
      refine Calls.mono HL.out ?_
      rintro e w' ⟨rfl, rfl⟩
      go_wp2
      go_ret
      exact ⟨ret_intC (by omega), rfl⟩
    · rw [decide_eq_true hp] at HL
      clear hp
      go_enter Tryz.func247, Tryz.ntmps247
      go_wp2_with fail
      refine Calls.mono HL.out ?_
      rintro e w' ⟨rfl, rfl⟩
      go_wp2
      go_ret
      exact ⟨ret_intC (by omega), rfl⟩
  · rw [if_neg h2] at hms
    go_enter Tryz.func247, Tryz.ntmps247
    go_wp2
    go_ret
    exact ⟨ret_intC (by omega), rfl⟩
end Go.Proofs.YtmgfdnccmeahjaaGreatDoor

namespace Go.Proofs.YtmgfdnccmeahjaaGreatDoor
open Go.RowKit
set_option maxRecDepth 100000

/-- is it a digit? -/
def isDBC (c : UInt8) : Bool := decide (48 ≤ c.toNat) && decide (c.toNat ≤ 57)
/-- may the byte stand where the shape has s? -/
def fitB (c s : UInt8) : Bool := if s = 100 then isDBC c else c == s
/-- how many bytes fit -/
def rl : List UInt8 → List UInt8 → Nat
  | c :: t, s :: u => if fitB c s then rl t u + 1 else 0
  | _, _ => 0

theorem rl_at (t s : List UInt8) (k : Nat) (h1 : k ≤ t.length) (h2 : k ≤ s.length) (h : ∀ j (_ : j < k) (a : j < t.length) (b : j < s.length), fitB t[j] s[j] = true)
    (hn : k = t.length ∨ k = s.length ∨ ∃ (a : k < t.length) (b : k < s.length), fitB t[k] s[k] = false) : rl t s = k := by
  induction k generalizing t s with
  | zero =>
    rcases hn with hn | hn | ⟨a, b, hn⟩
    · match t, hn with
      | [], _ => unfold rl; rfl
    · match s, hn with
      | [], _ => cases t <;> rfl
    · match t, s, a, b, hn with
      | c :: t, x :: s, _, _, hn =>
        have hn' : fitB c x = false := hn
        unfold rl
        rw [hn']
        rfl
  | succ k ih =>
    match t, s, h1, h2, h, hn with
    | c :: t, x :: s, h1, h2, h, hn =>
      have h0 : fitB c x = true := h 0 (by omega) (by simp) (by simp)
      unfold rl
      rw [h0, if_pos rfl, ih t s (by simpa using h1) (by simpa using h2) (fun j hj a b => by
        have := h (j + 1) (by omega) (by simpa using a) (by simpa using b)
        simpa using this) ?_]
      rcases hn with hn | hn | ⟨a, b, hn⟩
      · exact .inl (by simpa using hn)
      · exact .inr (.inl (by simpa using hn))
      · exact .inr (.inr ⟨by simpa using a, by simpa using b, by simpa using hn⟩)

theorem isDigit_anyC (c : UInt8) (w : World) :
    Calls Tryz.prog 265 #[.int .u8 (c.toNat : Int)] w fun e w' => e = .returned (.bool (isDBC c)) ∧ w' = w := by
  unfold isDBC
  by_cases h1 : 48 ≤ c.toNat <;> by_cases h2 : c.toNat ≤ 57
  all_goals
    have h3 : (c.toNat : Int) ≤ 57 ↔ c.toNat ≤ 57 := by omega
    go_enter Tryz.func265, Tryz.ntmps265
    go_wp2
    all_goals go_ret
    all_goals exact ⟨ret_boolC (by simp [h1, h2]), rfl⟩

theorem refDigit_anyC (c : UInt8) (w : World) :
    Calls Tryz.prog 190 #[.int .u8 (c.toNat : Int)] w fun e w' => e = .returned (.bool (isDBC c)) ∧ w' = w := by
  unfold isDBC
  by_cases h1 : 48 ≤ c.toNat <;> by_cases h2 : c.toNat ≤ 57
  all_goals
    have h3 : (c.toNat : Int) ≤ 57 ↔ c.toNat ≤ 57 := by omega
    go_enter Tryz.func190, Tryz.ntmps190
    go_wp2
    all_goals go_ret
    all_goals exact ⟨ret_boolC (by simp [h1, h2]), rfl⟩

theorem byte_at (s : ByteArray) (k : Nat) (h : k < s.size) : s.data.toList[k]'(by rw [Array.length_toList]; exact h) = s[k] := by
  rw [Array.getElem_toList]; rfl

set_option maxHeartbeats 1000000 in
theorem reach_any (t s : ByteArray) (ht : t.size ≤ 1000) (hs : s.size ≤ 1000) (w : World) :
    Calls Tryz.prog 232 #[.string t, .string s] w fun e w' => e = .returned (.int .i64 (rl t.data.toList s.data.toList : Nat)) ∧ ∃ n, w' = w.drewN n := by
  have lt : t.data.toList.length = t.size := Array.length_toList
  have ls : s.data.toList.length = s.size := Array.length_toList
  have HD := hidC (fun c w => isDigit_anyC c w)
  have LT := hidC lt
  have LS := hidC ls
  clear lt ls
  go_enter Tryz.func232, Tryz.ntmps232
  go_wp2_with fail
  go_loopw [5] (fun n wr => ∃ k : Nat, n = .int .i64 (k : Int) ∧ k ≤ t.size ∧ k ≤ s.size ∧ (∀ j (_ : j < k) (a : j < t.data.toList.length) (b : j < s.data.toList.length), fitB (t.data.toList[j]) (s.data.toList[j]) = true) ∧ ∃ q, wr = w.drewN q) (fun n _ => t.size - (intOf n).toNat)
  case atStart => exact ⟨0, rfl, by omega, by omega, fun j hj => by omega, 0, rfl⟩
  case round =>
    obtain ⟨k, rfl, hkt, hks, hall, hdr⟩ := hrel
    have HA := hidC hall
    have HDR := hidC hdr
    have HDN : Hid (∀ m, ∃ n, wr.drewN m = w.drewN n) := fun m => by obtain ⟨q, hq⟩ := HDR.out; exact ⟨q + m, by rw [hq, World.drewN_drewN]⟩
    clear hall hdr
    by_cases h1 : k < t.size
    · by_cases h2 : k < s.size
      · have i1 : (k : Int) < (t.size : Int) := by omega
        have i2 : (k : Int) < (s.size : Int) := by omega
        have bt := byte_at t k h1
        have bs := byte_at s k h2
        have HF : Hid (fitB (t.data.toList[k]'(by rw [LT.out]; exact h1)) (s.data.toList[k]'(by rw [LS.out]; exact h2)) = fitB t[k] s[k]) := by rw [bt, bs]; exact rfl
        clear bt bs
        have HG := hidC (HD.out t[k])
        by_cases hd : s[k] = 100
        · have hx : (s[k]'h2).toNat = 100 := by rw [hd]; rfl
          by_cases hg : isDBC t[k] = true
          · rw [hg] at HG
            have HOK := hidC (show fitB t[k] s[k] = true by unfold fitB; rw [if_pos hd]; exact hg)
            clear hd hg
            go_wp2_with fail
            go_quiet (first
              | (go_at_call 265; exact Calls.quiet_of_same (HG.out _)))
            go_wp2
            go_roundw
            case rel =>
              refine ⟨k + 1, by go_num, by omega, by omega, fun j hj a b => ?_, HDN.out _⟩
              by_cases e : j = k
              · subst e; rw [HF.out]; exact HOK.out
              · exact HA.out j (by omega) a b
            case measure => simp [intOf]; omega
          · have hg' : isDBC t[k] = false := by simpa using hg
            rw [hg'] at HG
            have HNO := hidC (show fitB t[k] s[k] = false by unfold fitB; rw [if_pos hd]; exact hg')
            clear hd hg hg'
            go_wp2_with fail
            go_quiet (first
              | (go_at_call 265; exact Calls.quiet_of_same (HG.out _)))
            go_wp2
            go_ret
            exact ⟨ret_intC (by rw [rl_at _ _ k (by rw [LT.out]; omega) (by rw [LS.out]; omega) HA.out (.inr (.inr ⟨by rw [LT.out]; exact h1, by rw [LS.out]; exact h2, by rw [HF.out]; exact HNO.out⟩))]), HDN.out _⟩
        · have hx : ((s[k]'h2).toNat == 100) = false := by
            rw [beq_eq_false_iff_ne]; intro e; exact hd (UInt8.toNat_inj.mp e)
          have hxi : (((s[k]'h2).toNat : Int) == 100) = false := by
            rw [beq_eq_false_iff_ne]; intro e; exact hd (UInt8.toNat_inj.mp (by show (s[k]'h2).toNat = 100; omega))
          have hxn : (((s[k]'h2).toNat : Int) != 100) = true := by unfold bne; rw [hxi]; rfl
          by_cases hg : t[k] = s[k]
          · have HOK := hidC (show fitB t[k] s[k] = true by unfold fitB; rw [if_neg hd, hg]; simp)
            have hen : (((s[k]'h2).toNat : Int) != ((t[k]'h1).toNat : Int)) = false := by rw [hg]; simp
            clear hd hg
            go_wp2_with fail
            go_quiet (fail)
            go_wp2
            go_roundw
            case rel =>
              refine ⟨k + 1, by go_num, by omega, by omega, fun j hj a b => ?_, HDN.out _⟩
              by_cases e : j = k
              · subst e; rw [HF.out]; exact HOK.out
              · exact HA.out j (by omega) a b
            case measure => simp [intOf]; omega
          · have HNO := hidC (show fitB t[k] s[k] = false by unfold fitB; rw [if_neg hd]; exact beq_eq_false_iff_ne.2 hg)
            have he : ((s[k]'h2).toNat == (t[k]'h1).toNat) = false := by
              rw [beq_eq_false_iff_ne]; intro e; exact hg (UInt8.toNat_inj.mp e.symm)
            have hei : (((s[k]'h2).toNat : Int) == ((t[k]'h1).toNat : Int)) = false := by
              rw [beq_eq_false_iff_ne]; intro e; exact hg (UInt8.toNat_inj.mp (by omega))
            have hen : (((s[k]'h2).toNat : Int) != ((t[k]'h1).toNat : Int)) = true := by unfold bne; rw [hei]; rfl
            clear hd hg
            go_wp2_with fail
            go_quiet (fail)
            go_wp2
            go_ret
            exact ⟨ret_intC (by rw [rl_at _ _ k (by rw [LT.out]; omega) (by rw [LS.out]; omega) HA.out (.inr (.inr ⟨by rw [LT.out]; exact h1, by rw [LS.out]; exact h2, by rw [HF.out]; exact HNO.out⟩))]), HDN.out _⟩
      · have hk : k = s.size := by omega
        go_wp2
        go_ret
        exact ⟨ret_intC (by have e := rl_at _ _ k (by rw [LT.out]; omega) (by rw [LS.out]; omega) HA.out (.inr (.inl (by rw [LS.out]; exact hk))); omega), HDR.out⟩
    · have hk : k = t.size := by omega
      go_wp2
      go_ret
      exact ⟨ret_intC (by have e := rl_at _ _ k (by rw [LT.out]; omega) (by rw [LS.out]; omega) HA.out (.inl (by rw [LT.out]; exact hk)); omega), HDR.out⟩
end Go.Proofs.YtmgfdnccmeahjaaGreatDoor

namespace Go.Proofs.YtmgfdnccmeahjaaGreatDoor

/-- the number that digits spell -/
def nmA : Nat → List UInt8 → Nat
  | a, [] => a
  | a, c :: r => nmA (a * 10 + (c.toNat - 48)) r
def nm (l : List UInt8) : Nat := nmA 0 l

theorem isDB_in {c : UInt8} (h : isDBC c = true) : 48 ≤ c.toNat ∧ c.toNat ≤ 57 := by
  unfold isDBC at h
  simpa using h

theorem dec_digits : ∀ (l : List UInt8) (a : Nat), (∀ c ∈ l, isDBC c = true) → Lib.decFrom a l = some (nmA a l)
  | [], a, _ => rfl
  | c :: r, a, h => by
    have hc := isDB_in (h c (by simp))
    unfold Lib.decFrom nmA
    have hd : Lib.digitVal c = some (c.toNat - 48) := by unfold Lib.digitVal; rw [if_pos hc]
    rw [hd]
    exact dec_digits r _ (fun x hx => h x (by simp [hx]))

theorem atoi_digits (l : List UInt8) (hl : l ≠ []) (h : ∀ c ∈ l, isDBC c = true) : Lib.atoi l = some (nm l : Int) := by
  match l, hl with
  | c :: r, _ =>
    have hc := isDB_in (h c (by simp))
    have h1 : (c == 45) = false := by rw [beq_eq_false_iff_ne]; intro e; subst e; revert hc; decide
    have h2 : (c == 43) = false := by rw [beq_eq_false_iff_ne]; intro e; subst e; revert hc; decide
    have hd := dec_digits (c :: r) 0 h
    simp only [Lib.atoi, h1, h2, Bool.false_eq_true, if_false, Lib.decNat, List.isEmpty_cons, hd, Option.map_some]
    rfl

theorem nmA_lt : ∀ (l : List UInt8) (a : Nat), (∀ c ∈ l, isDBC c = true) → nmA a l < (a + 1) * 10 ^ l.length
  | [], a, _ => by show a < (a + 1) * 1; omega
  | c :: r, a, h => by
    have hc := isDB_in (h c (by simp))
    have ih := nmA_lt r (a * 10 + (c.toNat - 48)) (fun x hx => h x (by simp [hx]))
    unfold nmA
    refine Nat.lt_of_lt_of_le ih ?_
    rw [List.length_cons, Nat.pow_succ, Nat.mul_comm (10 ^ r.length) 10, ← Nat.mul_assoc]
    exact Nat.mul_le_mul_right _ (by omega)
theorem nm_lt (l : List UInt8) (h : ∀ c ∈ l, isDBC c = true) : nm l < 10 ^ l.length := by
  have := nmA_lt l 0 h
  simpa [nm] using this

theorem nmA_snoc : ∀ (l : List UInt8) (a : Nat) (c : UInt8), nmA a (l ++ [c]) = nmA a l * 10 + (c.toNat - 48)
  | [], _, _ => rfl
  | x :: r, a, c => by unfold nmA; rw [← nmA_snoc r]; rfl

/-- a piece of a text -/
def subC (t : List UInt8) (a k : Nat) : List UInt8 := (t.drop a).take k
theorem sub_lenC (t : List UInt8) (a k : Nat) (h : a + k ≤ t.length) : (subC t a k).length = k := by
  unfold subC; rw [List.length_take, List.length_drop]; omega
theorem sub_succ (t : List UInt8) (a k : Nat) (h : a + k < t.length) : subC t a (k + 1) = subC t a k ++ [t[a + k]] := by
  unfold subC
  rw [List.take_add_one, List.getElem?_drop, List.getElem?_eq_getElem h]
  rfl
theorem sub_mem (t : List UInt8) (a k : Nat) (c : UInt8) (h : c ∈ subC t a k) : ∃ j, ∃ (hj : j < t.length), a ≤ j ∧ j < a + k ∧ t[j] = c := by
  unfold subC at h
  obtain ⟨i, hi, he⟩ := List.getElem_of_mem h
  rw [List.length_take, List.length_drop] at hi
  refine ⟨a + i, by omega, by omega, by omega, ?_⟩
  rw [← he, List.getElem_take, List.getElem_drop]

theorem rl_le : ∀ (t s : List UInt8), rl t s ≤ t.length ∧ rl t s ≤ s.length
  | [], s => by unfold rl; simp
  | c :: t, [] => by unfold rl; simp
  | c :: t, x :: s => by
    unfold rl
    have := rl_le t s
    by_cases hf : fitB c x = true
    · rw [if_pos hf]; simp; omega
    · rw [if_neg hf]; simp

/-- which shape a text has; or how far it goes -/
def fitL (t : List UInt8) : List (List UInt8) → Nat → Nat → Int × Nat
  | [], _, p => (-1, p)
  | s :: r, i, p => if rl t s = t.length ∧ rl t s = s.length then ((i : Int), 0) else fitL t r (i + 1) (max p (rl t s))

theorem fitL_hit (t : List UInt8) : ∀ (r : List (List UInt8)) (i p : Nat), ((fitL t r i p).1 = -1) ∨ ∃ k, ∃ (hk : k < r.length), (fitL t r i p) = (((i + k : Nat) : Int), 0) ∧ rl t r[k] = t.length ∧ rl t r[k] = r[k].length
  | [], _, _ => .inl rfl
  | s :: r, i, p => by
    unfold fitL
    split
    · rename_i h
      exact .inr ⟨0, by simp, by simp, h.1, h.2⟩
    · rcases fitL_hit t r (i + 1) (max p (rl t s)) with h | ⟨k, hk, h, h1, h2⟩
      · exact .inl h
      · exact .inr ⟨k + 1, by simpa using hk, by rw [h]; simp; omega, by simpa using h1, by simpa using h2⟩

/-- the next digit's place from a place on; the length, if there is none -/
def skA : List UInt8 → Nat
  | [] => 0
  | c :: r => if isDBC c then 0 else skA r + 1
def sk (t : List UInt8) (a : Nat) : Nat := a + skA (t.drop a)
theorem sk_end (t : List UInt8) (a : Nat) (h : t.length ≤ a) : sk t a = a := by unfold sk; rw [List.drop_eq_nil_of_le h]; rfl
theorem sk_hit (t : List UInt8) (a : Nat) (h : a < t.length) (hd : isDBC t[a] = true) : sk t a = a := by
  unfold sk; rw [List.drop_eq_getElem_cons h]; show a + (if isDBC t[a] then 0 else skA (t.drop (a + 1)) + 1) = a; rw [if_pos hd]; rfl
theorem sk_miss (t : List UInt8) (a : Nat) (h : a < t.length) (hd : isDBC t[a] = false) : sk t a = sk t (a + 1) := by
  unfold sk; rw [List.drop_eq_getElem_cons h]; show a + (if isDBC t[a] then 0 else skA (t.drop (a + 1)) + 1) = _; rw [if_neg (by simp [hd])]; omega

/-- the parts of a text asked in turn: where the first one stands that may not be, or -1; and how many were asked -/
def rf (t : List UInt8) : Nat → List (Nat × (Nat → Bool)) → Int × Nat
  | _, [] => (-1, 0)
  | a, (d, f) :: r => if sk t a = t.length then (-1, 0) else if f (nm (subC t (sk t a) d)) then ((rf t (sk t a + d) r).1, (rf t (sk t a + d) r).2 + 1) else (((sk t a : Nat) : Int), 1)
end Go.Proofs.YtmgfdnccmeahjaaGreatDoor

namespace Go.Proofs.YtmgfdnccmeahjaaGreatDoor
open Go.RowKit
set_option maxRecDepth 100000

set_option maxHeartbeats 1000000 in
theorem agrees_any (t s : ByteArray) (ht : t.size ≤ 1000) (hs : s.size ≤ 1000) (w : World) :
    Calls Tryz.prog 162 #[.string t, .string s] w fun e w' => e = .returned (.int .i64 (rl t.data.toList s.data.toList : Nat)) ∧ ∃ n, w' = w.drewN n := by
  have lt : t.data.toList.length = t.size := Array.length_toList
  have ls : s.data.toList.length = s.size := Array.length_toList
  have HD := hidC (fun c w => refDigit_anyC c w)
  have LT := hidC lt
  have LS := hidC ls
  clear lt ls
  go_enter Tryz.func162, Tryz.ntmps162
  go_wp2_with fail
  go_loopw [5] (fun n wr => ∃ k : Nat, n = .int .i64 (k : Int) ∧ k ≤ t.size ∧ k ≤ s.size ∧ (∀ j (_ : j < k) (a : j < t.data.toList.length) (b : j < s.data.toList.length), fitB (t.data.toList[j]) (s.data.toList[j]) = true) ∧ ∃ q, wr = w.drewN q) (fun n _ => t.size - (intOf n).toNat)
  case atStart => exact ⟨0, rfl, by omega, by omega, fun j hj => by omega, 0, rfl⟩
  case round =>
    obtain ⟨k, rfl, hkt, hks, hall, hdr⟩ := hrel
    have HA := hidC hall
    have HDR := hidC hdr
    have HDN : Hid (∀ m, ∃ n, wr.drewN m = w.drewN n) := fun m => by obtain ⟨q, hq⟩ := HDR.out; exact ⟨q + m, by rw [hq, World.drewN_drewN]⟩
    clear hall hdr
    by_cases h1 : k < t.size
    · by_cases h2 : k < s.size
      · have i1 : (k : Int) < (t.size : Int) := by omega
        have i2 : (k : Int) < (s.size : Int) := by omega
        have bt := byte_at t k h1
        have bs := byte_at s k h2
        have HF : Hid (fitB (t.data.toList[k]'(by rw [LT.out]; exact h1)) (s.data.toList[k]'(by rw [LS.out]; exact h2)) = fitB t[k] s[k]) := by rw [bt, bs]; exact rfl
        clear bt bs
        have HG := hidC (HD.out t[k])
        by_cases hd : s[k] = 100
        · have hx : (s[k]'h2).toNat = 100 := by rw [hd]; rfl
          by_cases hg : isDBC t[k] = true
          · rw [hg] at HG
            have HOK := hidC (show fitB t[k] s[k] = true by unfold fitB; rw [if_pos hd]; exact hg)
            clear hd hg
            go_wp2_with fail
            refine (HG.out _).mono ?_
            rintro e w' ⟨rfl, rfl⟩
            go_wp2_with fail
            go_quiet (fail)
            go_wp2
            go_roundw
            case rel =>
              refine ⟨k + 1, by go_num, by omega, by omega, fun j hj a b => ?_, HDN.out _⟩
              by_cases e : j = k
              · subst e; rw [HF.out]; exact HOK.out
              · exact HA.out j (by omega) a b
            case measure => simp [intOf]; omega
          · have hg' : isDBC t[k] = false := by simpa using hg
            rw [hg'] at HG
            have HNO := hidC (show fitB t[k] s[k] = false by unfold fitB; rw [if_pos hd]; exact hg')
            clear hd hg hg'
            go_wp2_with fail
            refine (HG.out _).mono ?_
            rintro e w' ⟨rfl, rfl⟩
            go_wp2_with fail
            go_quiet (fail)
            go_wp2
            go_ret
            exact ⟨ret_intC (by rw [rl_at _ _ k (by rw [LT.out]; omega) (by rw [LS.out]; omega) HA.out (.inr (.inr ⟨by rw [LT.out]; exact h1, by rw [LS.out]; exact h2, by rw [HF.out]; exact HNO.out⟩))]), HDN.out _⟩
        · generalize isDBC (t[k]'h1) = bd at HG
          have hx : ((s[k]'h2).toNat == 100) = false := by
            rw [beq_eq_false_iff_ne]; intro e; exact hd (UInt8.toNat_inj.mp e)
          have hxi : (((s[k]'h2).toNat : Int) == 100) = false := by
            rw [beq_eq_false_iff_ne]; intro e; exact hd (UInt8.toNat_inj.mp (by show (s[k]'h2).toNat = 100; omega))
          have hxn : (((s[k]'h2).toNat : Int) != 100) = true := by unfold bne; rw [hxi]; rfl
          by_cases hg : t[k] = s[k]
          · have HOK := hidC (show fitB t[k] s[k] = true by unfold fitB; rw [if_neg hd, hg]; simp)
            have hen : (((t[k]'h1).toNat : Int) != ((s[k]'h2).toNat : Int)) = false := by rw [hg]; simp
            clear hd hg
            go_wp2_with fail
            refine (HG.out _).mono ?_
            rintro e w' ⟨rfl, rfl⟩
            go_wp2_with fail
            go_quiet (fail)
            go_wp2
            go_roundw
            case rel =>
              refine ⟨k + 1, by go_num, by omega, by omega, fun j hj a b => ?_, HDN.out _⟩
              by_cases e : j = k
              · subst e; rw [HF.out]; exact HOK.out
              · exact HA.out j (by omega) a b
            case measure => simp [intOf]; omega
          · have HNO := hidC (show fitB t[k] s[k] = false by unfold fitB; rw [if_neg hd]; exact beq_eq_false_iff_ne.2 hg)
            have he : ((s[k]'h2).toNat == (t[k]'h1).toNat) = false := by
              rw [beq_eq_false_iff_ne]; intro e; exact hg (UInt8.toNat_inj.mp e.symm)
            have hei : (((t[k]'h1).toNat : Int) == ((s[k]'h2).toNat : Int)) = false := by
              rw [beq_eq_false_iff_ne]; intro e; exact hg (UInt8.toNat_inj.mp (by omega))
            have hen : (((t[k]'h1).toNat : Int) != ((s[k]'h2).toNat : Int)) = true := by unfold bne; rw [hei]; rfl
            clear hd hg
            go_wp2_with fail
            refine (HG.out _).mono ?_
            rintro e w' ⟨rfl, rfl⟩
            go_wp2_with fail
            go_quiet (fail)
            go_wp2
            go_ret
            exact ⟨ret_intC (by rw [rl_at _ _ k (by rw [LT.out]; omega) (by rw [LS.out]; omega) HA.out (.inr (.inr ⟨by rw [LT.out]; exact h1, by rw [LS.out]; exact h2, by rw [HF.out]; exact HNO.out⟩))]), HDN.out _⟩
      · have hk : k = s.size := by omega
        go_wp2
        go_ret
        exact ⟨ret_intC (by have e := rl_at _ _ k (by rw [LT.out]; omega) (by rw [LS.out]; omega) HA.out (.inr (.inl (by rw [LS.out]; exact hk))); omega), HDR.out⟩
    · have hk : k = t.size := by omega
      go_wp2
      go_ret
      exact ⟨ret_intC (by have e := rl_at _ _ k (by rw [LT.out]; omega) (by rw [LS.out]; omega) HA.out (.inl (by rw [LT.out]; exact hk)); omega), HDR.out⟩
end Go.Proofs.YtmgfdnccmeahjaaGreatDoor

namespace Go.Proofs.YtmgfdnccmeahjaaGreatDoor
open Go.RowKit
set_option maxRecDepth 100000

def SS (ss : List ByteArray) : List (List UInt8) := ss.map fun s => s.data.toList
theorem SS_drop (ss : List ByteArray) (k : Nat) (h : k < ss.length) : (SS ss).drop k = ss[k].data.toList :: (SS ss).drop (k + 1) := by
  unfold SS
  rw [← List.map_drop, List.drop_eq_getElem_cons h, List.map_cons, List.map_drop]
/-- the shapes lie in block b -/
def ShB (w : World) (b : Nat) (ss : List ByteArray) : Prop := ∀ j (hj : j < ss.length), w.cell? ⟨b, j, none⟩ = some (.string ss[j])
theorem ShB.drewN {w : World} {b : Nat} {ss : List ByteArray} (h : ShB w b ss) (n : Nat) : ShB (w.drewN n) b ss := fun j hj => cell_old (h j hj) (below_drewN (Below.refl _ _) n)

theorem fitL_no {t s : List UInt8} {r : List (List UInt8)} {i p : Nat} (h : ¬ (rl t s = t.length ∧ rl t s = s.length)) : fitL t (s :: r) i p = fitL t r (i + 1) (max p (rl t s)) := by
  show (if _ then _ else _) = _; rw [if_neg h]
theorem fitL_yes {t s : List UInt8} {r : List (List UInt8)} {i p : Nat} (h : rl t s = t.length ∧ rl t s = s.length) : fitL t (s :: r) i p = ((i : Int), 0) := by
  show (if _ then _ else _) = _; rw [if_pos h]

/-- the number that shaped answers beside the place -/
def shN (n : Nat) (x : Int × Nat) : Nat := if x.1 = -1 then x.2 else n
theorem shN_at (n k p : Nat) : shN n ((k : Int), p) = n := by unfold shN; rw [if_neg (by show ¬ (k : Int) = -1; omega)]
theorem shN_no (n p : Nat) : shN n (-1, p) = p := by unfold shN; rw [if_pos rfl]

set_option maxHeartbeats 1000000 in
theorem fit_any (t : ByteArray) (ht : t.size ≤ 64) (ss : List ByteArray) (hs : ∀ s ∈ ss, s.size ≤ 64) (hl : ss.length ≤ 10) (b : Nat) (w : World) (hc : ShB w b ss) :
    Calls Tryz.prog 196 #[.string t, .slice (some ⟨b, 0, none⟩) ss.length ss.length] w fun e w' => e = .returned (.tuple #[.int .i64 (fitL t.data.toList (SS ss) 0 0).1, .int .i64 ((fitL t.data.toList (SS ss) 0 0).2 : Nat)]) ∧ ∃ n, w' = w.drewN n := by
  have lt : t.data.toList.length = t.size := Array.length_toList
  have LT := hidC lt
  have HC := hidC hc
  have HS := hidC hs
  clear lt hc hs
  go_enter Tryz.func196, Tryz.ntmps196
  go_wp2_with fail
  go_loopw [5, 11] (fun p i wr => ∃ k x : Nat, i = .int .i64 (k : Int) ∧ p = .int .i64 (x : Int) ∧ k ≤ ss.length ∧ x ≤ t.size ∧ fitL t.data.toList ((SS ss).drop k) k x = fitL t.data.toList (SS ss) 0 0 ∧ ∃ q, wr = w.drewN q) (fun _ i _ => ss.length - (intOf i).toNat)
  case atStart => exact ⟨0, 0, rfl, rfl, by omega, by omega, rfl, 0, rfl⟩
  case round =>
    obtain ⟨k, x, rfl, rfl, hk, hx, hf, hdr⟩ := hrel
    have HF := hidC hf
    have HDN : Hid (∀ m, ∃ n, wr.drewN m = w.drewN n) := fun m => by obtain ⟨q, hq⟩ := hdr; exact ⟨q + m, by rw [hq, World.drewN_drewN]⟩
    have HD0 := hidC hdr
    have hcw : ShB wr b ss := by obtain ⟨q, hq⟩ := hdr; rw [hq]; exact HC.out.drewN q
    clear hf hdr
    by_cases h1 : k < ss.length
    · have ck := hcw k h1
      have hsz := HS.out _ (List.getElem_mem h1)
      have HE := hidC (SS_drop ss k h1)
      rw [HE.out] at HF
      have ls : (ss[k]'h1).data.toList.length = (ss[k]'h1).size := Array.length_toList
      generalize ss[k]'h1 = s at *
      have hrl := rl_le t.data.toList s.data.toList
      have HR := hidC (fun w => reach_any t s (by omega) (by omega) w)
      have LS := hidC ls
      rw [LT.out, ls] at hrl
      clear ls hcw
      by_cases g1 : rl t.data.toList s.data.toList = t.size
      · by_cases g2 : rl t.data.toList s.data.toList = s.size
        · have HV := hidC (show fitL t.data.toList (SS ss) 0 0 = ((k : Int), 0) by rw [← HF.out, fitL_yes ⟨by rw [LT.out]; exact g1, by rw [LS.out]; exact g2⟩])
          generalize rl t.data.toList s.data.toList = n at *
          go_wp2_with (go_at_call 232; refine (HR.out _).mono ?_; rintro e w' ⟨rfl, nq, rfl⟩)
          go_ret2
          rw [HV.out]
          exact ⟨rfl, HDN.out _⟩
        · have HV := hidC (show fitL t.data.toList ((SS ss).drop (k + 1)) (k + 1) (max x (rl t.data.toList s.data.toList)) = fitL t.data.toList (SS ss) 0 0 by rw [← HF.out, fitL_no (fun h => g2 (by rw [← LS.out]; exact h.2))])
          generalize rl t.data.toList s.data.toList = n at *
          have hmx : max x n = n := by omega
          rw [hmx] at HV
          have gi : ((n : Int) == (s.size : Int)) = false := by rw [beq_eq_false_iff_ne]; omega
          go_wp2_with (go_at_call 232; refine (HR.out _).mono ?_; rintro e w' ⟨rfl, nq, rfl⟩)
          go_roundw
          case rel => exact ⟨k + 1, n, by go_num, by go_num, by omega, by omega, HV.out, HDN.out _⟩
          case measure => simp [intOf]; omega
      · have HV := hidC (show fitL t.data.toList ((SS ss).drop (k + 1)) (k + 1) (max x (rl t.data.toList s.data.toList)) = fitL t.data.toList (SS ss) 0 0 by rw [← HF.out, fitL_no (fun h => g1 (by rw [← LT.out]; exact h.1))])
        generalize rl t.data.toList s.data.toList = n at *
        have gi : ((n : Int) == (t.size : Int)) = false := by rw [beq_eq_false_iff_ne]; omega
        go_wp2_with (go_at_call 232; refine (HR.out _).mono ?_; rintro e w' ⟨rfl, nq, rfl⟩)
        all_goals go_roundw
        all_goals first
          | exact ⟨k + 1, max x n, by go_num, by go_num, by omega, by omega, HV.out, HDN.out _⟩
          | (simp [intOf]; omega)
    · have hke : k = ss.length := by omega
      have HV := hidC (show fitL t.data.toList (SS ss) 0 0 = (-1, x) by rw [← HF.out, List.drop_eq_nil_of_le (by unfold SS; rw [List.length_map]; omega)]; rfl)
      go_wp2
      go_ret2
      rw [HV.out]
      exact ⟨rfl, HD0.out⟩
set_option maxHeartbeats 1000000 in
theorem shaped_any (t : ByteArray) (ht : t.size ≤ 64) (ss : List ByteArray) (hs : ∀ s ∈ ss, s.size ≤ 64) (hl : ss.length ≤ 10) (b : Nat) (w : World) (hc : ShB w b ss) :
    Calls Tryz.prog 132 #[.string t, .slice (some ⟨b, 0, none⟩) ss.length ss.length] w fun e w' => e = .returned (.tuple #[.int .i64 (fitL t.data.toList (SS ss) 0 0).1, .int .i64 (shN t.size (fitL t.data.toList (SS ss) 0 0) : Nat)]) ∧ ∃ n, w' = w.drewN n := by
  have lt : t.data.toList.length = t.size := Array.length_toList
  have LT := hidC lt
  have HC := hidC hc
  have HS := hidC hs
  clear lt hc hs
  go_enter Tryz.func132, Tryz.ntmps132
  go_wp2_with fail
  go_loopw [6, 7] (fun p i wr => ∃ k x : Nat, i = .int .i64 (k : Int) ∧ p = .int .i64 (x : Int) ∧ k ≤ ss.length ∧ x ≤ t.size ∧ fitL t.data.toList ((SS ss).drop k) k x = fitL t.data.toList (SS ss) 0 0 ∧ ∃ q, wr = w.drewN q) (fun _ i _ => ss.length - (intOf i).toNat)
  case atStart => exact ⟨0, 0, rfl, rfl, by omega, by omega, rfl, 0, rfl⟩
  case round =>
    obtain ⟨k, x, rfl, rfl, hk, hx, hf, hdr⟩ := hrel
    have HF := hidC hf
    have HDN : Hid (∀ m, ∃ n, wr.drewN m = w.drewN n) := fun m => by obtain ⟨q, hq⟩ := hdr; exact ⟨q + m, by rw [hq, World.drewN_drewN]⟩
    have HD0 := hidC hdr
    have hcw : ShB wr b ss := by obtain ⟨q, hq⟩ := hdr; rw [hq]; exact HC.out.drewN q
    clear hf hdr
    by_cases h1 : k < ss.length
    · have ck := hcw k h1
      have hsz := HS.out _ (List.getElem_mem h1)
      have HE := hidC (SS_drop ss k h1)
      rw [HE.out] at HF
      have ls : (ss[k]'h1).data.toList.length = (ss[k]'h1).size := Array.length_toList
      generalize ss[k]'h1 = s at *
      have hrl := rl_le t.data.toList s.data.toList
      have HR := hidC (fun w => agrees_any t s (by omega) (by omega) w)
      have LS := hidC ls
      rw [LT.out, ls] at hrl
      clear ls hcw
      by_cases g1 : rl t.data.toList s.data.toList = t.size
      · by_cases g2 : rl t.data.toList s.data.toList = s.size
        · have HV := hidC (show fitL t.data.toList (SS ss) 0 0 = ((k : Int), 0) by rw [← HF.out, fitL_yes ⟨by rw [LT.out]; exact g1, by rw [LS.out]; exact g2⟩])
          generalize rl t.data.toList s.data.toList = n at *
          go_wp2_with (go_at_call 162; refine (HR.out _).mono ?_; rintro e w' ⟨rfl, nq, rfl⟩)
          go_ret2
          rw [HV.out]
          exact ⟨by rw [shN_at]; rfl, HDN.out _⟩
        · have HV := hidC (show fitL t.data.toList ((SS ss).drop (k + 1)) (k + 1) (max x (rl t.data.toList s.data.toList)) = fitL t.data.toList (SS ss) 0 0 by rw [← HF.out, fitL_no (fun h => g2 (by rw [← LS.out]; exact h.2))])
          generalize rl t.data.toList s.data.toList = n at *
          have gi : ((n : Int) == (s.size : Int)) = false := by rw [beq_eq_false_iff_ne]; omega
          go_wp2_with (go_at_call 162; refine (HR.out _).mono ?_; rintro e w' ⟨rfl, nq, rfl⟩)
          all_goals go_roundw
          all_goals first
            | exact ⟨k + 1, max x n, by go_num, by go_num, by omega, by omega, HV.out, HDN.out _⟩
            | (simp [intOf]; omega)
      · have HV := hidC (show fitL t.data.toList ((SS ss).drop (k + 1)) (k + 1) (max x (rl t.data.toList s.data.toList)) = fitL t.data.toList (SS ss) 0 0 by rw [← HF.out, fitL_no (fun h => g1 (by rw [← LT.out]; exact h.1))])
        generalize rl t.data.toList s.data.toList = n at *
        have gi : ((n : Int) == (t.size : Int)) = false := by rw [beq_eq_false_iff_ne]; omega
        go_wp2_with (go_at_call 162; refine (HR.out _).mono ?_; rintro e w' ⟨rfl, nq, rfl⟩)
        all_goals go_roundw
        all_goals first
          | exact ⟨k + 1, max x n, by go_num, by go_num, by omega, by omega, HV.out, HDN.out _⟩
          | (simp [intOf]; omega)
    · have hke : k = ss.length := by omega
      have HV := hidC (show fitL t.data.toList (SS ss) 0 0 = (-1, x) by rw [← HF.out, List.drop_eq_nil_of_le (by unfold SS; rw [List.length_map]; omega)]; rfl)
      go_wp2
      go_ret2
      rw [HV.out]
      exact ⟨by rw [shN_no]; rfl, HD0.out⟩

theorem nm_step (t : ByteArray) (a i : Nat) (h : a + i < t.size) : nm (subC t.data.toList a (i + 1)) = nm (subC t.data.toList a i) * 10 + (t[a + i].toNat - 48) := by
  have lt : t.data.toList.length = t.size := Array.length_toList
  rw [sub_succ _ _ _ (by rw [lt]; exact h), nm, nmA_snoc, byte_at t (a + i) h]
  rfl

set_option maxHeartbeats 1000000 in
theorem num_any (t : ByteArray) (a n : Nat) (ht : t.size ≤ 64) (hn : a + n ≤ t.size) (hn9 : n ≤ 9) (hd : ∀ c ∈ subC t.data.toList a n, isDBC c = true) (w : World) :
    Calls Tryz.prog 133 #[.string t, .int .i64 (a : Int), .int .i64 (n : Int)] w fun e w' => e = .returned (.int .i64 (nm (subC t.data.toList a n) : Nat)) ∧ w' = w := by
  have lt : t.data.toList.length = t.size := Array.length_toList
  have HD : Hid (∀ i, i < n → ∀ (h : a + i < t.size), isDBC t[a + i] = true) := fun i hi h => by
    refine hd _ ?_
    rw [← byte_at t (a + i) h]
    unfold subC
    have hx : i < ((t.data.toList.drop a).take n).length := by rw [List.length_take, List.length_drop, lt]; omega
    have := List.getElem_mem hx
    rw [List.getElem_take, List.getElem_drop] at this
    exact this
  have HB : Hid (∀ i, i ≤ n → nm (subC t.data.toList a i) < 10 ^ 9) := fun i hi => by
    have h := nm_lt (subC t.data.toList a i) (fun c hc => by
      obtain ⟨j, hj, h1, h2, h3⟩ := sub_mem _ _ _ _ hc
      have hj' : j < t.size := by rw [← lt]; exact hj
      have := HD (j - a) (by omega) (by omega)
      rw [← h3, byte_at t j hj']
      have e : a + (j - a) = j := by omega
      simp only [e] at this
      exact this)
    rw [sub_lenC _ _ _ (by rw [lt]; omega)] at h
    exact Nat.lt_of_lt_of_le h (Nat.pow_le_pow_right (by omega) (by omega))
  clear hd
  go_enter Tryz.func133, Tryz.ntmps133
  go_wp2_with fail
  go_loopw [7, 8] (fun v i wr => ∃ k : Nat, i = .int .i64 (k : Int) ∧ v = .int .i64 (nm (subC t.data.toList a k) : Nat) ∧ k ≤ n ∧ wr = w) (fun _ i _ => n - (intOf i).toNat)
  case atStart => exact ⟨0, rfl, rfl, by omega, rfl⟩
  case round =>
    obtain ⟨k, rfl, rfl, hk, rfl⟩ := hrel
    by_cases h1 : k < n
    · have h2 : a + k < t.size := by omega
      have hdk := HD.out k h1 h2
      have hb := HB.out k (by omega)
      have hb1 := HB.out (k + 1) (by omega)
      have HS := hidC (nm_step t a k h2)
      rw [HS.out] at hb1
      have hr := isDB_in hdk
      generalize nm (subC t.data.toList a k) = v at *
      have e9 : (10 : Nat) ^ 9 = 1000000000 := by decide
      rw [e9] at hb hb1
      have ha : (((a : Int) + (k : Int)).toNat) = a + k := by omega
      generalize hbt : t[a + k]'h2 = c at *
      go_wp2
      go_roundw
      case rel => exact ⟨k + 1, by go_num, by rw [HS.out]; go_num, by omega, by trivial⟩
      case measure => simp [intOf]; omega
    · have hke : k = n := by omega
      subst hke
      go_wp2
      go_ret
      exact ⟨rfl, rfl⟩
end Go.Proofs.YtmgfdnccmeahjaaGreatDoor

namespace Go.Proofs.YtmgfdnccmeahjaaGreatDoor
open Go.RowKit
set_option maxRecDepth 100000

/-- where the digits stand -/
def skB : List Bool → Nat
  | [] => 0
  | b :: r => if b then 0 else skB r + 1
theorem skA_mask : ∀ l : List UInt8, skA l = skB (l.map isDBC)
  | [] => rfl
  | c :: r => by
    show (if isDBC c then 0 else skA r + 1) = (if isDBC c then 0 else skB (r.map isDBC) + 1)
    rw [skA_mask r]
theorem sk_mask (t : List UInt8) (a : Nat) : sk t a = a + skB ((t.map isDBC).drop a) := by
  unfold sk; rw [skA_mask, List.map_drop]
theorem dig_mask (t : List UInt8) (a k : Nat) (h : (((t.map isDBC).drop a).take k).all id = true) : ∀ c ∈ subC t a k, isDBC c = true := by
  intro c hc
  unfold subC at hc
  rw [List.all_eq_true] at h
  have : isDBC c ∈ ((t.map isDBC).drop a).take k := by
    rw [← List.map_drop, ← List.map_take]
    exact List.mem_map_of_mem hc
  exact h _ this
theorem mask_of : ∀ (t s : List UInt8), rl t s = t.length → rl t s = s.length → (s.all fun x => x == 100 || !isDBC x) = true → t.map isDBC = s.map (fun x => x == 100)
  | [], [], _, _, _ => rfl
  | [], x :: s, _, h, _ => by unfold rl at h; simp at h
  | c :: t, [], h, _, _ => by unfold rl at h; simp at h
  | c :: t, x :: s, h1, h2, hs => by
    unfold rl at h1 h2
    rw [List.all_cons, Bool.and_eq_true] at hs
    by_cases hf : fitB c x = true
    · rw [if_pos hf] at h1 h2
      rw [List.map_cons, List.map_cons, mask_of t s (by simpa using h1) (by simpa using h2) hs.2]
      congr 1
      unfold fitB at hf
      by_cases hx : x = 100
      · rw [if_pos hx] at hf; rw [hf, hx]; rfl
      · rw [if_neg hx] at hf
        have hcx : c = x := by simpa using hf
        have hb : (x == 100) = false := by rw [beq_eq_false_iff_ne]; exact hx
        have := hs.1
        rw [hb, Bool.false_or] at this
        rw [hcx, hb]
        simpa using this
    · rw [if_neg hf] at h1; simp at h1

/-- the shapes -/
abbrev S0 : ByteArray := ⟨#[100, 100, 100, 100, 45, 100, 100, 45, 100, 100]⟩
abbrev S1 : ByteArray := ⟨#[100, 100, 100, 100, 100, 100, 100, 100]⟩
abbrev S2 : ByteArray := ⟨#[100, 100, 100, 100, 45, 100, 100, 100]⟩
abbrev S3 : ByteArray := ⟨#[100, 100, 100, 100, 100, 100, 100]⟩
abbrev S4 : ByteArray := ⟨#[100, 100, 100, 100, 45, 87, 100, 100, 45, 100]⟩
abbrev S5 : ByteArray := ⟨#[100, 100, 100, 100, 87, 100, 100, 100]⟩
def DS : List ByteArray := [S0, S1, S2, S3, S4, S5]
abbrev dsO : Obj := .cells #[.string S0, .string S1, .string S2, .string S3, .string S4, .string S5] 9

theorem ShB.ds {w : World} {b : Nat} (h : w.heap[b]? = some dsO) : ShB w b DS := by
  intro j hj
  match j, hj with
  | 0, _ => rw [Lib.cell_of_heap h]; rfl
  | 1, _ => rw [Lib.cell_of_heap h]; rfl
  | 2, _ => rw [Lib.cell_of_heap h]; rfl
  | 3, _ => rw [Lib.cell_of_heap h]; rfl
  | 4, _ => rw [Lib.cell_of_heap h]; rfl
  | 5, _ => rw [Lib.cell_of_heap h]; rfl
theorem DS_small : ∀ s ∈ DS, s.size ≤ 64 := by
  intro s hs
  unfold DS at hs
  simp at hs
  rcases hs with rfl | rfl | rfl | rfl | rfl | rfl <;> decide

/-- the text's digits stand where the shape k has them -/
def MKC (t : ByteArray) (k : Nat) : Prop := t.data.toList.map isDBC = ((SS DS).getD k []).map (fun x => x == 100)

theorem ds_cases (t : List UInt8) : (∃ p, fitL t (SS DS) 0 0 = (-1, p)) ∨ ∃ k : Nat, k < 6 ∧ fitL t (SS DS) 0 0 = ((k : Int), 0) ∧ t.map isDBC = ((SS DS).getD k []).map (fun x => x == 100) := by
  rcases fitL_hit t (SS DS) 0 0 with h | ⟨k, hk, h, h1, h2⟩
  · exact .inl ⟨_, Prod.ext h rfl⟩
  · refine .inr ⟨k, hk, by rw [h]; simp, ?_⟩
    have e : (SS DS).getD k [] = (SS DS)[k] := by rw [List.getD_eq_getElem?_getD, List.getElem?_eq_getElem hk]; rfl
    rw [e]
    refine mask_of _ _ h1 h2 ?_
    have all : ∀ k : Fin (SS DS).length, (((SS DS)[k.val]'k.isLt).all fun x => x == 100 || !isDBC x) = true := by decide +kernel
    exact all ⟨k, hk⟩

theorem mk_size (t : ByteArray) (k n : Nat) (h : MKC t k) (hn : (((SS DS).getD k []).map (fun x => x == 100)).length = n) : t.size = n := by
  have lt : t.data.toList.length = t.size := Array.length_toList
  unfold MKC at h
  rw [← h, List.length_map, lt] at hn
  exact hn
theorem mk_sk (t : ByteArray) (k a p : Nat) (h : MKC t k) (hp : a + skB ((((SS DS).getD k []).map (fun x => x == 100)).drop a) = p) : sk t.data.toList a = p := by
  rw [sk_mask, h]; exact hp
theorem mk_dig (t : ByteArray) (k a n : Nat) (h : MKC t k) (hd : (((((SS DS).getD k []).map (fun x => x == 100)).drop a).take n).all id = true) : ∀ c ∈ subC t.data.toList a n, isDBC c = true :=
  dig_mask _ _ _ (by rw [h]; exact hd)
end Go.Proofs.YtmgfdnccmeahjaaGreatDoor

namespace Go.Proofs.YtmgfdnccmeahjaaGreatDoor
open Go.RowKit
set_option maxRecDepth 100000

/-- what refused answers, and how many parts were asked -/
def rg (len : Nat) (pos : Nat → Nat) (bo : Nat → Bool) : Nat → Nat → Int × Nat
  | 0, k => (-1, k)
  | r + 1, k => if pos k = len then (-1, k) else if bo k then rg len pos bo r (k + 1) else ((pos k : Int), k + 1)

theorem rg_end {len : Nat} {pos : Nat → Nat} {bo : Nat → Bool} {r k : Nat} (h : pos k = len) : rg len pos bo (r + 1) k = (-1, k) := by
  show (if pos k = len then _ else _) = _; rw [if_pos h]
theorem rg_no {len : Nat} {pos : Nat → Nat} {bo : Nat → Bool} {r k : Nat} (h : pos k ≠ len) (hb : bo k = false) : rg len pos bo (r + 1) k = ((pos k : Int), k + 1) := by
  show (if pos k = len then _ else if bo k then _ else _) = _; rw [if_neg h, hb]; rfl
theorem rg_yes {len : Nat} {pos : Nat → Nat} {bo : Nat → Bool} {r k : Nat} (h : pos k ≠ len) (hb : bo k = true) : rg len pos bo (r + 1) k = rg len pos bo r (k + 1) := by
  show (if pos k = len then _ else if bo k then _ else _) = _; rw [if_neg h, hb]; rfl

/-- a part lies in block b -/
def PBox (w : World) (b : Nat) (d : Nat) (f : Value) : Prop := w.heap[b]? = some (.cells #[.int .i64 (d : Int), f] 285 (0, 0))
theorem PBox.facts {w : World} {b d : Nat} {f : Value} (h : PBox w b d f) : w.cell? ⟨b, 0, none⟩ = some (.int .i64 (d : Int)) ∧ w.cell? ⟨b, 1, none⟩ = some f ∧ b < w.heap.size :=
  ⟨by rw [Lib.cell_of_heap h]; rfl, by rw [Lib.cell_of_heap h]; rfl, (Array.getElem?_eq_some_iff.1 h).1⟩

theorem sub_extract (t : ByteArray) (a k : Nat) : (t.extract a (a + k)).data.toList = subC t.data.toList a k := by
  unfold subC
  rw [ByteArray.data_extract, Array.toList_extract, List.extract_eq_take_drop]
  congr 1
  omega

theorem run_sub (t : ByteArray) (i j : Nat) (z : Int) (hz : z = (j : Int)) (hij : i ≤ j) (hj : j ≤ t.size) (w : World) :
    (Instr.slice 9 (.string t) (some (.int .i64 (i : Int))) (some (.int .i64 z)) none).run Tryz.prog w = .ok (.string (t.extract i j)) w := by
  subst hz
  simp [Instr.slice, Instr.sliceBounds, Instr.sliceBound, asIntOf, run_underlying Tryz.underlying9, go_sem, hij, hj]

set_option maxHeartbeats 1000000 in
theorem refused_any (t : ByteArray) (ht : t.size ≤ 64) (N b : Nat) (dg K pos : Nat → Nat) (cp : Nat → Array Value) (bo : Nat → Bool) (S : Nat → World → Prop) (L : Nat)
    (hN : N ≤ 3) (eg : ∀ k args w, (callFunc (K k) args).run Tryz.prog w = .ok (.enter (K k) args) w)
    (hS : ∀ k w w', S k w → Below w.heap.size w w' → S k w') (hL : ∀ k w, S k w → L ≤ w.heap.size)
    (hP : ∀ k j w, j < N → S k w → w.cell? ⟨b, j * 2, none⟩ = some (.int .i64 (dg j : Int)) ∧ w.cell? ⟨b, j * 2 + 1, none⟩ = some (.func (.func (K j)) #[] (cp j)))
    (h0 : sk t.data.toList 0 = pos 0) (hp : ∀ k, k + 1 < N → pos k ≠ t.size → sk t.data.toList (pos k + dg k) = pos (k + 1))
    (hd : ∀ k, k < N → pos k = t.size ∨ (pos k + dg k ≤ t.size ∧ 1 ≤ dg k ∧ dg k ≤ 9 ∧ ∀ c ∈ subC t.data.toList (pos k) (dg k), isDBC c = true))
    (hC : ∀ k w, k < N → pos k ≠ t.size → S k w → Calls Tryz.prog (K k) (#[.int .i64 (nm (subC t.data.toList (pos k) (dg k)) : Int)] ++ cp k) w fun e w' => e = .returned (.bool (bo k)) ∧ S (k + 1) w' ∧ ∀ x, L ≤ x → x < w.heap.size → w'.heap[x]? = w.heap[x]?)
    (w : World) (hw : S 0 w) :
    Calls Tryz.prog 233 #[.string t, .slice (some ⟨b, 0, none⟩) N N] w fun e w' => e = .returned (.int .i64 (rg t.size pos bo N 0).1) ∧ S (rg t.size pos bo N 0).2 w' := by
  have lt : t.data.toList.length = t.size := Array.length_toList
  have HD := hidC (fun c w => isDigit_anyC c w)
  have LT := hidC lt
  have HS := hidC hS
  have HL := hidC hL
  have HP := hidC hP
  have H0 := hidC h0
  have Hp := hidC hp
  have Hd := hidC hd
  have HC := hidC hC
  have HW := hidC hw
  clear lt hS hL hP h0 hp hd hC hw
  go_enter Tryz.func233, Tryz.ntmps233
  go_wp2_with fail
  go_loopw [5, 12] (fun a i wr => ∃ (k x : Nat), i = .int .i64 (k : Int) ∧ a = .int .i64 (x : Int) ∧ k ≤ N ∧ x ≤ t.size ∧ (k < N → sk t.data.toList x = pos k) ∧ rg t.size pos bo (N - k) k = rg t.size pos bo N 0 ∧ S k wr) (fun _ i _ => N - (intOf i).toNat)
  case atStart => exact ⟨0, 0, rfl, rfl, by omega, by omega, fun _ => H0.out, rfl, HW.out⟩
  case round =>
    obtain ⟨k, x, rfl, rfl, hkN, hxt, hsk, hrg, hSk⟩ := hrel
    have HK := hidC hSk
    have HSK := hidC hsk
    have HR := hidC hrg
    clear hSk hsk hrg
    by_cases hk : k < N
    · obtain ⟨c0, c1⟩ := HP.out k k _ hk HK.out
      have HPB := hidC (show PBox (wr.alloc (Obj.cells #[Value.int IntKind.i64 ((dg k : Nat) : Int), Value.func (Fn.func (K k)) #[] (cp k)] 285)) wr.heap.size (dg k) (.func (.func (K k)) #[] (cp k)) from heap_alloc_new _ _)
      have HK1 := hidC (HS.out k _ _ HK.out ((Below.refl _ _).alloc (Nat.le_refl _) (Obj.cells #[Value.int IntKind.i64 ((dg k : Nat) : Int), Value.func (Fn.func (K k)) #[] (cp k)] 285)))
      have hLb : L ≤ wr.heap.size := HL.out _ _ HK.out
      go_wp2_with fail
      generalize wr.heap.size = pb at *
      go_loopw [5] (fun a wx => ∃ y : Nat, a = .int .i64 (y : Int) ∧ y ≤ t.size ∧ sk t.data.toList y = pos k ∧ PBox wx pb (dg k) (.func (.func (K k)) #[] (cp k)) ∧ S k wx) (fun a _ => t.size - (intOf a).toNat)
      case atStart => exact ⟨x, rfl, hxt, HSK.out hk, HPB.out, HK1.out⟩
      case round =>
        clear HPB HK1 HK c0 c1
        obtain ⟨y, rfl, hy, hsy, hpb, hSx⟩ := hrel
        have HPB := hidC hpb
        have HK := hidC hSx
        have HSY := hidC hsy
        clear hpb hSx hsy
        by_cases h1 : y < t.size
        · have i1 : (y : Int) < (t.size : Int) := by omega
          have bt := byte_at t y h1
          have HG := hidC (HD.out t[y])
          by_cases hg : isDBC t[y] = true
          · rw [hg] at HG
            have hpos : pos k = y := by rw [← HSY.out]; exact sk_hit _ _ (by rw [LT.out]; exact h1) (by rw [bt]; exact hg)
            have hne : pos k ≠ t.size := by omega
            obtain ⟨d1, d2, d3, d4⟩ := (Hd.out k hk).resolve_left hne
            have HDG := hidC d4
            have d1' : y + dg k ≤ t.size := by omega
            clear hg bt d4
            go_wp2_with fail
            refine (HG.out _).mono ?_
            rintro e w' ⟨rfl, rfl⟩
            obtain ⟨p0, p1, p2⟩ := HPB.out.facts
            have hxs : (t.extract y (y + dg k)).size = dg k := by rw [ByteArray.size_extract]; omega
            have HX := hidC (show (t.extract y (y + dg k)).data.toList = subC t.data.toList (pos k) (dg k) by rw [hpos]; exact sub_extract t y (dg k))
            have qs := fun w => run_sub t y (y + dg k) ((y : Int) + (dg k : Int)) (by omega) (by omega) d1' w
            have HAT := hidC (fun w => Tryz.strconv_Atoi (t.extract y (y + dg k)) (nm (subC t.data.toList (pos k) (dg k)) : Int) (by omega) (by rw [HX.out]; exact atoi_digits _ (fun e => by have := sub_lenC t.data.toList (pos k) (dg k) (by rw [LT.out]; omega); rw [e] at this; simp at this; omega) HDG.out) w)
            go_wp2_with fail
            refine (HAT.out _).mono ?_
            rintro e wa ⟨rfl, ta, hwa⟩
            have HB := hidC (show Below w'.heap.size w' wa by rw [hwa]; exact Go.Joins.below_bytesWorld _ _ _ _ (Nat.le_refl _))
            clear hwa ta HAT
            have HPA := hidC (show PBox wa pb (dg k) (.func (.func (K k)) #[] (cp k)) from (HB.out.block pb p2).trans HPB.out)
            have HKA := hidC (HS.out _ _ _ HK.out HB.out)
            clear p0 p1
            obtain ⟨p0, p1, p3⟩ := HPA.out.facts
            have HCk := hidC (HC.out k wa hk hne HKA.out)
            have egk := eg k
            have hz0 : (((y : Nat) : Int) == ((t.size : Nat) : Int)) = false := by rw [beq_eq_false_iff_ne]; omega
            have HPS := hidC hpos
            cases hbo : bo k
            · rw [hbo] at HCk
              have HE := hidC (show rg t.size pos bo N 0 = ((y : Int), k + 1) by rw [← HR.out, show N - k = (N - k - 1) + 1 by omega, rg_no hne hbo, hpos])
              clear hbo hpos hne
              go_wp2_with fail
              refine HCk.out.mono ?_
              rintro e wb ⟨rfl, hSb, hkb⟩
              have HSB := hidC hSb
              clear hSb hkb
              go_wp2
              go_ret
              rw [HE.out]
              exact ⟨rfl, HSB.out⟩
            · rw [hbo] at HCk
              have HE := hidC (show rg t.size pos bo (N - (k + 1)) (k + 1) = rg t.size pos bo N 0 by rw [← HR.out, show N - k = (N - (k + 1)) + 1 by omega, rg_yes hne hbo])
              have HN := hidC (fun h => Hp.out k h hne)
              clear hbo hpos hne
              go_wp2_with fail
              refine HCk.out.mono ?_
              rintro e wb ⟨rfl, hSb, hkb⟩
              have HSB := hidC hSb
              have HPX := hidC (show PBox wb pb (dg k) (.func (.func (K k)) #[] (cp k)) from (hkb pb hLb p3).trans HPA.out)
              clear hSb hkb p0 p1 p3
              obtain ⟨p0, p1, p3⟩ := HPX.out.facts
              go_wp2
              go_roundw
              case rel => exact ⟨k + 1, y + dg k, by go_num, by go_num, by omega, by omega, fun h => by have := HN.out h; rw [HPS.out] at this; exact this, HE.out, HSB.out⟩
              case measure => simp [intOf]; omega
          · have hg' : isDBC t[y] = false := by simpa using hg
            rw [hg'] at HG
            have HSN := hidC (show sk t.data.toList (y + 1) = pos k by rw [← HSY.out]; exact (sk_miss _ _ (by rw [LT.out]; exact h1) (by rw [bt]; exact hg')).symm)
            clear hg hg' bt
            go_wp2_with fail
            refine (HG.out _).mono ?_
            rintro e w' ⟨rfl, rfl⟩
            go_wp2
            go_roundw
            case rel => exact ⟨y + 1, by go_num, by omega, HSN.out, HPB.out, HK.out⟩
            case measure => simp [intOf]; omega
        · have hye : y = t.size := by omega
          have hpos : pos k = t.size := by rw [← HSY.out, sk_end _ _ (by rw [LT.out]; omega)]; exact hye
          have HE := hidC (show rg t.size pos bo N 0 = (-1, k) by rw [← HR.out, show N - k = (N - k - 1) + 1 by omega]; exact rg_end hpos)
          go_wp2
          go_ret
          rw [HE.out]
          exact ⟨rfl, HK.out⟩
    · have HE := hidC (show rg t.size pos bo N 0 = (-1, k) by rw [← HR.out, show N - k = 0 by omega]; rfl)
      go_wp2
      go_ret
      rw [HE.out]
      exact ⟨rfl, HK.out⟩
end Go.Proofs.YtmgfdnccmeahjaaGreatDoor
