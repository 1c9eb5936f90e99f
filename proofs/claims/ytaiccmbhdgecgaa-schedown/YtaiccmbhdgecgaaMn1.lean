/-
  chosen, areSteps, Count: of any steps.
-/
import Derived.Test.YtaiccmbhdgecgaaMn0
namespace Go.Proofs.Ytaiccmbhdgecgaa
open Go.RowKit
set_option maxRecDepth 100000

set_option maxHeartbeats 400000 in
theorem chosen24 (p n : Nat) (w : World) (hp : p ≤ 24) (hn : n ≤ p) :
    Calls Try.prog 32 #[.int .i64 (p : Int), .int .i64 (n : Int)] w fun e w' => e = .returned (.int .i64 (chs p n n : Int)) ∧ w' = w := by
  go_enter Try.func32, Try.ntmps32
  go_wp2_with fail
  go_loopw [5, 6] (fun vc vi wx => ∃ i : Nat, i ≤ n ∧ vi = .int .i64 ((i : Int) + 1) ∧ vc = .int .i64 (chs p n i : Int) ∧ wx = w) (fun _ vi _ => n + 1 - (intOf vi).toNat)
  case atStart => exact ⟨0, Nat.zero_le _, rfl, rfl, rfl⟩
  case round =>
    obtain ⟨i, hi, rfl, rfl, rfl⟩ := hrel
    have hc := (chs_le24 p n i hp hn hi).1
    by_cases h : i < n
    · have hI : (i : Int) + 1 ≤ (n : Int) := by omega
      have HV := hid (show chs p n (i + 1) = chs p n i * (p - n + (i + 1)) / (i + 1) from rfl)
      generalize chs p n i = c at *
      have hm : c * (p - n + (i + 1)) ≤ 2704156 * 25 := Nat.mul_le_mul hc (by omega)
      have hz : ((i : Int) + 1) ≠ 0 := by omega
      have e1 : (c : Int) * ((p : Int) - (n : Int) + ((i : Int) + 1)) = ((c * (p - n + (i + 1)) : Nat) : Int) := by push_cast; rw [show ((p - n : Nat) : Int) = (p : Int) - (n : Int) by omega]
      have e2 : (((c * (p - n + (i + 1)) : Nat) : Int)).tdiv ((i : Int) + 1) = ((c * (p - n + (i + 1)) / (i + 1) : Nat) : Int) := by
        rw [show ((i : Int) + 1) = ((i + 1 : Nat) : Int) by omega]
        rfl
      have hq : c * (p - n + (i + 1)) / (i + 1) ≤ 67603900 := Nat.le_trans (Nat.div_le_self _ _) hm
      go_wp2
      go_roundw
      case rel =>
        refine ⟨i + 1, by omega, by go_num, ?_, by first | rfl | trivial⟩
        rw [HV.out]
        rw [show ((p - n : Nat) : Int) = (p : Int) - (n : Int) by omega, e1]
        generalize c * (p - n + (i + 1)) = z at *
        rw [show wrap64 (z : Int) = (z : Int) by unfold wrap64; omega, e2]
        generalize z / (i + 1) = y at *
        rw [show wrap64 (y : Int) = (y : Int) by unfold wrap64; omega]
      case measure => simp [intOf]; omega
    · have hI : ¬ (i : Int) + 1 ≤ (n : Int) := by omega
      obtain rfl : i = n := by omega
      go_wp2
      go_ret
      exact ⟨rfl, rfl⟩
/-- may these be steps -/
def chk : List Int → Int → Bool
  | [], _ => true
  | x :: t, room => if x < 0 ∨ room < x then false else chk t (room - x)
def stOk (R : List Int) : Bool := okN (R.length : Int) && chk R 24
def nats (R : List Int) : List Nat := R.map Int.toNat
theorem chk_nat : ∀ (R : List Int) (room : Nat), chk R (room : Int) = true → R = iN (nats R) ∧ tN2 (nats R) ≤ room := by
  have sc : ∀ (x : Nat) (T : List Nat) (j : Nat), sN (x :: T) (j + 1) = x + sN T j := by
    intro x T j
    induction j with
    | zero => simp [sN]
    | succ j ih =>
      show sN (x :: T) (j + 1) + (x :: T).getD (j + 1) 0 = x + (sN T j + T.getD j 0)
      rw [ih]
      simp
      omega
  intro R
  induction R with
  | nil => intro room _; exact ⟨rfl, Nat.zero_le _⟩
  | cons x t ih =>
    intro room h
    unfold chk at h
    by_cases hx : x < 0 ∨ (room : Int) < x
    · rw [if_pos hx] at h; cases h
    · rw [if_neg hx] at h
      obtain ⟨y, rfl⟩ : ∃ y : Nat, x = (y : Int) := ⟨x.toNat, by omega⟩
      rw [show (room : Int) - (y : Int) = ((room - y : Nat) : Int) by omega] at h
      obtain ⟨h1, h2⟩ := ih (room - y) h
      refine ⟨?_, ?_⟩
      · show (y : Int) :: t = iN (Int.toNat (y : Int) :: nats t)
        rw [Int.toNat_natCast]
        show _ = (y : Int) :: iN (nats t)
        rw [← h1]
      · show sN (Int.toNat (y : Int) :: nats t) (nats t).length.succ ≤ room
        rw [Int.toNat_natCast]
        show sN (y :: nats t) ((nats t).length + 1) ≤ room
        rw [sc]
        have : sN (nats t) (nats t).length ≤ room - y := h2
        omega
set_option maxHeartbeats 400000 in
theorem areR_any (v : Value) (R : List Int) (w : World) (hr : RI w v R) (hl : R.length ≤ 9223372036854775807) :
    Calls Try.prog 31 #[v] w fun e w' => e = .returned (.bool (stOk R)) ∧ w' = w := by
  obtain ⟨ao, cap, rfl, hc, hn0, hcell⟩ := hr
  have HC := hid hcell
  have HK := hid (isCount_any (R.length : Int) w)
  clear hcell hn0
  unfold stOk
  by_cases hk : okN (R.length : Int) = true
  · rw [hk] at HK
    have hk2 := (okN_iff _).1 hk
    rw [hk, Bool.true_and]
    have hl16 : R.length ≤ 16 := by omega
    clear hk hk2
    go_enter Try.func31, Try.ntmps31
    go_wp2_with fail
    refine Calls.mono HK.out ?_
    rintro e w1 ⟨rfl, rfl⟩
    clear HK
    go_wp2_with fail
    go_loopw [3, 5, 12] (fun vs _ vi wx => ∃ (j : Nat) (room : Int), j ≤ R.length ∧ vi = .int .i64 (j : Int) ∧ vs = .int .i64 room ∧ 0 ≤ room ∧ room ≤ 24 ∧ chk R 24 = chk (R.drop j) room ∧ wx = w1) (fun _ _ vi _ => R.length - (intOf vi).toNat)
    case atStart => exact ⟨0, 24, Nat.zero_le _, rfl, rfl, by omega, by omega, rfl, rfl⟩
    case round =>
      obtain ⟨j, room, hj, rfl, rfl, h0, h24, hck, rfl⟩ := hrel
      have HCk := hid hck
      clear hck
      by_cases h : j < R.length
      · have hI : (j : Int) < (R.length : Int) := by omega
        obtain ⟨g, off, hao, c0⟩ := HC.out j h
        subst hao
        have HD := hid (show chk (R.drop j) room = if R[j] < 0 ∨ room < R[j] then false else chk (R.drop (j + 1)) (room - R[j]) by rw [List.drop_eq_getElem_cons h]; rfl)
        generalize R[j] = x at c0 HD
        by_cases d1 : x < 0
        · have HE := hid (show chk R 24 = false by rw [HCk.out, HD.out, if_pos (.inl d1)])
          go_wp2
          go_ret
          exact ⟨by rw [HE.out]; rfl, rfl⟩
        · by_cases d2 : room < x
          · have HE := hid (show chk R 24 = false by rw [HCk.out, HD.out, if_pos (.inr d2)])
            go_wp2
            go_ret
            exact ⟨by rw [HE.out]; rfl, rfl⟩
          · have HN := hid (show chk R 24 = chk (R.drop (j + 1)) (room - x) by rw [HCk.out, HD.out, if_neg (by omega)])
            go_wp2
            go_roundw
            case rel => exact ⟨j + 1, room - x, by omega, by go_num, by go_num, by omega, by omega, HN.out, by first | rfl | trivial⟩
            case measure => simp [intOf]; omega
      · have hI : ¬ (j : Int) < (R.length : Int) := by omega
        have HE := hid (show chk R 24 = true by rw [HCk.out, List.drop_eq_nil_of_le (by omega)]; rfl)
        go_wp2
        go_ret
        exact ⟨by rw [HE.out]; rfl, rfl⟩
  · have hk' : okN (R.length : Int) = false := by simpa using hk
    rw [hk'] at HK ⊢
    rw [Bool.false_and]
    go_enter Try.func31, Try.ntmps31
    go_wp2_with fail
    refine Calls.mono HK.out ?_
    rintro e w1 ⟨rfl, rfl⟩
    clear HK
    go_wp2
    go_ret
    exact ⟨rfl, rfl⟩
end Go.Proofs.Ytaiccmbhdgecgaa
