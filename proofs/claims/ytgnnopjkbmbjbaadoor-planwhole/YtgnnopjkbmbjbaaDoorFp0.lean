/-
  plan, Point, pure: what is tested, what is reckoned.
-/
import Derived.Test.YtgnnopjkbmbjbaaDoorFx3
namespace Go.Proofs.YtgnnopjkbmbjbaaDoor
open Go.RowKit
set_option maxRecDepth 100000
set_option linter.unusedSimpArgs false

/-- from 0 to most -/
def upB (b most : Nat) : Bool := (dbl.order b 0 == some .gt || dbl.order b 0 == some .eq) && (dbl.order b most == some .lt || dbl.order b most == some .eq)
theorem zero_FV : FV 0 false 0 := ⟨0, -1074, by decide +kernel, by omega, sc_nil _ _⟩
theorem cmp_le {x y : Int} (h : compare x y = .lt ∨ compare x y = .eq) : x ≤ y := by
  rcases h with h | h
  · exact Int.le_of_lt (Int.compare_eq_lt.1 h)
  · exact Int.le_of_eq (Int.compare_eq_eq.1 h)
theorem cmp_ge {x y : Int} (h : compare x y = .gt ∨ compare x y = .eq) : y ≤ x := by
  rcases h with h | h
  · exact Int.le_of_lt (Int.compare_eq_gt.1 h)
  · exact Int.le_of_eq (Int.compare_eq_eq.1 h).symm
theorem up_NN {b most c : Nat} (hm : FV most false (c * U)) (h : upB b most = true) : NN b c := by
  unfold upB at h
  simp only [Bool.and_eq_true, Bool.or_eq_true, beq_iff_eq] at h
  obtain ⟨h1, h2⟩ := h
  have key : ∃ s v, FV b s v := by
    rcases rdF_cases b with ⟨s, m, e, hr, _, he, _⟩ | ⟨s, hr⟩ | ⟨s, t, hr⟩
    · exact ⟨s, _, m, e, hr, he, rfl⟩
    · exfalso
      have z1 : dbl.order b 0 = (rdF b).order (rdF 0) := rfl
      obtain ⟨m, e, hr2, _⟩ := hm
      have z2 : dbl.order b most = (rdF b).order (rdF most) := rfl
      rw [z1, hr, zero_FV.choose_spec.choose_spec.1] at h1
      rw [z2, hr, hr2] at h2
      cases s <;> simp [Ieee.Datum.order] at h1 h2
    · exfalso
      have z1 : dbl.order b 0 = none := order_nan (by unfold nanB; rw [hr]; rfl) 0
      rw [z1] at h1
      simp at h1
  obtain ⟨s, v, hv⟩ := key
  rw [order_FV hv zero_FV] at h1
  rw [order_FV hv hm] at h2
  simp only [Option.some.injEq] at h1 h2
  have a1 := cmp_ge h1
  have a2 := cmp_le h2
  unfold sg at a1 a2
  refine ⟨s, v, hv, fun hs => ?_, ?_⟩
  · rw [if_pos hs] at a1; simp at a1; omega
  · cases s
    · simp at a2
      omega
    · simp at a1; omega
theorem nine_FV : FV 4741671816366391296 false (1000000000 * U) := by
  have e : 4741671816366391296 = floatOfInt .f64 ((1000000000 : Nat) : Int) := by decide +kernel
  rw [e]
  exact int_FV 1000000000 (by omega)
theorem ten_FV : FV 4621819117588971520 false (10 * U) := by
  have e : 4621819117588971520 = floatOfInt .f64 ((10 : Nat) : Int) := by decide +kernel
  rw [e]
  exact int_FV 10 (by omega)
/-- roots of whole numbers up to 1000 -/
def sqOk (L : Nat) : Bool := match dbl.sqrt (floatOfInt .f64 (L : Int)) with
  | some r => (match rdF r with | .number s m e => !s && (decide (-1074 ≤ e) && decide (sc m e (-1074) ≤ 64 * U)) | _ => false)
  | none => false
theorem sq_all : (List.range 1001).all sqOk = true := by decide +kernel
theorem sqrt_NN (L : Nat) (h : L ≤ 1000) : ∃ r, dbl.sqrt (floatOfInt .f64 (L : Int)) = some r ∧ NN r 64 := by
  have := List.all_eq_true.1 sq_all L (by simp; omega)
  unfold sqOk at this
  cases hq : dbl.sqrt (floatOfInt .f64 (L : Int)) with
  | none => rw [hq] at this; cases this
  | some r =>
    rw [hq] at this
    refine ⟨r, rfl, ?_⟩
    simp only at this
    rcases rdF_cases r with ⟨s, m, e, hr, _, he, _⟩ | ⟨s, hr⟩ | ⟨s, t, hr⟩
    · rw [hr] at this
      simp only [Bool.and_eq_true, Bool.not_eq_true', decide_eq_true_eq] at this
      obtain ⟨rfl, _, h3⟩ := this
      exact ⟨false, _, ⟨m, e, hr, he, rfl⟩, fun h => (by cases h), h3⟩
    · rw [hr] at this; cases this
    · rw [hr] at this; cases this
/-- what is reckoned -/
structure Zed (M D Z : Nat) (L : Nat) (x y q y2 z : Nat) : Prop where
  hx : dbl.mul M (floatOfInt .f64 (L : Int)) = some x
  hy : dbl.mul Z D = some y
  hq : dbl.sqrt (floatOfInt .f64 (L : Int)) = some q
  h2 : dbl.mul y q = some y2
  hz : dbl.add x y2 = some z
theorem zed_there {M D Z : Nat} {L : Nat} (h1 : upB M 4741671816366391296 = true) (h2 : upB D 4741671816366391296 = true) (h3 : upB Z 4621819117588971520 = true) (hL : L ≤ 1000) :
    ∃ x y q y2 z, Zed M D Z L x y q y2 z ∧ NN z 1640000000000 := by
  have nM := up_NN nine_FV h1
  have nD := up_NN nine_FV h2
  have nZ := up_NN ten_FV h3
  obtain ⟨x, hx, nx⟩ := mul_NN nM (int_NN L (by omega)) (by omega)
  obtain ⟨y, hy, ny⟩ := mul_NN nZ nD (by omega)
  obtain ⟨q, hq, nq⟩ := sqrt_NN L hL
  obtain ⟨y2, h2', n2⟩ := mul_NN ny nq (by omega)
  obtain ⟨z, hz, nz⟩ := add_NN nx n2 (by omega)
  exact ⟨x, y, q, y2, z, ⟨hx, hy, hq, h2', hz⟩, nz.mono (by omega)⟩
/-- what Point answers -/
def PtA (M D Z : Nat) (L : Int) (k e : Int) : Prop :=
  ((upB M 4741671816366391296 && (upB D 4741671816366391296 && (upB Z 4621819117588971520 && (decide (0 ≤ L) && decide (L ≤ 1000))))) = false ∧ k = 0 ∧ e = 172) ∨
  ∃ (n : Nat) (x y q y2 z : Nat) (s : Bool) (v : Nat), L = n ∧ n ≤ 1000 ∧ (upB M 4741671816366391296 && (upB D 4741671816366391296 && (upB Z 4621819117588971520 && (decide (0 ≤ L) && decide (L ≤ 1000))))) = true ∧ Zed M D Z n x y q y2 z ∧ FV z s v ∧ k = (cei v : Nat) ∧ e = 0
theorem Zed.same {M D Z n x y q y2 z x' y' q' y2' z' : Nat} (h : Zed M D Z n x y q y2 z) (h' : Zed M D Z n x' y' q' y2' z') : z = z' := by
  have e1 := h.hx.symm.trans h'.hx
  have e2 := h.hy.symm.trans h'.hy
  have e3 := h.hq.symm.trans h'.hq
  cases e1
  cases e2
  cases e3
  have e4 := h.h2.symm.trans h'.h2
  cases e4
  have e5 := h.hz.symm.trans h'.hz
  cases e5
  rfl
theorem PtA.same {M D Z : Nat} {L k e k' e' : Int} (h : PtA M D Z L k e) (h' : PtA M D Z L k' e') : k = k' ∧ e = e' := by
  rcases h with ⟨h1, rfl, rfl⟩ | ⟨n, x, y, q, y2, z, s, v, rfl, _, h1, hz, hv, rfl, rfl⟩ <;> rcases h' with ⟨h1', rfl, rfl⟩ | ⟨n', x', y', q', y2', z', s', v', hn, _, h1', hz', hv', rfl, rfl⟩
  · exact ⟨rfl, rfl⟩
  · rw [h1] at h1'; cases h1'
  · rw [h1] at h1'; cases h1'
  · obtain rfl : n = n' := by omega
    obtain rfl := hz.same hz'
    rw [(hv.same hv').2]
    exact ⟨rfl, rfl⟩
end Go.Proofs.YtgnnopjkbmbjbaaDoor
